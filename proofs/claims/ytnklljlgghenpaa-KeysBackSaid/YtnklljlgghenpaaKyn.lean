import Derived.Test.YtnklljlgghenpaaProg
import Derived.Test.YtnklljlgghenpaaKyl
namespace Go.Proofs.Ytnklljlgghenpaa
open Go.RowKit

/-- Two lists of rows that read alike, and what has been done so far. -/
structure TwoInv (W wr : World) (c c' m : Nat) (gs os cs gs' os' cs' : Nat → Nat) (Y : Nat → Nat → Nat) : Prop where
  one : RL wr c m 16 gs os cs Y
  two : RL wr c' m 16 gs' os' cs' Y
  low : Below W.heap.size W wr
theorem TwoInv.drewN {W wr : World} {c c' m : Nat} {gs os cs gs' os' cs' : Nat → Nat} {Y : Nat → Nat → Nat} (h : TwoInv W wr c c' m gs os cs gs' os' cs' Y) (n : Nat) : TwoInv W (wr.drewN n) c c' m gs os cs gs' os' cs' Y :=
  ⟨h.one.self (below_drewN wr n), h.two.self (below_drewN wr n), h.low.trans ((below_drewN wr n).mono h.low.size)⟩

set_option maxRecDepth 100000 in
set_option maxHeartbeats 6400000 in
theorem ktells_ok (kb ko kc K L R R1 M N : Nat) (n : Int) (k : Nat → Nat) (w : World) (hL : L = 4 * K) (hR : rnd (L : Int) = R) (hR1 : R1 = R + 1) (hM : M = 4 * R1) (hMN : M = K + N) (hK : 4 ≤ K) (hK8 : K ≤ 8) (hN : N ≤ 900) (hR0 : 0 < R) (hc : L ≤ kc) (hkc : kc ≤ maxLen)
    (hk : ∀ x, k x < 256) (hA : Wd w L kb ko k) (hn : n ≤ 9223372036854775807) :
    Calls Try.prog 3 #[.slice (some ⟨kb, ko, none⟩) L kc, .int .i64 n] w fun e w' => e = .returned (.bool true) ∧ Below w.heap.size w w' := by
  have HRD := hid (fun w => rounds_any n w)
  have HRR := hid (fun w => refrounds_any n w)
  have HMK := hid (fun w => mark_any n w hn)
  have HRM := hid (fun w => refmark_any n w hn)
  have HE := hid (expand_ok kb ko kc K L R R1 M N k w hL hR hR1 hM hMN hK hK8 hN hR0 hc hkc hk hA)
  have HF := hid (fun w' (h : Wd w' L kb ko k) => refexpand_ok kb ko kc K L R R1 M N k w' hL hR hR1 hM hMN hK hK8 hN hR0 hk h)
  have HA := hid hA
  have HAW := hid kawake_any
  have HR1 : Hid (R1 ≤ 1000) := hid (by omega)
  generalize rkey K k N = Y at *
  generalize rnd n = rn at *
  generalize mki n = mn at *
  clear hA hn hL hR hR1 hM hMN hc hkc
  go_enter Try.func3, Try.ntmps3
  go_wp2_with (first
    | (go_at_call 5; (with_reducible refine (HRD.out _).mono ?_); rintro e u1 ⟨rfl, rfl⟩)
    | (go_at_call 6; (with_reducible refine (HRR.out _).mono ?_); rintro e u1 ⟨rfl, rfl⟩)
    | (go_at_call 7; (with_reducible refine (HMK.out _).mono ?_); rintro e u1 ⟨rfl, rfl⟩)
    | (go_at_call 8; (with_reducible refine (HRM.out _).mono ?_); rintro e u1 ⟨rfl, rfl⟩)
    | (go_at_call 9; (with_reducible refine (HE.out).mono ?_); rintro e u2 ⟨c, gs, cs, rfl, hr, hl⟩; have HC2 := hid hr; have HL2 := hid hl; clear hr hl)
    | (go_at_call 10; (with_reducible refine (HF.out _ (HA.out.self HL2.out)).mono ?_); rintro e u3 ⟨c', cap', gs', cs', rfl, hr, hl⟩; have HI3 : Hid (TwoInv _ u3 c c' R1 gs (fun _ => 0) cs gs' (fun _ => 0) cs' Y) := hid ⟨HC2.out.self hl, hr, HL2.out.trans (hl.mono HL2.out.size)⟩; clear hr hl))
  go_loopw [9] (fun i wr => ∃ j : Nat, j ≤ R1 ∧ i = .int .i64 (j : Nat) ∧ TwoInv u1 wr c c' R1 gs (fun _ => 0) cs gs' (fun _ => 0) cs' Y) (fun i _ => R1 - (intOf i).toNat)
  case atStart => exact ⟨0, by omega, rfl, HI3.out⟩
  case round =>
    obtain ⟨j, hj, rfl, hI⟩ := hrel
    have HI := hid hI
    clear hI
    by_cases hlt : j < R1
    · have q1 : ∀ m, (wr.drewN m).cell? ⟨c, j, none⟩ = some (.slice (some ⟨gs j, 0, none⟩) 16 (cs j)) := fun m => (HI.out.drewN m).one.cell j hlt
      have q2 : ∀ m, (wr.drewN m).cell? ⟨c', j, none⟩ = some (.slice (some ⟨gs' j, 0, none⟩) 16 (cs' j)) := fun m => (HI.out.drewN m).two.cell j hlt
      have k1 : ∀ m, (convert 22 9 (.slice (some ⟨gs j, 0, none⟩) 16 (cs j))).run Try.prog (wr.drewN m) = .ok (.string (strOfNums (ns 16 (Y j)))) (wr.drewN m) := fun m =>
        run_conv_rd (P := Try.prog) (((HI.out.drewN m).one.each j hlt).rd (cs j) (by decide)) Try.underlying22 Try.underlying5 9 Try.underlying9
      have k2 : ∀ m, (convert 22 9 (.slice (some ⟨gs' j, 0, none⟩) 16 (cs' j))).run Try.prog (wr.drewN m) = .ok (.string (strOfNums (ns 16 (Y j)))) (wr.drewN m) := fun m =>
        run_conv_rd (P := Try.prog) (((HI.out.drewN m).two.each j hlt).rd (cs' j) (by decide)) Try.underlying22 Try.underlying5 9 Try.underlying9
      have hb1 := HR1.out
      have b0 : (0 : Int) ≤ (j : Int) := by omega
      have b1 : (j : Int) < (R1 : Int) := by omega
      have HD := hid (fun m => HI.out.drewN m)
      generalize strOfNums (ns 16 (Y j)) = st at *
      generalize gs j = g1 at *
      generalize gs' j = g2 at *
      generalize cs j = k1' at *
      generalize cs' j = k2' at *
      go_wp2
      go_quiet (fail)
      go_wp2
      go_roundw
      case rel => exact ⟨j + 1, by omega, by go_num, HD.out _⟩
      case measure => simp [intOf]; omega
    · obtain rfl : j = R1 := by omega
      go_wp2_with (first
        | (go_at_call 11; (with_reducible refine (HAW.out _).mono ?_); rintro e u4 ⟨rfl, hl4⟩; have HL4 := hid (HI.out.low.trans (hl4.mono HI.out.low.size)); clear hl4))
      go_ret
      exact ⟨rfl, HL4.out⟩

set_option maxRecDepth 100000 in
set_option maxHeartbeats 1600000 in
theorem ktells_bad (a : Option Addr) (L kc : Nat) (n : Int) (w : World) (h : rnd (L : Int) = 0) (hn : n ≤ 9223372036854775807) :
    Calls Try.prog 3 #[.slice a L kc, .int .i64 n] w fun e w' => e = .returned (.bool true) ∧ Below w.heap.size w w' := by
  have HRD := hid (fun w => rounds_any n w)
  have HRR := hid (fun w => refrounds_any n w)
  have HMK := hid (fun w => mark_any n w hn)
  have HRM := hid (fun w => refmark_any n w hn)
  have HE := hid (fun w => expand_bad a L kc w h)
  have HF := hid (fun w => refexpand_bad a L kc w h)
  have HAW := hid kawake_any
  generalize rnd n = rn at *
  generalize mki n = mn at *
  clear hn h
  go_enter Try.func3, Try.ntmps3
  go_wp2_with (first
    | (go_at_call 5; (with_reducible refine (HRD.out _).mono ?_); rintro e u1 ⟨rfl, rfl⟩)
    | (go_at_call 6; (with_reducible refine (HRR.out _).mono ?_); rintro e u1 ⟨rfl, rfl⟩)
    | (go_at_call 7; (with_reducible refine (HMK.out _).mono ?_); rintro e u1 ⟨rfl, rfl⟩)
    | (go_at_call 8; (with_reducible refine (HRM.out _).mono ?_); rintro e u1 ⟨rfl, rfl⟩)
    | (go_at_call 9; (with_reducible refine (HE.out _).mono ?_); rintro e u1 ⟨rfl, rfl⟩)
    | (go_at_call 10; (with_reducible refine (HF.out _).mono ?_); rintro e u1 ⟨rfl, rfl⟩))
  go_loopw [9] (fun i wr => i = .int .i64 0 ∧ wr = u1) (fun i _ => 0)
  case atStart => exact ⟨rfl, rfl⟩
  case round =>
    obtain ⟨rfl, rfl⟩ := hrel
    go_wp2_with (first
      | (go_at_call 11; (with_reducible refine (HAW.out _).mono ?_); rintro e u4 ⟨rfl, hl4⟩))
    go_ret
    exact ⟨rfl, hl4⟩

theorem rnd_cases {L : Nat} (h : rnd (L : Int) ≠ 0) : L = 16 ∨ L = 24 ∨ L = 32 := by
  unfold rnd at h
  by_cases h1 : (L : Int) = 16
  · omega
  by_cases h2 : (L : Int) = 24
  · omega
  by_cases h3 : (L : Int) = 32
  · omega
  rw [if_neg h1, if_neg h2, if_neg h3] at h
  exact absurd rfl h

theorem nth_lt {w : World} {v : Value} {zs : List Int} (h : Rd .u8 w v zs) : ∀ x, (nth zs x).toNat < 256 := fun x => by
  by_cases hx : x < zs.length
  · have := bounds_u8 (wfs_of h _ (List.getElem_mem (h := hx)))
    rw [← nth_of hx] at this
    omega
  · have : nth zs x = 0 := by unfold nth; rw [List.getD_eq_getElem?_getD, List.getElem?_eq_none (by omega)]; rfl
    rw [this]; decide

/-- KeysTells, whatever it is given. -/
theorem ktells_core (v : Value) (zs : List Int) (n : Int) (w : World) (h : Rd .u8 w v zs) (hcap : ∀ a n c, v = .slice a n c → n ≤ c ∧ c ≤ maxLen) (hn : n ≤ 9223372036854775807) :
    Calls Try.prog 3 #[v, .int .i64 n] w fun e w' => e = .returned (.bool true) ∧ Below w.heap.size w w' := by
  by_cases h0 : rnd (zs.length : Int) = 0
  · obtain ⟨a, c, rfl, _⟩ := h
    exact ktells_bad a zs.length c n w h0 hn
  · have hL := rnd_cases h0
    obtain ⟨g, off, c, rfl, hw⟩ := Wd.of_rd h (by omega)
    have hk := nth_lt h
    obtain ⟨h1, h2⟩ := hcap _ _ _ rfl
    generalize zs.length = L at *
    rcases hL with rfl | rfl | rfl
    · exact ktells_ok g off c 4 16 10 11 44 40 n _ w rfl rfl rfl rfl rfl (by decide) (by decide) (by decide) (by decide) h1 h2 hk hw hn
    · exact ktells_ok g off c 6 24 12 13 52 46 n _ w rfl rfl rfl rfl rfl (by decide) (by decide) (by decide) (by decide) h1 h2 hk hw hn
    · exact ktells_ok g off c 8 32 14 15 60 52 n _ w rfl rfl rfl rfl rfl (by decide) (by decide) (by decide) (by decide) h1 h2 hk hw hn
end Go.Proofs.Ytnklljlgghenpaa
