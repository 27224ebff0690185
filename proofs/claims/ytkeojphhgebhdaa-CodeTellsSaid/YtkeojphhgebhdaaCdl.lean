import Derived.Test.YtkeojphhgebhdaaProg
import Derived.Test.YtkeojphhgebhdaaCdk
/- Code: Take, by the document: length by length. -/
namespace Go.Proofs.Ytkeojphhgebhdaa
open Go.RowKit

theorem rd_drewN {w : World} {v : Value} {zs : List Int} (h : Rd .u8 w v zs) (m : Nat) : Rd .u8 (w.drewN m) v zs := h.self (below_drewN w m)
theorem below_drewed {B : Nat} {w w1 : World} (h : Below B w w1) (n : Nat) : Below B w (w1.drewN n) := ⟨h.os, h.tape, h.output, h.size, h.block⟩
theorem below_drewed1 {B : Nat} {w w1 : World} (h : Below B w w1) : Below B w w1.drew := h.drew
/-- What the document's Take tells. -/
def RtakeP (w : World) (zs : List Int) (e : Ending) (w' : World) : Prop :=
  Below w.heap.size w w' ∧ ((∃ n v, Beg zs n ∧ e = .returned (.tuple #[v, .int .i64 (((lef (8 * n)).length + n : Nat) : Int), .bool true]) ∧ Rd .u8 w' v ((zs.drop (lef (8 * n)).length).take n)) ∨
    ((∀ n, ¬ Beg zs n) ∧ e = .returned (.tuple #[.slice none 0 0, .int .i64 0, .bool false])))

set_option maxRecDepth 100000 in
set_option maxHeartbeats 3200000 in
theorem reftake_any (v : Value) (zs : List Int) (w : World) (h : RdC w v zs) :
    Calls Try.prog 9 #[v] w fun e w' => RtakeP w zs e w' := by
  have HRC := hid h
  obtain ⟨a, cap, rfl, hcap, hmax, h47, hc⟩ := h.open
  unfold maxLen at hmax
  have HWz := hid (wfs_of h.rd)
  obtain ⟨L, hL⟩ : ∃ L, zs.length = L := ⟨_, rfl⟩
  rw [hL] at HRC hcap h47 hc ⊢
  have HL := hid hL
  have HC := hid hc
  clear h hL hc
  go_enter Try.func9, Try.ntmps9
  go_wp2
  go_loopw [5] (fun i wr => ∃ n : Nat, n ≤ L + 1 ∧ i = .int .i64 n ∧ Below w.heap.size w wr ∧ ∀ m, m < n → ¬ Beg zs m) (fun i _ => L + 1 - (intOf i).toNat)
  case atStart => exact ⟨0, by omega, rfl, Below.refl _ _, fun m hm => absurd hm (by omega)⟩
  case round =>
    obtain ⟨n, hn, rfl, hl, hno⟩ := hrel
    have HW := hid hl
    have HNo := hid hno
    have h0 : (0 : Int) ≤ (n : Int) := by omega
    clear hl hno
    by_cases hlt : n ≤ L
    · have h1 : (n : Int) ≤ (L : Int) := by omega
      obtain ⟨K, hK⟩ : ∃ K, 8 * n = K := ⟨_, rfl⟩
      have hK63 : K < 9223372036854775808 := by omega
      have e1 : (8 : Int) * (n : Int) = (K : Int) := by omega
      have e2 : IntKind.i64.wrap (K : Int) = K := by rw [IntKind.wrap_i64]; omega
      have e3 : IntKind.i64.wrap ((n : Int) + 1) = (n : Int) + 1 := by rw [IntKind.wrap_i64]; omega
      obtain ⟨S, hS⟩ : ∃ S, (lef K).length = S := ⟨_, rfl⟩
      have hS9 := lef_le hK63
      rw [hS] at hS9
      have HLef := hid ((refleft_any K wr hK63).mono fun _ _ h => h.at hS)
      have HWf := hid (lef_wf hK63)
      have HBeg : Hid (Beg zs n ↔ S ≤ 5 ∧ n + S ≤ L ∧ zs.take S = lef K) := hid (by unfold Beg; rw [hK, hS, HL.out])
      have HS := hid hS
      have HK := hid hK
      obtain ⟨R, hR⟩ : ∃ R : Int, (L : Int) - (S : Int) = R := ⟨_, rfl⟩
      have e4 : IntKind.i64.wrap R = R := by rw [IntKind.wrap_i64]; omega
      by_cases hfit : S ≤ 5 ∧ n + S ≤ L
      · have g1 : (S : Int) ≤ 5 := by omega
        have g2 : (n : Int) ≤ R := by omega
        have g3 : (S : Int) ≤ (cap : Int) := by omega
        have g4 : (0 : Int) ≤ (S : Int) := by omega
        obtain ⟨E, hE⟩ : ∃ E, S + n = E := ⟨_, rfl⟩
        have HE := hid hE
        have HFit := hid hfit
        by_cases heq : zs.take S = lef K
        · have HB : Hid (Beg zs n) := hid (HBeg.out.2 ⟨hfit.1, hfit.2, heq⟩)
          have HQ := hid heq
          have f1 : (S : Int) + (n : Int) = (E : Int) := by omega
          have f2 : IntKind.i64.wrap (E : Int) = E := by rw [IntKind.wrap_i64]; omega
          have f3 : (S : Int) ≤ (E : Int) := by omega
          have f4 : (E : Int) ≤ (cap : Int) := by omega
          have f5 : (E : Int) - (S : Int) = (n : Int) := by omega
          have f6 : E - S = n := by omega
          have hq : ((strOfNums (lef K)).toList == (strOfNums (lef K)).toList) = true := by simp
          have hr : lenV (.slice a L cap) = L := rfl
          obtain ⟨b, off, rfl, hbw, hcell⟩ := HC.out (show 0 < L by have := lef_len K; have := dg_pos K; omega)
          have HRS : Hid (∀ p k, (0 < n → p = some ⟨b, off + S, none⟩) → Rd .u8 w (.slice p n k) ((zs.drop S).take n)) := hid fun p k hp => rd_sub HRC.out.rd (by omega) hp
          have HRT : Hid (Rd .u8 w (.slice (some ⟨b, off, none⟩) S cap) (lef K)) := hid (by
            have := rd_sub HRC.out.rd (q := 0) (m := S) (p := some ⟨b, off, none⟩) (k := cap) (by omega) (fun _ => rfl)
            rwa [List.drop_zero, heq] at this)
          clear hcell hbw hfit heq hE hr
          by_cases hSc : S < cap
          · go_wp2_with (first
              | (go_at_call 11; (with_reducible refine (HLef.out).mono ?_); rintro e w1 ⟨p1, c1, rfl, ho1, hlow1⟩; have HW1 := hid (HW.out.trans (hlow1.mono HW.out.size)); have HO1 : Hid (Rd .u8 w1 (.slice p1 S c1) (lef K)) := hid (ho1.rd (by have := lef_le hK63; show _ * 1 ≤ _; omega) HWf.out); have k1 : ∀ m, (convert 22 9 (.slice p1 S c1)).run Try.prog (w1.drewN m) = .ok (.string (strOfNums (lef K))) (w1.drewN m) := fun m => run_conv_rd (rd_drewN HO1.out m) Try.underlying22 Try.underlying5 9 Try.underlying9; have k2 : ∀ m, (convert 22 9 (.slice (some ⟨b, off, none⟩) S cap)).run Try.prog (w1.drewN m) = .ok (.string (strOfNums (lef K))) (w1.drewN m) := fun m => run_conv_rd (rd_drewN (HRT.out.self HW1.out) m) Try.underlying22 Try.underlying5 9 Try.underlying9; clear ho1 hlow1))
            generalize strOfNums (lef K) = st at *
            go_quiet (fail)
            go_wp2
            go_ret3
            refine ⟨below_drewed HW1.out _, .inl ⟨n, .slice (some ⟨b, off + S, none⟩) n (cap - S), HB.out, ?_, ?_⟩⟩
            · rw [HK.out, HS.out, HE.out]; rfl
            · rw [HK.out, HS.out]; exact rd_drewN ((HRS.out _ _ (fun _ => rfl)).self HW1.out) _
          · have HZ : Hid (n = 0) := hid (by have := HFit.out; omega)
            go_wp2_with (first
              | (go_at_call 11; (with_reducible refine (HLef.out).mono ?_); rintro e w1 ⟨p1, c1, rfl, ho1, hlow1⟩; have HW1 := hid (HW.out.trans (hlow1.mono HW.out.size)); have HO1 : Hid (Rd .u8 w1 (.slice p1 S c1) (lef K)) := hid (ho1.rd (by have := lef_le hK63; show _ * 1 ≤ _; omega) HWf.out); have k1 : ∀ m, (convert 22 9 (.slice p1 S c1)).run Try.prog (w1.drewN m) = .ok (.string (strOfNums (lef K))) (w1.drewN m) := fun m => run_conv_rd (rd_drewN HO1.out m) Try.underlying22 Try.underlying5 9 Try.underlying9; have k2 : ∀ m, (convert 22 9 (.slice (some ⟨b, off, none⟩) S cap)).run Try.prog (w1.drewN m) = .ok (.string (strOfNums (lef K))) (w1.drewN m) := fun m => run_conv_rd (rd_drewN (HRT.out.self HW1.out) m) Try.underlying22 Try.underlying5 9 Try.underlying9; clear ho1 hlow1))
            generalize strOfNums (lef K) = st at *
            go_quiet (fail)
            go_wp2
            go_ret3
            refine ⟨below_drewed HW1.out _, .inl ⟨n, .slice (some ⟨b, off, none⟩) n (cap - S), HB.out, ?_, ?_⟩⟩
            · rw [HK.out, HS.out, HE.out]; rfl
            · rw [HK.out, HS.out]; exact rd_drewN ((HRS.out _ _ (fun h => absurd HZ.out (by omega))).self HW1.out) _
        · have HB : Hid (¬ Beg zs n) := hid (fun h => heq (HBeg.out.1 h).2.2)
          have hq : ((strOfNums (zs.take S)).toList == (strOfNums (lef K)).toList) = false := by
            rw [strOfNums_eq (fun z hz => HWz.out z (List.mem_of_mem_take hz)) HWf.out]
            simpa using heq
          obtain ⟨b, off, rfl, hbw, hcell⟩ := HC.out (show 0 < L by have := lef_len K; have := dg_pos K; omega)
          have HRT : Hid (Rd .u8 w (.slice (some ⟨b, off, none⟩) S cap) (zs.take S)) := hid (by
            have := rd_sub HRC.out.rd (q := 0) (m := S) (p := some ⟨b, off, none⟩) (k := cap) (by omega) (fun _ => rfl)
            rwa [List.drop_zero] at this)
          clear hcell hbw hfit heq hE
          go_wp2_with (first
              | (go_at_call 11; (with_reducible refine (HLef.out).mono ?_); rintro e w1 ⟨p1, c1, rfl, ho1, hlow1⟩; have HW1 := hid (HW.out.trans (hlow1.mono HW.out.size)); have HO1 : Hid (Rd .u8 w1 (.slice p1 S c1) (lef K)) := hid (ho1.rd (by have := lef_le hK63; show _ * 1 ≤ _; omega) HWf.out); have k1 : ∀ m, (convert 22 9 (.slice p1 S c1)).run Try.prog (w1.drewN m) = .ok (.string (strOfNums (lef K))) (w1.drewN m) := fun m => run_conv_rd (rd_drewN HO1.out m) Try.underlying22 Try.underlying5 9 Try.underlying9; have k2 : ∀ m, (convert 22 9 (.slice (some ⟨b, off, none⟩) S cap)).run Try.prog (w1.drewN m) = .ok (.string (strOfNums (zs.take S))) (w1.drewN m) := fun m => run_conv_rd (rd_drewN (HRT.out.self HW1.out) m) Try.underlying22 Try.underlying5 9 Try.underlying9; clear ho1 hlow1))
          generalize strOfNums (lef K) = st at *
          generalize strOfNums (zs.take S) = st2 at *
          go_quiet (fail)
          go_wp2
          go_roundw
          case rel => exact ⟨n + 1, by omega, by go_num, below_drewed HW1.out _, fun m hm => by by_cases hmn : m = n; (subst hmn; exact HB.out); exact HNo.out m (by omega)⟩
          case measure => simp [intOf]; omega
      · have HB : Hid (¬ Beg zs n) := hid (fun h => hfit ⟨(HBeg.out.1 h).1, (HBeg.out.1 h).2.1⟩)
        by_cases h5 : S ≤ 5
        · have g1 : (S : Int) ≤ 5 := by omega
          have g2 : ¬ (n : Int) ≤ R := by omega
          have g3 : decide ((n : Int) ≤ R) = false := decide_eq_false g2
          clear hfit
          go_wp2_with (first
            | (go_at_call 11; (with_reducible refine (HLef.out).mono ?_); rintro e w1 ⟨p1, c1, rfl, ho1, hlow1⟩; have HW1 := hid (HW.out.trans (hlow1.mono HW.out.size)); clear ho1 hlow1))
          go_region
          go_wp2
          go_roundw
          case rel => exact ⟨n + 1, by omega, by go_num, below_drewed1 HW1.out, fun m hm => by by_cases hmn : m = n; (subst hmn; exact HB.out); exact HNo.out m (by omega)⟩
          case measure => simp [intOf]; omega
        · have g1 : ¬ (S : Int) ≤ 5 := by omega
          have g3 : decide ((S : Int) ≤ 5) = false := decide_eq_false g1
          clear hfit
          go_wp2_with (first
            | (go_at_call 11; (with_reducible refine (HLef.out).mono ?_); rintro e w1 ⟨p1, c1, rfl, ho1, hlow1⟩; have HW1 := hid (HW.out.trans (hlow1.mono HW.out.size)); clear ho1 hlow1))
          go_region
          go_wp2
          go_roundw
          case rel => exact ⟨n + 1, by omega, by go_num, below_drewed1 HW1.out, fun m hm => by by_cases hmn : m = n; (subst hmn; exact HB.out); exact HNo.out m (by omega)⟩
          case measure => simp [intOf]; omega
    · obtain rfl : n = L + 1 := by omega
      have h1 : ¬ ((L + 1 : Nat) : Int) ≤ (L : Int) := by omega
      have HNone : Hid (∀ n, ¬ Beg zs n) := hid fun n hb => by
        have := (beg_pos hb).2
        have := HL.out
        exact HNo.out n (by omega) hb
      go_wp2
      go_ret3
      exact ⟨HW.out, .inr ⟨HNone.out, rfl⟩⟩
end Go.Proofs.Ytkeojphhgebhdaa
