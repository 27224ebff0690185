import Derived.Test.YtnklljlgghenpaaProg
import Derived.Test.YtnklljlgghenpaaKyo
namespace Go.Proofs.Ytnklljlgghenpaa
open Go.RowKit

set_option maxRecDepth 100000 in
set_option maxHeartbeats 6400000 in
theorem kback_core (k : Nat → Nat) (r : Nat) (w : World) (hk : ∀ x, k x < 256) (hr : r < 256) :
    Calls Try.prog 4 #[.agg (ba 16 k), .int .u8 (r : Int)] w fun e w' => e = .returned (.bool true) ∧ Below w.heap.size w w' := by
  have HA : Hid (At (w.alloc (.cells (ba 16 k) 31)) w.heap.size 16 31 k) := hid (At.new w 16 31 k)
  have HW : Hid (Wd (w.alloc (.cells (ba 16 k) 31)) 16 w.heap.size 0 k) := hid (Wd.of_at HA.out (fun j _ => hk j))
  have HE : Hid (Calls Try.prog 9 #[.slice (some ⟨w.heap.size, 0, none⟩) 16 16] (w.alloc (.cells (ba 16 k) 31)) fun e w' =>
      ∃ c gs cs, e = .returned (.tuple #[.slice (some ⟨c, 0, none⟩) 11 11, .int .i64 0]) ∧ RL w' c 11 16 gs (fun _ => 0) cs (rkey 4 k 40) ∧ Below (w.alloc (.cells (ba 16 k) 31)).heap.size (w.alloc (.cells (ba 16 k) 31)) w') :=
    hid (expand_ok w.heap.size 0 16 4 16 10 11 44 40 k _ rfl rfl rfl rfl rfl (by decide) (by decide) (by decide) (by decide) (by decide) (by decide) hk HW.out)
  have HB : Hid (Below w.heap.size w (w.alloc (.cells (ba 16 k) 31))) := hid ((Below.refl _ _).alloc (Nat.le_refl _) _)
  obtain ⟨a, ha⟩ : ∃ a, r % 11 = a := ⟨_, rfl⟩
  have e1 : (r : Int) % 11 = (a : Int) := by omega
  have ha11 : a < 11 := by omega
  have b1 : (0 : Int) ≤ (a : Int) := by omega
  have b2 : (a : Int) < 11 := by omega
  have HK := hid hk
  have HYl := hid (fun i m => rkey_lt (K := 4) hk 40 i m)
  have HLim : Hid ((([] : List Int).length + (ns 16 (rkey 4 k 40 a)).length) * (IntKind.u8.bits / 8) ≤ 140737488355328) := hid (by rw [ns_len]; decide)
  clear hk ha
  go_enter Try.func4, Try.ntmps4
  go_wp2_with (first
    | (go_at_call 9; (with_reducible refine (HE.out).mono ?_); rintro e w2 ⟨c, gs, cs, rfl, hrl, hl⟩; have HR2 := hid hrl; have HL2 := hid hl; have HA2 := hid (HA.out.self hl); have hc2 := hrl.cell a ha11; have hc3 : (w2.alloc (.cells #[] 5)).cell? ⟨c, a, none⟩ = some (.slice (some ⟨gs a, 0, none⟩) 16 (cs a)) := cell_self hc2 ((Below.refl _ _).alloc (Nat.le_refl _) _); have HB2 := hid (HB.out.trans (hl.mono HB.out.size)); have HWa := hid (hrl.each a ha11); have HWb := hid (HWa.out.alloc (.cells #[] 5)); have HS2 := hid ((Below.refl w2.heap.size w2).alloc (Nat.le_refl _) (.cells #[] 5)); clear hrl hl)
    | (refine wpList_append_rd rfl (.tmp 26) (.tmp 30) 22 rfl .u8 w2.heap.size 5 Try.underlying22 infob (by decide) _ [] rfl (own_empty w2 (Nat.le_refl _)) _ (ns 16 (rkey 4 k 40 a)) rfl (HWb.out.rd _ (by decide)) HLim.out (by simp) w2.heap.size w2 HS2.out (Nat.le_refl _) ?_; intro v3 w3 hown hlow hsz; obtain ⟨g, cap, rfl, hg3, _⟩ := World.ownsRow.form hown (by rw [List.nil_append, ns_len]; decide); rw [List.nil_append, ns_len] at *; have HI3 : Hid (KInv w2 w3 g cap (rkey 4 k 40 a)) := hid ⟨hown, hlow⟩; clear hown hlow hsz hg3))
  go_loopw [9] (fun i wr => ∃ j : Nat, j ≤ 10 ∧ i = .int .i64 (j : Nat) ∧ KInv w2 wr g cap (rkey 4 k 40 j)) (fun i _ => (intOf i).toNat)
  case atStart => exact ⟨a, by omega, rfl, HI3.out⟩
  case round =>
    obtain ⟨j, hj, rfl, hI⟩ := hrel
    have HI := hid hI
    clear hI hc2 hc3
    by_cases hlt : 1 ≤ j
    · have c1 : (0 : Int) < (j : Int) := by omega
      have HJ : Hid (1 ≤ j ∧ j ≤ 10) := hid ⟨hlt, hj⟩
      have HLS := hid (HI.out.ext (lateTo_start _))
      obtain ⟨wz, rfl⟩ : ∃ wz, wz = wr := ⟨_, rfl⟩
      go_wp2
      go_loopw [10] (fun i wr => ∃ t : Nat, 3 ≤ t ∧ t ≤ 15 ∧ i = .int .i64 (t : Nat) ∧ KInv w2 wr g cap (lateTo (rkey 4 k 40 j) t)) (fun i _ => (intOf i).toNat)
      case atStart => exact ⟨15, by omega, by omega, rfl, HLS.out⟩
      case round =>
        obtain ⟨t, ht3, ht, rfl, hL⟩ := hrel
        have HL := hid hL
        clear hL
        by_cases hlt2 : 4 ≤ t
        · obtain ⟨u, hu⟩ : ∃ u, t - 4 = u := ⟨_, rfl⟩
          have d1 : (t : Int) - 4 = (u : Int) := by omega
          have wu : IntKind.i64.wrap (u : Int) = u := by rw [IntKind.wrap_i64]; omega
          have n0 : (0 : Int) ≤ (u : Int) := by omega
          have n1 : (u : Int) < 16 := by omega
          have n2 : (t : Int) < 16 := by omega
          have n3 : (4 : Int) ≤ (t : Int) := by omega
          have k1 := HL.out.drew.cell (j := t) (by omega)
          have k2 := HL.out.drew.cell (j := u) (by omega)
          have kf := HL.out.drew.free t
          have y1 : lateTo (rkey 4 k 40 j) t t < 256 := by unfold lateTo; rw [if_neg (by omega)]; exact HYl.out _ _
          have y2 : lateTo (rkey 4 k 40 j) t u < 256 := by unfold lateTo; rw [if_neg (by omega)]; exact HYl.out _ _
          have HX := hid (xor8 y1 y2)
          have HT := hid ((HL.out.drew.set (j := t) (by omega) (lateTo (rkey 4 k 40 j) t t ^^^ lateTo (rkey 4 k 40 j) t u)).ext (by rw [← hu]; exact lateTo_step _ hlt2))
          generalize lateTo (rkey 4 k 40 j) t t ^^^ lateTo (rkey 4 k 40 j) t u = z at *
          generalize lateTo (rkey 4 k 40 j) t t = z1 at *
          generalize lateTo (rkey 4 k 40 j) t u = z2 at *
          clear hu y1 y2
          go_wp2
          go_region
          go_wp2
          go_roundw
          case rel => exact ⟨t - 1, by omega, by omega, by go_num, by rw [HX.out]; exact HT.out⟩
          case measure => simp [intOf]; omega
        · obtain rfl : t = 3 := by omega
          obtain ⟨H, hH⟩ : ∃ H, lateTo (rkey 4 k 40 j) 3 = H := ⟨_, rfl⟩
          have HH := hid hH
          rw [hH] at HL
          have HHl : Hid (∀ m, H m < 256) := hid (fun m => by rw [← hH]; unfold lateTo; split; exact xor_lt (HYl.out _ _) (HYl.out _ _); exact HYl.out _ _)
          clear hH
          have HMa := hid (fun w => marks_nat j w (by omega))
          have S13 := hid (fun w => refsub_any (H 13) w (HHl.out 13))
          have S14 := hid (fun w => refsub_any (H 14) w (HHl.out 14))
          have S15 := hid (fun w => refsub_any (H 15) w (HHl.out 15))
          have S12 := hid (fun w => refsub_any (H 12) w (HHl.out 12))
          go_wp2
          -- the first byte
          have k0 := HL.out.drew.cell (j := 0) (by omega)
          have k13 := HL.out.drew.cell (j := 13) (by omega)
          have kf := HL.out.drew.free 0
          have X0 := hid (xor8 (HHl.out 0) (sb_lt (H 13)))
          have X1 := hid (xor8 (xor_lt (HHl.out 0) (sb_lt (H 13))) (mkb_lt j))
          obtain ⟨g0, hg0⟩ : ∃ x, (H 0 ^^^ sb (H 13)) ^^^ mkb j = x := ⟨_, rfl⟩
          rw [hg0] at X1
          have G0 := hid hg0
          clear hg0
          have HN1 := hid (HL.out.drew.set (j := 0) (by omega) g0)
          generalize hz : mkb j = mk at HMa X1
          have HZ := hid hz
          clear hz
          refine region_tail 13 (by kernel_rfl) (by kernel_rfl) ?_
          simp only [List.take_succ_cons, List.take_zero, List.drop_succ_cons, List.drop_zero]
          generalize wr.drew = w5 at *
          repeat still_step
          still_call (S13.out _)
          repeat still_step
          still_call (HMa.out _)
          repeat still_step
          refine wpStill_nil ?_
          go_wp2
          rw [X0.out, X1.out]
          clear k0 k13 kf
          generalize w5.setCell ⟨g, 0, none⟩ (.int .u8 (g0 : Int)) = v0 at *
          -- byte 1
          have p1 : v0.drew.cell? ⟨g, 1, none⟩ = some (.int .u8 (H 1 : Int)) := by have := HN1.out.drew.cell (j := 1) (by omega); rw [show (upd H 0 g0) 1 = H 1 from rfl] at this; exact this
          have q1 : v0.drew.cell? ⟨g, 14, none⟩ = some (.int .u8 (H 14 : Int)) := by have := HN1.out.drew.cell (j := 14) (by omega); rw [show (upd H 0 g0) 14 = H 14 from rfl] at this; exact this
          have f1 := HN1.out.drew.free 1
          have Y1 := hid (xor8 (HHl.out 1) (sb_lt (H 14)))
          obtain ⟨g1, hg1⟩ : ∃ x, H 1 ^^^ sb (H 14) = x := ⟨_, rfl⟩
          rw [hg1] at Y1
          have G1 := hid hg1
          clear hg1
          have HN2 := hid (HN1.out.drew.set (j := 1) (by omega) g1)
          refine region_tail 10 (by kernel_rfl) (by kernel_rfl) ?_
          simp only [List.take_succ_cons, List.take_zero, List.drop_succ_cons, List.drop_zero]
          generalize v0.drew = y1 at *
          repeat still_step
          still_call (S14.out _)
          repeat still_step
          refine wpStill_nil ?_
          go_wp2
          rw [Y1.out]
          clear p1 q1 f1
          generalize y1.setCell ⟨g, 1, none⟩ (.int .u8 (g1 : Int)) = v1 at *
          -- byte 2
          have p2 : v1.drew.cell? ⟨g, 2, none⟩ = some (.int .u8 (H 2 : Int)) := by have := HN2.out.drew.cell (j := 2) (by omega); rw [show (upd (upd H 0 g0) 1 g1) 2 = H 2 from rfl] at this; exact this
          have q2 : v1.drew.cell? ⟨g, 15, none⟩ = some (.int .u8 (H 15 : Int)) := by have := HN2.out.drew.cell (j := 15) (by omega); rw [show (upd (upd H 0 g0) 1 g1) 15 = H 15 from rfl] at this; exact this
          have f2 := HN2.out.drew.free 2
          have Y2 := hid (xor8 (HHl.out 2) (sb_lt (H 15)))
          obtain ⟨g2, hg2⟩ : ∃ x, H 2 ^^^ sb (H 15) = x := ⟨_, rfl⟩
          rw [hg2] at Y2
          have G2 := hid hg2
          clear hg2
          have HN3 := hid (HN2.out.drew.set (j := 2) (by omega) g2)
          refine region_tail 10 (by kernel_rfl) (by kernel_rfl) ?_
          simp only [List.take_succ_cons, List.take_zero, List.drop_succ_cons, List.drop_zero]
          generalize v1.drew = y2 at *
          repeat still_step
          still_call (S15.out _)
          repeat still_step
          refine wpStill_nil ?_
          go_wp2
          rw [Y2.out]
          clear p2 q2 f2
          generalize y2.setCell ⟨g, 2, none⟩ (.int .u8 (g2 : Int)) = v2 at *
          -- byte 3
          have p3 : v2.drew.cell? ⟨g, 3, none⟩ = some (.int .u8 (H 3 : Int)) := by have := HN3.out.drew.cell (j := 3) (by omega); rw [show (upd (upd (upd H 0 g0) 1 g1) 2 g2) 3 = H 3 from rfl] at this; exact this
          have q3 : v2.drew.cell? ⟨g, 12, none⟩ = some (.int .u8 (H 12 : Int)) := by have := HN3.out.drew.cell (j := 12) (by omega); rw [show (upd (upd (upd H 0 g0) 1 g1) 2 g2) 12 = H 12 from rfl] at this; exact this
          have f3 := HN3.out.drew.free 3
          have Y3 := hid (xor8 (HHl.out 3) (sb_lt (H 12)))
          obtain ⟨g3, hg3⟩ : ∃ x, H 3 ^^^ sb (H 12) = x := ⟨_, rfl⟩
          rw [hg3] at Y3
          have G3 := hid hg3
          clear hg3
          have HN4 := hid (HN3.out.drew.set (j := 3) (by omega) g3)
          refine region_tail 10 (by kernel_rfl) (by kernel_rfl) ?_
          simp only [List.take_succ_cons, List.take_zero, List.drop_succ_cons, List.drop_zero]
          generalize v2.drew = y3 at *
          repeat still_step
          still_call (S12.out _)
          repeat still_step
          refine wpStill_nil ?_
          go_wp2
          rw [Y3.out]
          clear p3 q3 f3
          generalize y3.setCell ⟨g, 3, none⟩ (.int .u8 (g3 : Int)) = v3 at *
          go_roundw
          case rel =>
            refine ⟨j - 1, by omega, by go_num, HN4.out.ext ?_⟩
            rw [← HH.out]
            have hs : ∀ m, 4 ≤ m → m < 16 → H m = rkey 4 k 40 (j - 1) m := fun m h1 h2 => by
              rw [← HH.out]; unfold lateTo; rw [if_pos (by omega)]; exact rkey_late k HJ.out.1 HJ.out.2 h1 h2
            have hf : ∀ m, m < 4 → H m = rkey 4 k 40 j m := fun m h1 => by rw [← HH.out]; unfold lateTo; rw [if_neg (by omega)]
            refine back_row k HJ.out.1 HJ.out.2 (sb (H 13)) (sb (H 14)) (sb (H 15)) (sb (H 12)) (by rw [hs 13 (by decide) (by decide)]) (by rw [hs 14 (by decide) (by decide)]) (by rw [hs 15 (by decide) (by decide)]) (by rw [hs 12 (by decide) (by decide)]) g0 g1 g2 g3
              (by rw [← G0.out, hf 0 (by decide)]) (by rw [← G1.out, hf 1 (by decide)]) (by rw [← G2.out, hf 2 (by decide)]) (by rw [← G3.out, hf 3 (by decide)])
          case measure => simp [intOf]; omega
    · obtain rfl : j = 0 := by omega
      have HAw := hid kawake_any
      have HLow : Hid (Below w.heap.size w wr) := hid (HB2.out.trans (HI.out.low.mono HB2.out.size))
      have hkey : ∀ m, m < 16 → rkey 4 k 40 0 m = k m := fun m hm => rkey_zero k hm
      have kb := run_conv_rd (P := Try.prog) ((Wd.of_own HI.out.own (by decide) (fun m _ => HYl.out 0 m)).drew.rd cap (by decide)) Try.underlying22 Try.underlying5 9 Try.underlying9
      have kk := run_conv_rd (P := Try.prog) ((Wd.of_at (HA2.out.self HI.out.low) (fun m _ => HK.out m)).drew.rd 16 (by decide)) Try.underlying22 Try.underlying5 9 Try.underlying9
      have HRw := hid (HR2.out.self HI.out.low)
      have kl := run_conv_rd (P := Try.prog) (((HRw.out.each 0 (by decide)).drew).rd (cs 0) (by decide)) Try.underlying22 Try.underlying5 9 Try.underlying9
      have kc : wr.drew.cell? ⟨c, 0, none⟩ = some (.slice (some ⟨gs 0, 0, none⟩) 16 (cs 0)) := HRw.out.drew.cell 0 (by decide)
      rw [ns_ext hkey] at kb kl
      have HLD := hid HLow.out.drew
      generalize strOfNums (ns 16 k) = st at *
      generalize gs 0 = l0 at *
      generalize cs 0 = lc at *
      go_wp2
      refine region_tail 15 (by kernel_rfl) (by kernel_rfl) ?_
      simp only [List.take_succ_cons, List.take_zero, List.drop_succ_cons, List.drop_zero]
      generalize wr.drew = w5 at *
      repeat still_step
      refine wpStill_nil ?_
      go_wp2_with (first
        | (go_at_call 11; (with_reducible refine (HAw.out _).mono ?_); rintro e w6 ⟨rfl, hl6⟩; have HL6 := hid (HLD.out.trans (hl6.mono HLD.out.size)); clear hl6))
      go_ret
      exact ⟨rfl, HL6.out⟩
theorem kback_any (f : Nat → Nat) (r : Nat) (w : World) (hf : ∀ i, i < 16 → f i < 256) (hr : r < 256) :
    Calls Try.prog 4 #[.agg (ba 16 f), .int .u8 (r : Int)] w fun e w' => e = .returned (.bool true) ∧ Below w.heap.size w w' := by
  have h := kback_core (fun i => if i < 16 then f i else 0) r w (fun x => by split; exact hf x (by assumption); decide) hr
  rwa [ba_ext (fun i hi => show (if i < 16 then f i else 0) = f i from if_pos hi)] at h
end Go.Proofs.Ytnklljlgghenpaa
