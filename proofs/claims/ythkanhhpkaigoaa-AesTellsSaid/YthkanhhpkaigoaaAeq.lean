import Derived.Test.YthkanhhpkaigoaaProg
import Derived.Test.YthkanhhpkaigoaaAep
namespace Go.Proofs.Ythkanhhpkaigoaa
open Go.RowKit

set_option maxRecDepth 100000 in
set_option maxHeartbeats 3200000 in
theorem refunblock_any (v : Value) (R R1 : Nat) (Y : Nat → Nat → Nat) (f : Nat → Nat) (w : World) (hR1 : R1 = R + 1) (hR : 0 < R) (hl : R ≤ 1000) (hf : B16 f) (hY : YB Y R) (h : ∀ w', Below w.heap.size w w' → ExpD v R1 Y w') :
    Calls Try.prog 19 #[v, .agg (ba 16 f)] w fun e w' => e = .returned (.agg (ba 16 (unbF Y R f))) ∧ Below w.heap.size w w' := by
  have HS := hid (Var.start1 w f)
  have HR1 : Hid (R1 = R + 1 ∧ 0 < R ∧ R ≤ 1000) := hid ⟨hR1, hR, hl⟩
  have HYb : Hid (∀ r, r < R1 → B16 (Y r)) := hid (fun r hr => hY r (by omega))
  have HX : Hid (ExpD v R1 Y ((w.alloc (.cells (ba 16 f) 23)).alloc (.cells #[.int .u8 0, .int .u8 0, .int .u8 0, .int .u8 0, .int .u8 0, .int .u8 0, .int .u8 0, .int .u8 0, .int .u8 0, .int .u8 0, .int .u8 0, .int .u8 0, .int .u8 0, .int .u8 0, .int .u8 0, .int .u8 0] 23))) := hid (h _ HS.out.low)
  have HE : Hid (∀ n, n ≤ R1 → B16 (dec Y R f n)) := hid (fun n hn => dec_b hY hf n (by omega))
  have HN0 : Hid (dec Y R f 1 = unsF (shB (addF f (Y R)))) := hid (by show decR Y R (R - 0) f = _; unfold decR; rw [if_neg (by omega), if_neg (by omega), Nat.sub_zero])
  have HN : Hid (∀ k r, r = R - k → 0 < k → k < R → dec Y R f (k + 1) = unsF (shB (mxB (addF (dec Y R f k) (Y r))))) := hid (fun k r e h0 h1 => by subst e; show decR Y R (R - k) (dec Y R f k) = _; unfold decR; rw [if_neg (by omega), if_pos (by omega)])
  have HZ : Hid (unbF Y R f = addF (dec Y R f R) (Y 0)) := hid (by show decR Y R (R - R) (dec Y R f R) = _; unfold decR; rw [if_pos (by omega), Nat.sub_self])
  have HFb := hid hf
  generalize dec Y R f = E at *
  generalize unbF Y R f = Z at *
  unfold ExpD at HX
  clear hf hY h hR1 hR hl
  go_enter Try.func19, Try.ntmps19
  go_wp2_with (first
    | (go_at_call 33; (with_reducible refine HX.out.mono ?_); rintro e w1 ⟨c, cap, gs, cs, rfl, hrl, hfr, hlow⟩; have HI : Hid (RI w w1 c R1 gs cs Y f) := hid ⟨HS.out.var.self hlow, HS.out.out.self hlow, hrl, HS.out.low.trans (hlow.mono HS.out.low.size), by have := HR1.out; omega, fun i hi => by have := hfr i hi; simpa using this⟩; clear hrl hfr hlow))
  have HR0 := hid (show (0 : Nat) < R1 ∧ R < R1 by have := HR1.out; omega)
  have HD := hid HI.out.drew
  have hc0 : w1.drew.cell? ⟨c, R, none⟩ = some (.slice (some ⟨gs R, 0, none⟩) 16 (cs R)) := HD.out.list.cell R HR0.out.2
  have HAY := hid (HD.out.list.each R HR0.out.2)
  have HYR := hid (HYb.out R HR0.out.2)
  have p1 : (R : Int) < (R1 : Int) := by have := HR0.out; omega
  have p2 : (0 : Int) ≤ (R : Int) := by omega
  have p3 : (R1 : Int) - 1 = (R : Int) := by have := HR1.out; omega
  have p4 : IntKind.i64.wrap (R : Int) = R := by have := HR1.out; rw [IntKind.wrap_i64]; omega
  obtain ⟨r0, hr0⟩ : ∃ r0, R - 1 = r0 := ⟨_, rfl⟩
  have p5 : (R1 : Int) - 2 = (r0 : Int) := by have := HR1.out; omega
  have p6 : IntKind.i64.wrap (r0 : Int) = r0 := by have := HR1.out; rw [IntKind.wrap_i64]; omega
  have HRS := hid hr0
  clear hr0
  refine region_tail 7 (by kernel_rfl) (by kernel_rfl) ?_
  simp only [List.take_succ_cons, List.take_zero, List.drop_succ_cons, List.drop_zero]
  generalize w1.drew = w2 at *
  refine still_load_mid rfl 23 (.tmp 3) rfl w.heap.size 0 16 f 5 rfl HD.out.var.range Try.underlying23 infoa ?_
  repeat still_step
  refine wpStill_nil ?_
  clear hc0
  go_wp2_with (first
    | (go_at_call 20; (with_reducible refine (refadd_any f (Y R) (gs R) 0 (cs R) _ HFb.out HAY.out).mono ?_); rintro e w3 ⟨rfl, hlow⟩; have HD3 := hid (HD.out.self hlow); clear hlow)
    | (go_at_call 10; (with_reducible refine (refbackRows_any (addF f (Y R)) _).mono ?_); rintro e w4 ⟨rfl, hlow⟩; have HD4 := hid (HD3.out.self hlow); clear hlow)
    | (go_at_call 35; (with_reducible refine (refback16_any (shB (addF f (Y R))) _ (shB_b (addF_b HFb.out HYR.out))).mono ?_); rintro e w5 ⟨rfl, hlow⟩; have HD5 := hid (HD4.out.self hlow); clear hlow)
    | (refine step_store_ba rfl 23 (.tmp 3) (.tmp 25) rfl w.heap.size 16 23 f (unsF (shB (addF f (Y R)))) rfl rfl HD5.out.var infoa ?_; have HD6 := hid (HD5.out.row (unsF (shB (addF f (Y R)))))))
  clear HD HD3 HD4 HD5 HI HAY p1 p2 p3 p4 p5 p6
  go_loopw [7] (fun i wr => ∃ k r : Nat, 1 ≤ k ∧ k + r = R ∧ i = .int .i64 r ∧ RI w wr c R1 gs cs Y (E k)) (fun i _ => (intOf i).toNat)
  case atStart => exact ⟨1, r0, by omega, by have := HRS.out; have := HR1.out; omega, rfl, by rw [HN0.out]; exact HD6.out⟩
  case round =>
    obtain ⟨k, r, hk0, hkr, rfl, hI⟩ := hrel
    have HI := hid hI
    clear hI HD6
    have HRL := hid (show r < R1 by have := HR1.out; omega)
    have HEb := hid (HE.out k (by have := HR1.out; omega))
    have hle : r ≤ 1000 := by have := HR1.out; omega
    by_cases hlt : 0 < r
    · have c1 : (0 : Int) < (r : Int) := by omega
      have HYr := hid (HYb.out r HRL.out)
      have HNr := hid (HN.out k r (by omega) (by omega) (by omega))
      have HKR := hid (And.intro hk0 hkr)
      generalize hg' : E (k + 1) = g' at HNr
      have HG' := hid hg'
      clear hg' hkr
      generalize E k = g at *
      have HD := hid HI.out.drew
      have HAY := hid (HD.out.list.each r HRL.out)
      have hc1 := HD.out.list.cell r HRL.out
      have b1 : (r : Int) < (R1 : Int) := by have := HRL.out; omega
      have b0 : (0 : Int) ≤ (r : Int) := by omega
      go_wp2
      refine region_tail 5 (by kernel_rfl) (by kernel_rfl) ?_
      simp only [List.take_succ_cons, List.take_zero, List.drop_succ_cons, List.drop_zero]
      generalize wr.drew = w2 at *
      refine still_load_mid rfl 23 (.tmp 3) rfl w.heap.size 0 16 g 5 rfl HD.out.var.range Try.underlying23 infoa ?_
      repeat still_step
      refine wpStill_nil ?_
      clear hc1
      go_wp2_with (first
        | (go_at_call 20; (with_reducible refine (refadd_any g (Y r) (gs r) 0 (cs r) _ HEb.out HAY.out).mono ?_); rintro e w3 ⟨rfl, hlow⟩; have HD3 := hid (HD.out.self hlow); clear hlow)
        | (go_at_call 12; (with_reducible refine (refbackColumns_any (addF g (Y r)) _ (addF_b HEb.out HYr.out)).mono ?_); rintro e w4 ⟨rfl, hlow⟩; have HD4 := hid (HD3.out.self hlow); clear hlow)
        | (go_at_call 10; (with_reducible refine (refbackRows_any (mxB (addF g (Y r))) _).mono ?_); rintro e w5 ⟨rfl, hlow⟩; have HD5 := hid (HD4.out.self hlow); clear hlow)
        | (go_at_call 35; (with_reducible refine (refback16_any (shB (mxB (addF g (Y r)))) _ (shB_b (mxB_b (addF_b HEb.out HYr.out)))).mono ?_); rintro e w6 ⟨rfl, hlow⟩; have HD6 := hid (HD5.out.self hlow); clear hlow)
        | (refine step_store_ba rfl 23 (.tmp 3) (.tmp 41) rfl w.heap.size 16 23 g (unsF (shB (mxB (addF g (Y r))))) rfl rfl HD6.out.var infoa ?_; have HD7 := hid (HD6.out.row (unsF (shB (mxB (addF g (Y r))))))))
      go_roundw
      case rel => exact ⟨k + 1, r - 1, by omega, by have := HKR.out; omega, by go_num, by rw [HG'.out, HNr.out]; exact HD7.out⟩
      case measure => simp [intOf]; omega
    · obtain rfl : r = 0 := by omega
      obtain rfl : k = R := by omega
      have HD := hid HI.out.drew
      have HAY := hid (HD.out.list.each 0 HRL.out)
      have hc1 : wr.drew.cell? ⟨c, 0, none⟩ = some (.slice (some ⟨gs 0, 0, none⟩) 16 (cs 0)) := HD.out.list.cell 0 HRL.out
      have b1 : 0 < R1 := HRL.out
      generalize E k = g at *
      go_wp2
      refine region_tail 4 (by kernel_rfl) (by kernel_rfl) ?_
      simp only [List.take_succ_cons, List.take_zero, List.drop_succ_cons, List.drop_zero]
      generalize wr.drew = w2 at *
      refine still_load_mid rfl 23 (.tmp 3) rfl w.heap.size 0 16 g 5 rfl HD.out.var.range Try.underlying23 infoa ?_
      repeat still_step
      refine wpStill_nil ?_
      clear hc1
      go_wp2_with (first
        | (go_at_call 20; (with_reducible refine (refadd_any g (Y 0) (gs 0) 0 (cs 0) _ HEb.out HAY.out).mono ?_); rintro e w3 ⟨rfl, hlow⟩; have HD3 := hid (HD.out.self hlow); clear hlow)
        | (refine step_store_ba rfl 23 (.tmp 4) (.tmp 46) rfl (w.heap.size + 1) 16 23 (fun _ => 0) (addF g (Y 0)) rfl rfl HD3.out.out infoa ?_))
      exact ret_ba rfl rfl Try.underlying23 infoa rfl (HD3.out.done _).1 ⟨by rw [HZ.out], (HD3.out.done _).2⟩
end Go.Proofs.Ythkanhhpkaigoaa
