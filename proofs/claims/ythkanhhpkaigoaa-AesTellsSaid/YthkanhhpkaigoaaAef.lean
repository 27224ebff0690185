import Derived.Test.YthkanhhpkaigoaaProg
import Derived.Test.YthkanhhpkaigoaaAee
namespace Go.Proofs.Ythkanhhpkaigoaa
open Go.RowKit

set_option maxRecDepth 100000 in
set_option maxHeartbeats 3200000 in
theorem block_any (d b c cap R R1 : Nat) (Y : Nat → Nat → Nat) (f : Nat → Nat) (w : World) (hR1 : R1 = R + 1) (hR : 0 < R) (hl : R ≤ 1000) (hf : B16 f) (h : Ci w d b c cap R1 Y) :
    Calls Try.prog 14 #[.pointer (some ⟨d, 0, none⟩), .agg (ba 16 f)] w fun e w' => e = .returned (.agg (ba 16 (blkF Y R f))) ∧ Ci w' d b c cap R1 Y ∧ Only b w w' := by
  have HS := hid (BI.start h f)
  have HE : Hid (∀ n, n ≤ R1 → B16 (enc Y R f n)) := hid (fun n hn => enc_b (fun r hr => h.rows.byte r (by omega)) hf n (by omega))
  have HY : Hid (∀ r, r < R1 → B16 (Y r)) := hid h.rows.byte
  have HN : Hid (∀ r, enc Y R f (r + 1) = encR Y R r (enc Y R f r)) := hid (fun _ => rfl)
  have HZ : Hid (blkF Y R f = enc Y R f R1) := hid (by rw [hR1]; rfl)
  have H0 : Hid (enc Y R f 0 = f) := hid rfl
  have hc1 : ((w.alloc (.cells (ba 16 f) 23)).alloc (.cells #[.int .u8 0, .int .u8 0, .int .u8 0, .int .u8 0, .int .u8 0, .int .u8 0, .int .u8 0, .int .u8 0, .int .u8 0, .int .u8 0, .int .u8 0, .int .u8 0, .int .u8 0, .int .u8 0, .int .u8 0, .int .u8 0] 23)).cell? ⟨d, 1, none⟩ = some (.slice (some ⟨c, 0, none⟩) R1 cap) := HS.out.ci.blk.c1
  have HR1 : Hid (R1 = R + 1 ∧ 0 < R ∧ R ≤ 1000) := hid ⟨hR1, hR, hl⟩
  clear hf h hR1 hR hl
  generalize enc Y R f = E at *
  generalize blkF Y R f = Z at *
  go_enter Try.func14, Try.ntmps14
  go_wp2
  clear hc1
  go_loopw [15] (fun i wr => ∃ r : Nat, r ≤ R1 ∧ i = .int .i64 r ∧ BI w wr d b c cap R1 Y (E r)) (fun i _ => R1 - (intOf i).toNat)
  case atStart => exact ⟨0, by omega, rfl, by rw [H0.out]; exact HS.out⟩
  case round =>
    obtain ⟨r, hr, rfl, hI⟩ := hrel
    have HI := hid hI
    clear hI
    by_cases hlt : r < R1
    · have HRg := hid (HI.out.ci.rows.range hlt)
      have HK : Hid (BK w ((wr.alloc (.cells #[.int .u8 0, .int .u8 0, .int .u8 0, .int .u8 0, .int .u8 0, .int .u8 0, .int .u8 0, .int .u8 0, .int .u8 0, .int .u8 0, .int .u8 0, .int .u8 0, .int .u8 0, .int .u8 0, .int .u8 0, .int .u8 0] 23)).setRow wr.heap.size (ba 16 (Y r))) d b c cap R1 Y wr.heap.size (E r) (Y r)) := hid (HI.out.keyed (Y r))
      have HA0 : Hid (At (wr.alloc (.cells #[.int .u8 0, .int .u8 0, .int .u8 0, .int .u8 0, .int .u8 0, .int .u8 0, .int .u8 0, .int .u8 0, .int .u8 0, .int .u8 0, .int .u8 0, .int .u8 0, .int .u8 0, .int .u8 0, .int .u8 0, .int .u8 0] 23)) wr.heap.size 16 23 (fun _ => 0)) := hid (At.new wr 16 23 (fun _ => 0))
      have HMX := hid (fun w h => mixes_any d b c cap R R1 r Y w h HR1.out.1 (by have := HR1.out; omega) HR1.out.2.2)
      have HEb := hid (HE.out r (by omega))
      have HYb := hid (HY.out r hlt)
      have HNr := hid (HN.out r)
      have c0 : (0 : Int) ≤ (r : Int) := by omega
      have c1 : (r : Int) < (R1 : Int) := by omega
      generalize hg' : E (r + 1) = g' at HNr
      have HG' := hid hg'
      generalize E r = g at *
      have HYr : Hid (encR Y R r g = addF (if r = 0 then g else if r < R then mxC (shR (subF g)) else shR (subF g)) (Y r)) := hid rfl
      have hRR := HR1.out
      have hle : R1 ≤ 1001 := by omega
      generalize encR Y R r g = q at HNr HYr
      generalize Y r = y at HK HRg HYb HYr
      clear hg'
      by_cases h0 : r = 0
      · rw [if_pos h0] at HYr
        have hd : decide (0 < r ∧ r < R) = false := decide_eq_false (by omega)
        rw [hd] at HMX
        have c2 : ¬ (0 : Int) < (r : Int) := by omega
        clear hd hRR h0
        go_wp2_with (first
          | (refine step_load_ma rfl 23 (.tmp 18) rfl c (r * 16) 16 y 5 rfl HRg.out Try.underlying23 infoa ?_)
          | (refine step_store_ba rfl 23 (.tmp 6) (.tmp 19) rfl wr.heap.size 16 23 (fun _ => 0) y rfl rfl HA0.out infoa ?_; clear HA0; generalize (wr.alloc (.cells #[.int .u8 0, .int .u8 0, .int .u8 0, .int .u8 0, .int .u8 0, .int .u8 0, .int .u8 0, .int .u8 0, .int .u8 0, .int .u8 0, .int .u8 0, .int .u8 0, .int .u8 0, .int .u8 0, .int .u8 0, .int .u8 0] 23)).setRow wr.heap.size (ba 16 y) = w1 at *; generalize wr.heap.size = n at *)
          | (go_at_call 30; (with_reducible refine (HMX.out _ HK.out.ci.blk).mono ?_); rintro e u1 ⟨rfl, rfl⟩)
          | (refine step_load_ba rfl 23 (.tmp 3) rfl w.heap.size 16 23 5 g rfl HK.out.var Try.underlying23 infoa ?_)
          | (refine step_load_ba rfl 23 (.tmp 6) rfl n 16 23 5 y rfl HK.out.key Try.underlying23 infoa ?_)
          | (go_at_call 31; (with_reducible refine (sum16_any g y _ HEb.out HYb.out).mono ?_); rintro e w9 ⟨rfl, hlow⟩; have HK9 := hid (HK.out.self hlow); clear hlow)
          | (refine step_store_ba rfl 23 (.tmp 3) (.tmp 37) rfl w.heap.size 16 23 g _ rfl rfl HK9.out.var infoa ?_; have HKA := hid (HK9.out.row (addF g y))))
        go_roundw
        case rel => exact ⟨r + 1, by omega, by go_num, by rw [HG'.out, HNr.out, HYr.out]; exact HKA.out.toBI⟩
        case measure => simp [intOf]; omega
      · rw [if_neg h0] at HYr
        have c2 : (0 : Int) < (r : Int) := by omega
        by_cases h1 : r < R
        · rw [if_pos h1] at HYr
          have hd : decide (0 < r ∧ r < R) = true := decide_eq_true (by omega)
          rw [hd] at HMX
          clear hd hRR h0 h1
          go_wp2_with (first
            | (refine step_load_ma rfl 23 (.tmp 18) rfl c (r * 16) 16 y 5 rfl HRg.out Try.underlying23 infoa ?_)
            | (refine step_store_ba rfl 23 (.tmp 6) (.tmp 19) rfl wr.heap.size 16 23 (fun _ => 0) y rfl rfl HA0.out infoa ?_; clear HA0; generalize (wr.alloc (.cells #[.int .u8 0, .int .u8 0, .int .u8 0, .int .u8 0, .int .u8 0, .int .u8 0, .int .u8 0, .int .u8 0, .int .u8 0, .int .u8 0, .int .u8 0, .int .u8 0, .int .u8 0, .int .u8 0, .int .u8 0, .int .u8 0] 23)).setRow wr.heap.size (ba 16 y) = w1 at *; generalize wr.heap.size = n at *))
          have HD := hid HK.out.drew
          have hb0 := HK.out.drew.ci.blk.c0
          refine region_tail 6 (by kernel_rfl) (by kernel_rfl) ?_
          simp only [List.take_succ_cons, List.take_zero, List.drop_succ_cons, List.drop_zero]
          generalize w1.drew = w2 at *
          refine still_load_mid rfl 23 (.tmp 3) rfl w.heap.size 0 16 g 5 rfl HD.out.var.range Try.underlying23 infoa ?_
          have hmf : ∀ (fn : Fn) (first cap : Array Value) (w : World), (Instr.makeFunc fn first cap).run Try.prog w = .ok (.func fn first cap) w := fun _ _ _ _ => rfl
          repeat still_step
          refine wpStill_nil ?_
          clear hb0 hmf
          go_wp2_with (first
            | (go_at_call 28; (with_reducible refine (each_sub b g _ HEb.out HD.out.ci.box).mono ?_); rintro e w3 ⟨rfl, hbx, ho⟩; have HD3 := hid (HD.out.only ho hbx); clear hbx ho)
            | (go_at_call 5; (with_reducible refine (rows_any (subF g) _).mono ?_); rintro e w4 ⟨rfl, hlow⟩; have HD4 := hid (HD3.out.self hlow); clear hlow)
            | (refine step_store_ba rfl 23 (.tmp 3) (.tmp 29) rfl w.heap.size 16 23 g _ rfl rfl HD4.out.var infoa ?_; have HD5 := hid (HD4.out.row (shR (subF g))); have HB5 := hid (shR_b (subF_b g)); generalize w4.setRow w.heap.size (ba 16 (shR (subF g))) = w5 at *)
            | (go_at_call 30; (with_reducible refine (HMX.out _ HD5.out.ci.blk).mono ?_); rintro e u1 ⟨rfl, rfl⟩)
            | (refine step_load_ba rfl 23 (.tmp 3) rfl w.heap.size 16 23 5 (mxC (shR (subF g))) rfl HD7.out.var Try.underlying23 infoa ?_)
            | (refine step_load_ba rfl 23 (.tmp 6) rfl n 16 23 5 y rfl HD7.out.key Try.underlying23 infoa ?_)
            | (go_at_call 31; (with_reducible refine (sum16_any (mxC (shR (subF g))) y _ HB7.out HYb.out).mono ?_); rintro e w9 ⟨rfl, hlow⟩; have HK9 := hid (HD7.out.self hlow); clear hlow)
            | (refine step_store_ba rfl 23 (.tmp 3) (.tmp 37) rfl w.heap.size 16 23 (mxC (shR (subF g))) _ rfl rfl HK9.out.var infoa ?_; have HKA := hid (HK9.out.row (addF (mxC (shR (subF g))) y)))
            | (refine step_load_ba rfl 23 (.tmp 3) rfl w.heap.size 16 23 5 (shR (subF g)) rfl HD5.out.var Try.underlying23 infoa ?_)
            | (go_at_call 7; (with_reducible refine (columns_any16 (shR (subF g)) _ HB5.out).mono ?_); rintro e w6 ⟨rfl, hlow⟩; have HD6 := hid (HD5.out.self hlow); clear hlow)
            | (refine step_store_ba rfl 23 (.tmp 3) (.tmp 34) rfl w.heap.size 16 23 (shR (subF g)) _ rfl rfl HD6.out.var infoa ?_; have HD7 := hid (HD6.out.row (mxC (shR (subF g)))); have HB7 := hid (mxC_b HB5.out); generalize w6.setRow w.heap.size (ba 16 (mxC (shR (subF g)))) = w7 at *))
          go_roundw
          case rel => exact ⟨r + 1, by omega, by go_num, by rw [HG'.out, HNr.out, HYr.out]; exact HKA.out.toBI⟩
          case measure => simp [intOf]; omega
        · rw [if_neg h1] at HYr
          have hd : decide (0 < r ∧ r < R) = false := decide_eq_false (by omega)
          rw [hd] at HMX
          clear hd hRR h0 h1
          go_wp2_with (first
            | (refine step_load_ma rfl 23 (.tmp 18) rfl c (r * 16) 16 y 5 rfl HRg.out Try.underlying23 infoa ?_)
            | (refine step_store_ba rfl 23 (.tmp 6) (.tmp 19) rfl wr.heap.size 16 23 (fun _ => 0) y rfl rfl HA0.out infoa ?_; clear HA0; generalize (wr.alloc (.cells #[.int .u8 0, .int .u8 0, .int .u8 0, .int .u8 0, .int .u8 0, .int .u8 0, .int .u8 0, .int .u8 0, .int .u8 0, .int .u8 0, .int .u8 0, .int .u8 0, .int .u8 0, .int .u8 0, .int .u8 0, .int .u8 0] 23)).setRow wr.heap.size (ba 16 y) = w1 at *; generalize wr.heap.size = n at *))
          have HD := hid HK.out.drew
          have hb0 := HK.out.drew.ci.blk.c0
          refine region_tail 6 (by kernel_rfl) (by kernel_rfl) ?_
          simp only [List.take_succ_cons, List.take_zero, List.drop_succ_cons, List.drop_zero]
          generalize w1.drew = w2 at *
          refine still_load_mid rfl 23 (.tmp 3) rfl w.heap.size 0 16 g 5 rfl HD.out.var.range Try.underlying23 infoa ?_
          have hmf : ∀ (fn : Fn) (first cap : Array Value) (w : World), (Instr.makeFunc fn first cap).run Try.prog w = .ok (.func fn first cap) w := fun _ _ _ _ => rfl
          repeat still_step
          refine wpStill_nil ?_
          clear hb0 hmf
          go_wp2_with (first
            | (go_at_call 28; (with_reducible refine (each_sub b g _ HEb.out HD.out.ci.box).mono ?_); rintro e w3 ⟨rfl, hbx, ho⟩; have HD3 := hid (HD.out.only ho hbx); clear hbx ho)
            | (go_at_call 5; (with_reducible refine (rows_any (subF g) _).mono ?_); rintro e w4 ⟨rfl, hlow⟩; have HD4 := hid (HD3.out.self hlow); clear hlow)
            | (refine step_store_ba rfl 23 (.tmp 3) (.tmp 29) rfl w.heap.size 16 23 g _ rfl rfl HD4.out.var infoa ?_; have HD5 := hid (HD4.out.row (shR (subF g))); have HB5 := hid (shR_b (subF_b g)); generalize w4.setRow w.heap.size (ba 16 (shR (subF g))) = w5 at *)
            | (go_at_call 30; (with_reducible refine (HMX.out _ HD5.out.ci.blk).mono ?_); rintro e u1 ⟨rfl, rfl⟩)
            | (refine step_load_ba rfl 23 (.tmp 3) rfl w.heap.size 16 23 5 (shR (subF g)) rfl HD5.out.var Try.underlying23 infoa ?_)
            | (refine step_load_ba rfl 23 (.tmp 6) rfl n 16 23 5 y rfl HD5.out.key Try.underlying23 infoa ?_)
            | (go_at_call 31; (with_reducible refine (sum16_any (shR (subF g)) y _ HB5.out HYb.out).mono ?_); rintro e w9 ⟨rfl, hlow⟩; have HK9 := hid (HD5.out.self hlow); clear hlow)
            | (refine step_store_ba rfl 23 (.tmp 3) (.tmp 37) rfl w.heap.size 16 23 (shR (subF g)) _ rfl rfl HK9.out.var infoa ?_; have HKA := hid (HK9.out.row (addF (shR (subF g)) y))))
          go_roundw
          case rel => exact ⟨r + 1, by omega, by go_num, by rw [HG'.out, HNr.out, HYr.out]; exact HKA.out.toBI⟩
          case measure => simp [intOf]; omega
    · obtain rfl : r = R1 := by omega
      go_wp2_with (first
        | (refine step_load_ba rfl 23 _ rfl w.heap.size 16 23 5 _ rfl HI.out.var Try.underlying23 infoa ?_)
        | (refine step_store_ba rfl 23 _ _ rfl (w.heap.size + 1) 16 23 (fun _ => 0) _ rfl rfl HI.out.out infoa ?_))
      exact ret_ba rfl rfl Try.underlying23 infoa rfl (HI.out.done _).1 ⟨by rw [HZ.out], (HI.out.done _).2⟩
end Go.Proofs.Ythkanhhpkaigoaa
