import Derived.Test.YthkanhhpkaigoaaProg
import Derived.Test.YthkanhhpkaigoaaAeg
namespace Go.Proofs.Ythkanhhpkaigoaa
open Go.RowKit

theorem wrap64_sub1 {r : Int} (h : -9223372036854775807 ≤ r ∧ r ≤ 9223372036854775807 := by omega) : wrap64 (r - 1) = r - 1 := by unfold wrap64; omega

set_option maxRecDepth 100000 in
set_option maxHeartbeats 3200000 in
theorem unblock_any (d b c cap R R1 : Nat) (Y : Nat → Nat → Nat) (f : Nat → Nat) (w : World) (hR1 : R1 = R + 1) (hR : 0 < R) (hl : R ≤ 1000) (hf : B16 f) (h : Ci w d b c cap R1 Y) :
    Calls Try.prog 15 #[.pointer (some ⟨d, 0, none⟩), .agg (ba 16 f)] w fun e w' => e = .returned (.agg (ba 16 (unbF Y R f))) ∧ Ci w' d b c cap R1 Y ∧ Only b w w' := by
  have HS := hid (BI.start h f)
  have HE : Hid (∀ n, n ≤ R1 → B16 (dec Y R f n)) := hid (fun n hn => dec_b (fun r hr => h.rows.byte r (by omega)) hf n (by omega))
  have HY : Hid (∀ r, r < R1 → B16 (Y r)) := hid h.rows.byte
  have HN : Hid (∀ k, dec Y R f (k + 1) = decR Y R (R - k) (dec Y R f k)) := hid (fun _ => rfl)
  have HZ : Hid (unbF Y R f = dec Y R f R1) := hid (by rw [hR1]; rfl)
  have H0 : Hid (dec Y R f 0 = f) := hid rfl
  have hc1 : ((w.alloc (.cells (ba 16 f) 23)).alloc (.cells #[.int .u8 0, .int .u8 0, .int .u8 0, .int .u8 0, .int .u8 0, .int .u8 0, .int .u8 0, .int .u8 0, .int .u8 0, .int .u8 0, .int .u8 0, .int .u8 0, .int .u8 0, .int .u8 0, .int .u8 0, .int .u8 0] 23)).cell? ⟨d, 1, none⟩ = some (.slice (some ⟨c, 0, none⟩) R1 cap) := HS.out.ci.blk.c1
  have HR1 : Hid (R1 = R + 1 ∧ 0 < R ∧ R ≤ 1000) := hid ⟨hR1, hR, hl⟩
  have e1 : (R1 : Int) - 1 = (R : Int) := by omega
  have w1 : IntKind.i64.wrap (R : Int) = R := by rw [IntKind.wrap_i64]; omega
  clear hf h hR1 hR hl
  generalize dec Y R f = E at *
  generalize unbF Y R f = Z at *
  go_enter Try.func15, Try.ntmps15
  go_wp2
  clear hc1 e1 w1
  go_loopw [5] (fun i wr => ∃ (k : Nat) (x : Int), k ≤ R1 ∧ x = (R : Int) - k ∧ i = .int .i64 x ∧ BI w wr d b c cap R1 Y (E k)) (fun i _ => (intOf i + 1).toNat)
  case atStart => exact ⟨0, R, by omega, by omega, rfl, by rw [H0.out]; exact HS.out⟩
  case round =>
    obtain ⟨k, x, hk, hx, rfl, hI⟩ := hrel
    have HI := hid hI
    clear hI
    by_cases hlt : 0 ≤ x
    · obtain ⟨r, rfl⟩ := Int.eq_ofNat_of_zero_le hlt
      have hRR := HR1.out
      have HX := hid hx
      have hrR : r ≤ R := by omega
      have hrk : R - k = r := by omega
      have hr1 : r < R1 := by omega
      have c1 : (r : Int) < (R1 : Int) := by omega
      have hle : r ≤ 1000 := by omega
      clear hx
      have HEb := hid (HE.out k hk)
      have HYb := hid (HY.out r hr1)
      have HNr := hid (HN.out k)
      rw [hrk] at HNr
      have HMX := hid (fun w h => mixes_any d b c cap R R1 r Y w h HR1.out.1 hrR HR1.out.2.2)
      have HKD := hid (And.intro hk hr1)
      generalize hg' : E (k + 1) = g' at HNr
      have HG' := hid hg'
      generalize E k = g at *
      have HYr : Hid (decR Y R r g = if r = 0 then addF g (Y r) else if r < R then unsF (shB (mxB (addF g (Y r)))) else unsF (shB (addF g (Y r)))) := hid rfl
      generalize decR Y R r g = q at HNr HYr
      have HD := hid HI.out.drew
      have hd1 := HI.out.drew.ci.blk.c1
      have HRg := hid (HI.out.drew.ci.rows.range hr1)
      generalize Y r = y at HRg HYb HYr
      clear hg' hrk hk hRR
      go_wp2
      refine region_tail 8 (by kernel_rfl) (by kernel_rfl) ?_
      simp only [List.take_succ_cons, List.take_zero, List.drop_succ_cons, List.drop_zero]
      generalize wr.drew = w2 at *
      refine still_load_mid rfl 23 (.tmp 3) rfl w.heap.size 0 16 g 5 rfl HD.out.var.range Try.underlying23 infoa ?_
      still_step
      still_step
      still_step
      still_step
      still_step
      still_step
      refine still_load_mid rfl 23 (.tmp 25) rfl c (r * 16) 16 y 5 rfl HRg.out Try.underlying23 infoa ?_
      refine wpStill_nil ?_
      clear hd1 hr1
      have hRR := HR1.out
      have HAb := hid (addF_b HEb.out HYb.out)
      by_cases h0 : r = 0
      · rw [if_pos h0] at HYr
        have hd : decide (0 < r ∧ r < R) = false := decide_eq_false (by omega)
        rw [hd] at HMX
        have c2 : ¬ (0 : Int) < (r : Int) := by omega
        clear hd hRR hrR h0
        go_wp2_with (first
          | (go_at_call 31; (with_reducible refine (sum16_any g y _ HEb.out HYb.out).mono ?_); rintro e w3 ⟨rfl, hlow⟩; have HD3 := hid (HD.out.self hlow); clear hlow)
          | (refine step_store_ba rfl 23 (.tmp 3) (.tmp 27) rfl w.heap.size 16 23 g _ rfl rfl HD3.out.var infoa ?_; have HD4 := hid (HD3.out.row (addF g y)); generalize w3.setRow w.heap.size (ba 16 (addF g y)) = w4 at *)
          | (go_at_call 30; (with_reducible refine (HMX.out _ HD4.out.ci.blk).mono ?_); rintro e u1 ⟨rfl, rfl⟩))
        go_roundw
        case rel => exact ⟨k + 1, _, by have := HKD.out; have := HX.out; have := HR1.out; omega, by have := HX.out; omega, rfl, by rw [HG'.out, HNr.out, HYr.out]; exact HD4.out⟩
        case measure => first | (simp [intOf]; done) | (simp [intOf]; omega)
      · rw [if_neg h0] at HYr
        have c2 : (0 : Int) < (r : Int) := by omega
        by_cases h1 : r < R
        · rw [if_pos h1] at HYr
          have hd : decide (0 < r ∧ r < R) = true := decide_eq_true (by omega)
          rw [hd] at HMX
          clear hd hRR h0 h1 hrR
          go_wp2_with (first
            | (go_at_call 31; (with_reducible refine (sum16_any g y _ HEb.out HYb.out).mono ?_); rintro e w3 ⟨rfl, hlow⟩; have HD3 := hid (HD.out.self hlow); clear hlow)
            | (refine step_store_ba rfl 23 (.tmp 3) (.tmp 27) rfl w.heap.size 16 23 g _ rfl rfl HD3.out.var infoa ?_; have HD4 := hid (HD3.out.row (addF g y)); generalize w3.setRow w.heap.size (ba 16 (addF g y)) = w4 at *)
            | (go_at_call 30; (with_reducible refine (HMX.out _ HD4.out.ci.blk).mono ?_); rintro e u1 ⟨rfl, rfl⟩)
            | (refine step_load_ba rfl 23 (.tmp 3) rfl w.heap.size 16 23 5 (addF g y) rfl HD4.out.var Try.underlying23 infoa ?_)
            | (go_at_call 11; (with_reducible refine (backColumns_any (addF g y) _ HAb.out).mono ?_); rintro e w5 ⟨rfl, hlow⟩; have HD5 := hid (HD4.out.self hlow); clear hlow)
            | (refine step_store_ba rfl 23 (.tmp 3) (.tmp 32) rfl w.heap.size 16 23 (addF g y) _ rfl rfl HD5.out.var infoa ?_; have HD6 := hid (HD5.out.row (mxB (addF g y))); have HAc := hid (mxB_b HAb.out); generalize w5.setRow w.heap.size (ba 16 (mxB (addF g y))) = w6 at *))
          have HL := hid HD6.out.drew
          have hmf : ∀ (fn : Fn) (first cap : Array Value) (w : World), (Instr.makeFunc fn first cap).run Try.prog w = .ok (.func fn first cap) w := fun _ _ _ _ => rfl
          refine wp_region_noPanic ?_
          refine wp_region_held_drew (S := fun w' => w'.cell? ⟨d, 0, none⟩ = some (.pointer (some ⟨b, 0, none⟩))) (by kernel_rfl) HL.out.ci.blk.c0 (fun h0 => ?_)
          generalize w6.drew = w7 at *
          refine wpAnyH_take (i := 2) (v := .pointer (some ⟨d, 0, none⟩)) rfl (by kernel_rfl) (by kernel_rfl) (by kernel_rfl) (fun _ _ _ h => h) (.inl ⟨by rfl, fun w hw => by clear hw; go_simp⟩) h0 ?_
          try simp only [Act.put, lay_out]
          refine wpAnyH_take (i := 3) (v := .pointer (some ⟨d, 0, none⟩)) rfl (by kernel_rfl) (by kernel_rfl) (by kernel_rfl) (fun _ _ _ h => h) (.inl ⟨by rfl, fun w hw => by clear hw; go_simp⟩) h0 ?_
          try simp only [Act.put, lay_out]
          refine wpAnyH_take (i := 4) (v := .pointer (some ⟨d, 0, none⟩)) rfl (by kernel_rfl) (by kernel_rfl) (by kernel_rfl) (fun _ _ _ h => h) (.inl ⟨by rfl, fun w hw => by clear hw; go_simp⟩) h0 ?_
          try simp only [Act.put, lay_out]
          refine wpAnyH_take (i := 5) (v := .pointer (some ⟨b, 0, none⟩)) rfl (by kernel_rfl) (by kernel_rfl) (by kernel_rfl) (fun _ _ _ h => h) (.inl ⟨by rfl, fun w hw => by go_simp⟩) h0 ?_
          try simp only [Act.put, lay_out]
          refine wpAnyH_take (i := 6) (v := .func (.func 32) #[.pointer (some ⟨b, 0, none⟩)] #[]) rfl (by kernel_rfl) (by kernel_rfl) (by kernel_rfl) (fun _ _ _ h => h) (.inl ⟨by rfl, fun w hw => by clear hw; go_simp⟩) h0 ?_
          try simp only [Act.put, lay_out]
          refine wpAnyH_ready (rs := [0]) (by kernel_rfl) (by simp) (AllReadyH.cons rfl (fun K hK => ?_) AllReadyH.nil)
          rw [if_pos (by rfl)]
          refine wp_load_mid 23 (.tmp 3) rfl w.heap.size 0 rfl (ba 16 (mxB (addF g y))).toList _ HL.out.var.range Try.underlying23 rfl (by rw [Array.length_toList, ba_size]; exact infoa) ?_
          simp only [Array.toArray_toList]
          refine hK.out _ _ (h0) (fun h1 => ?_)
          clear hK K
          try simp only [Act.put, lay_out]
          refine wpAnyH_ready (rs := [1]) (by kernel_rfl) (by simp) (AllReadyH.cons rfl (fun K hK => ?_) AllReadyH.nil)
          go_simp
          go_at_call 9
          (with_reducible refine (backRows_any (mxB (addF g y)) _).mono ?_); rintro e w8 ⟨rfl, hlow⟩
          have HM := hid (HL.out.self hlow)
          clear hlow
          refine hK.out _ _ (HM.out.ci.blk.c0) (fun h2 => ?_)
          clear hK K
          try simp only [Act.put, lay_out]
          refine wpAnyH_ready (rs := [7]) (by kernel_rfl) (by simp) (AllReadyH.cons rfl (fun K hK => ?_) AllReadyH.nil)
          go_simp
          go_at_call 28
          (with_reducible refine (each_back b (shB (mxB (addF g y))) _ (shB_b HAc.out) HM.out.ci.box).mono ?_); rintro e w9 ⟨rfl, hbx, ho⟩
          have HM2 := hid (HM.out.only ho hbx)
          clear hbx ho
          refine hK.out _ _ (HM2.out.ci.blk.c0) (fun h3 => ?_)
          clear hK K
          try simp only [Act.put, lay_out]
          refine wpAnyH_ready (rs := [8]) (by kernel_rfl) (by simp) (AllReadyH.cons rfl (fun K hK => ?_) AllReadyH.nil)
          rw [if_pos (by rfl)]
          refine wp_store_row 23 (.tmp 3) (.tmp 42) rfl w.heap.size (ba 16 (unsF (shB (mxB (addF g y))))) rfl rfl 23 _ HM2.out.var (by rw [ba_size]; exact infoa) (by rw [ba_size, ba_size]) (ba_one 16 _) ?_
          have HMF := hid (HM2.out.row (unsF (shB (mxB (addF g y)))))
          refine hK.out _ _ (HMF.out.ci.blk.c0) (fun h4 => ?_)
          clear hK K
          try simp only [Act.put, lay_out]
          refine wpAnyH_done (by kernel_rfl) ?_ _
          refine NoPanic.normal ?_
          clear h0 h1 h2 h3 h4 hmf
          try simp only [Act.put, lay_out]
          go_wp2
          go_roundw
          case rel => exact ⟨k + 1, _, by have := HKD.out; have := HX.out; have := HR1.out; omega, by have := HX.out; omega, rfl, by rw [HG'.out, HNr.out, HYr.out]; exact HMF.out⟩
          case measure => first | (simp [intOf]; done) | (simp [intOf]; omega)
        · rw [if_neg h1] at HYr
          have hd : decide (0 < r ∧ r < R) = false := decide_eq_false (by omega)
          rw [hd] at HMX
          clear hd hRR h0 h1 hrR
          go_wp2_with (first
            | (go_at_call 31; (with_reducible refine (sum16_any g y _ HEb.out HYb.out).mono ?_); rintro e w3 ⟨rfl, hlow⟩; have HD3 := hid (HD.out.self hlow); clear hlow)
            | (refine step_store_ba rfl 23 (.tmp 3) (.tmp 27) rfl w.heap.size 16 23 g _ rfl rfl HD3.out.var infoa ?_; have HD4 := hid (HD3.out.row (addF g y)); generalize w3.setRow w.heap.size (ba 16 (addF g y)) = w4 at *)
            | (go_at_call 30; (with_reducible refine (HMX.out _ HD4.out.ci.blk).mono ?_); rintro e u1 ⟨rfl, rfl⟩))
          have HL := hid HD4.out.drew
          have hmf : ∀ (fn : Fn) (first cap : Array Value) (w : World), (Instr.makeFunc fn first cap).run Try.prog w = .ok (.func fn first cap) w := fun _ _ _ _ => rfl
          refine wp_region_noPanic ?_
          refine wp_region_held_drew (S := fun w' => w'.cell? ⟨d, 0, none⟩ = some (.pointer (some ⟨b, 0, none⟩))) (by kernel_rfl) HL.out.ci.blk.c0 (fun h0 => ?_)
          generalize u1.drew = w7 at *
          refine wpAnyH_take (i := 2) (v := .pointer (some ⟨d, 0, none⟩)) rfl (by kernel_rfl) (by kernel_rfl) (by kernel_rfl) (fun _ _ _ h => h) (.inl ⟨by rfl, fun w hw => by clear hw; go_simp⟩) h0 ?_
          try simp only [Act.put, lay_out]
          refine wpAnyH_take (i := 3) (v := .pointer (some ⟨d, 0, none⟩)) rfl (by kernel_rfl) (by kernel_rfl) (by kernel_rfl) (fun _ _ _ h => h) (.inl ⟨by rfl, fun w hw => by clear hw; go_simp⟩) h0 ?_
          try simp only [Act.put, lay_out]
          refine wpAnyH_take (i := 4) (v := .pointer (some ⟨d, 0, none⟩)) rfl (by kernel_rfl) (by kernel_rfl) (by kernel_rfl) (fun _ _ _ h => h) (.inl ⟨by rfl, fun w hw => by clear hw; go_simp⟩) h0 ?_
          try simp only [Act.put, lay_out]
          refine wpAnyH_take (i := 5) (v := .pointer (some ⟨b, 0, none⟩)) rfl (by kernel_rfl) (by kernel_rfl) (by kernel_rfl) (fun _ _ _ h => h) (.inl ⟨by rfl, fun w hw => by go_simp⟩) h0 ?_
          try simp only [Act.put, lay_out]
          refine wpAnyH_take (i := 6) (v := .func (.func 32) #[.pointer (some ⟨b, 0, none⟩)] #[]) rfl (by kernel_rfl) (by kernel_rfl) (by kernel_rfl) (fun _ _ _ h => h) (.inl ⟨by rfl, fun w hw => by clear hw; go_simp⟩) h0 ?_
          try simp only [Act.put, lay_out]
          refine wpAnyH_ready (rs := [0]) (by kernel_rfl) (by simp) (AllReadyH.cons rfl (fun K hK => ?_) AllReadyH.nil)
          rw [if_pos (by rfl)]
          refine wp_load_mid 23 (.tmp 3) rfl w.heap.size 0 rfl (ba 16 (addF g y)).toList _ HL.out.var.range Try.underlying23 rfl (by rw [Array.length_toList, ba_size]; exact infoa) ?_
          simp only [Array.toArray_toList]
          refine hK.out _ _ (h0) (fun h1 => ?_)
          clear hK K
          try simp only [Act.put, lay_out]
          refine wpAnyH_ready (rs := [1]) (by kernel_rfl) (by simp) (AllReadyH.cons rfl (fun K hK => ?_) AllReadyH.nil)
          go_simp
          go_at_call 9
          (with_reducible refine (backRows_any (addF g y) _).mono ?_); rintro e w8 ⟨rfl, hlow⟩
          have HM := hid (HL.out.self hlow)
          clear hlow
          refine hK.out _ _ (HM.out.ci.blk.c0) (fun h2 => ?_)
          clear hK K
          try simp only [Act.put, lay_out]
          refine wpAnyH_ready (rs := [7]) (by kernel_rfl) (by simp) (AllReadyH.cons rfl (fun K hK => ?_) AllReadyH.nil)
          go_simp
          go_at_call 28
          (with_reducible refine (each_back b (shB (addF g y)) _ (shB_b HAb.out) HM.out.ci.box).mono ?_); rintro e w9 ⟨rfl, hbx, ho⟩
          have HM2 := hid (HM.out.only ho hbx)
          clear hbx ho
          refine hK.out _ _ (HM2.out.ci.blk.c0) (fun h3 => ?_)
          clear hK K
          try simp only [Act.put, lay_out]
          refine wpAnyH_ready (rs := [8]) (by kernel_rfl) (by simp) (AllReadyH.cons rfl (fun K hK => ?_) AllReadyH.nil)
          rw [if_pos (by rfl)]
          refine wp_store_row 23 (.tmp 3) (.tmp 42) rfl w.heap.size (ba 16 (unsF (shB (addF g y)))) rfl rfl 23 _ HM2.out.var (by rw [ba_size]; exact infoa) (by rw [ba_size, ba_size]) (ba_one 16 _) ?_
          have HMF := hid (HM2.out.row (unsF (shB (addF g y))))
          refine hK.out _ _ (HMF.out.ci.blk.c0) (fun h4 => ?_)
          clear hK K
          try simp only [Act.put, lay_out]
          refine wpAnyH_done (by kernel_rfl) ?_ _
          refine NoPanic.normal ?_
          clear h0 h1 h2 h3 h4 hmf
          try simp only [Act.put, lay_out]
          go_wp2
          go_roundw
          case rel => exact ⟨k + 1, _, by have := HKD.out; have := HX.out; have := HR1.out; omega, by have := HX.out; omega, rfl, by rw [HG'.out, HNr.out, HYr.out]; exact HMF.out⟩
          case measure => first | (simp [intOf]; done) | (simp [intOf]; omega)
    · obtain rfl : k = R1 := by have := HR1.out; omega
      go_wp2_with (first
        | (refine step_load_ba rfl 23 _ rfl w.heap.size 16 23 5 _ rfl HI.out.var Try.underlying23 infoa ?_)
        | (refine step_store_ba rfl 23 _ _ rfl (w.heap.size + 1) 16 23 (fun _ => 0) _ rfl rfl HI.out.out infoa ?_))
      exact ret_ba rfl rfl Try.underlying23 infoa rfl (HI.out.done _).1 ⟨by rw [HZ.out], (HI.out.done _).2⟩
end Go.Proofs.Ythkanhhpkaigoaa
