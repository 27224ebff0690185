import Derived.Test.YtdgkofnboeepbaaProg
import Derived.Test.YtdgkofnboeepbaaMgal
/- Share: ShareHides over any machine: the walk. -/
namespace Go.Proofs.Ytdgkofnboeepbaa
open Go.RowKit
set_option maxRecDepth 100000
set_option maxHeartbeats 25600000 in
theorem shides_core {Pm : World → Nat → Ms → (Nat → Prop) → Prop} (hM : Mach Pm) (hN : MachN Pm) (hS : ShI Pm) (t3 : Bool) (a b x y : Nat) (ha : a < 2 ^ 64) (hb : b < 2 ^ 64) (hx : x < 2 ^ 64) (hy : y < 2 ^ 64) (W : World) :
    Calls Try.prog 5 #[.bool t3, .int .u64 (a : Int), .int .u64 (b : Int), .int .u64 (x : Int), .int .u64 (y : Int)] W fun e w' => e = .returned (.bool true) ∧ Below W.heap.size W w' := by
  have htw : ∀ i, i < 2 → twAB a b i < 2 ^ 64 := fun i _ => by unfold twAB; split <;> assumption
  have HBG : Hid (∀ (nn : Nat) (w : World), (nn = 2 ∨ nn = 3) → Calls Try.prog 6 #[.int .i64 (nn : Int), .slice (some ⟨w.heap.size, 0, none⟩) 2 2, .int .i64 9] (w.alloc (.cells #[.int .u64 (a : Int), .int .u64 (b : Int)] 34)) fun e w' => ∃ p bb, e = .returned (.tuple #[.agg (paC p bb (.slice none 0 0) (.slice none 0 0)), .bool true]) ∧ Below w.heap.size w w' ∧ ∃ F, Pm w' p (hidS nn a b) F ∧ ∀ k, F k → w.heap.size ≤ k) := hid (fun nn w hn => by
    have hlow := (Below.refl w.heap.size w).alloc (Nat.le_refl _) (.cells #[.int .u64 (a : Int), .int .u64 (b : Int)] 34)
    have hrd : RdS .u64 (w.alloc (.cells #[.int .u64 (a : Int), .int .u64 (b : Int)] 34)) (fun g => g < (w.alloc (.cells #[.int .u64 (a : Int), .int .u64 (b : Int)] 34)).heap.size) (.slice (some ⟨w.heap.size, 0, none⟩) 2 2) (wdL (twAB a b) 2) := by
      have hz : wdL (twAB a b) 2 = [(a : Int), (b : Int)] := rfl
      rw [hz]
      refine ⟨some ⟨w.heap.size, 0, none⟩, 2, rfl, Nat.le_refl _, by decide, by show 2 * 8 ≤ _; decide, fun z hz => ?_, fun _ => ⟨w.heap.size, 0, rfl, by rw [sz_al]; omega, by rw [sz_al]; omega, fun j hj => ?_⟩⟩
      · simp at hz
        rcases hz with rfl | rfl
        · exact WalkArith.wf_u64 (by omega)
        · exact WalkArith.wf_u64 (by omega)
      · have hj2 : j = 0 ∨ j = 1 := by have : j < 2 := hj; omega
        rcases hj2 with rfl | rfl
        · exact row_c (i := 0) (heap_alloc_new w _) rfl
        · exact row_c (i := 1) (heap_alloc_new w _) rfl
    refine (lbegins_any hM hN (nn : Int) 9 (by omega) (by decide) (by decide) (twAB a b) 2 _ _ hrd).mono fun e w' hr => ?_
    obtain ⟨p, bb, e1, hz⟩ := hr
    obtain ⟨F, G, ov, bv, vv, tv, h1, h2, h3, h4, h5, h6, h7⟩ := hz
    have hsz := sz_al w (.cells #[.int .u64 (a : Int), .int .u64 (b : Int)] 34)
    refine ⟨p, bb, e1, hlow.trans (h6.mono (by omega)), F, h1, fun k hk => ?_⟩
    have := (h3 k hk).1
    omega)
  have HBQ : Hid (∀ nn, (nn = 2 ∨ nn = 3) → Bq 0 (hidS nn a b)) := hid (fun nn hn => startD_bq (nn : Int) 9 (twAB a b) 2 0 2 0 (by omega) (by decide) (by decide) (by decide) htw (by decide) (by decide))
  have HAW := hid (fun w => sawake_any hM hN hS w)
  have HXB := hid hx
  have HYB := hid hy
  clear ha hb htw hx hy
  go_enter Try.func5, Try.ntmps5
  go_upto_if 22 with fail
  go_cut [11] from 11 to 11 (fun q wx => ∃ nn : Nat, q = .int .i64 (nn : Int) ∧ (nn = 2 ∨ nn = 3) ∧ W = wx)
  case first =>
    cases t3
    · go_wp2
      go_meet
      exact ⟨2, rfl, .inl rfl, rfl⟩
    · go_wp2
      go_meet
      exact ⟨3, rfl, .inr rfl, rfl⟩
  case rest =>
    obtain ⟨nn, rfl, hn, rfl⟩ := hcut
    have HN23 := hid hn
    have HNI : Hid ((hidS nn a b).n = 2 ∨ (hidS nn a b).n = 3) := hid (by show (nn : Int) = 2 ∨ (nn : Int) = 3; omega)
    have hnn : nn ≤ 3 := by omega
    have HN3 := hid hnn
    clear hn hnn
    have HSK : Hid ((hidS nn a b).skip = 0) := hid rfl
    obtain ⟨S0, hS0⟩ : ∃ S0, hidS nn a b = S0 := ⟨_, rfl⟩
    have HB0 := hid (HBQ.out nn HN23.out)
    have HHA := hid (hid_all HN23.out a b x)
    have HHB := hid (hid_all HN23.out a b y)
    have HSU := hid (fun j hj => unl_step (a := a) (b := b) (x := x) (y := y) (j := j) HN23.out hj)
    have HBN := hid (fun w => HBG.out nn w HN23.out)
    rw [hS0] at HSK HNI HB0 HHA HHB HSU HBN
    clear hS0 HBQ HBG
    go_upto_region 5 with (go_at_call 6; (with_reducible refine (HBN.out _).mono ?_); rintro e w2 ⟨pa, ba, rfl, hb, hF⟩; have B2 := hid hb; have F2 := hid hF; clear hb hF)
    have hb3 := (Below.refl w2.heap.size w2).alloc (Nat.le_refl _) (.cells (paC pa ba (.slice none 0 0) (.slice none 0 0)) 28)
    have X3 : Hid ((w2.alloc (.cells (paC pa ba (.slice none 0 0) (.slice none 0 0)) 28)).heap[w2.heap.size]? = some (.cells (paC pa ba (.slice none 0 0) (.slice none 0 0)) 28 (0, 0))) := hid (heap_alloc_new _ _)
    have S3 : Hid ((w2.alloc (.cells (paC pa ba (.slice none 0 0) (.slice none 0 0)) 28)).heap.size = w2.heap.size + 1) := hid (sz_al _ _)
    have B3 := hid hb3
    clear hb3
    generalize w2.alloc (.cells (paC pa ba (.slice none 0 0) (.slice none 0 0)) 28) = w3 at *
    go_upto_region 6 with (go_at_call 6; (with_reducible refine (HBN.out _).mono ?_); rintro e w5 ⟨pb, bb, rfl, hb, hF⟩; have B5 := hid hb; have F5 := hid hF; clear hb hF)
    have H5 : Hid (Hw Pm W.heap.size W w5 pa pb S0 S0 [(w2.heap.size, .cells (paC pa ba (.slice none 0 0) (.slice none 0 0)) 28 (0, 0))]) := hid (by
      obtain ⟨FA, a1, a2⟩ := F2.out
      obtain ⟨FB, b1, b2⟩ := F5.out
      have hs2 := B2.out.size
      have hs3 := S3.out
      have hs5 := B5.out.size
      have a3 := hM.stays a1 B3.out.size (fun k hk => B3.out.block k (hM.lt a1 k hk))
      have a4 := hM.stays a3 B5.out.size (fun k hk => B5.out.block k (hM.lt a3 k hk))
      refine ⟨⟨FA, FB, a4, b1, fun k hk => ⟨a2 k hk, fun e => ?_, fun q hq => ?_⟩, fun k hk => ⟨?_, fun q hq => ?_⟩⟩, fun q hq => ?_, by simp, (B2.out.trans (B3.out.mono hs2)).trans (B5.out.mono (by omega)), by omega⟩
      · have := hM.lt a1 k hk; have := b2 k e; omega
      · simp at hq; subst hq; have := hM.lt a1 k hk; show w2.heap.size ≠ k; omega
      · have := b2 k hk; omega
      · simp at hq; subst hq; have := b2 k hk; show w2.heap.size ≠ k; omega
      · simp at hq; subst hq
        exact ⟨hs2, (B5.out.block _ (by show w2.heap.size < w3.heap.size; omega)).trans X3.out⟩)
    have H6 := hid (H5.out.new hM (paC pb bb (.slice none 0 0) (.slice none 0 0)) 28)
    obtain ⟨b12, hb12⟩ : ∃ b12, w2.heap.size = b12 := ⟨_, rfl⟩
    obtain ⟨b14, hb14⟩ : ∃ b14, w5.heap.size = b14 := ⟨_, rfl⟩
    generalize w5.alloc (.cells (paC pb bb (.slice none 0 0) (.slice none 0 0)) 28) = w6 at *
    rw [hb12, hb14] at H6
    rw [hb12, hb14]
    clear hb12 hb14 X3 S3 B3 B2 F2 B5 F5 H5
    have HEA := hid (fun (w : World) (bs : List (Nat × Obj)) (h : Hw Pm W.heap.size W w pa pb S0 S0 bs) => hencA hM hS x h HB0.out (by decide) HNI.out HXB.out)
    have HEB := hid (fun (w : World) (bs : List (Nat × Obj)) (h : Hw Pm W.heap.size W w pa pb (encS S0 x) S0 bs) => hencB hM hS y h HB0.out (by decide) HNI.out HYB.out)
    have HQA : Hid (Bq 6 (encS S0 x)) := hid (encS_bq HB0.out (by decide) HNI.out HXB.out)
    have HQB : Hid (Bq 6 (encS S0 y)) := hid (encS_bq HB0.out (by decide) HNI.out HYB.out)
    have HVA := hid (enc_vl (S := S0) (x := x) HHA.out.1 HSK.out HNI.out)
    have HVB := hid (enc_vl (S := S0) (x := y) HHB.out.1 HSK.out HNI.out)
    generalize hR : encR S0 = R at *
    have HRR := hid hR
    clear hR
    go_upto_region 8 with fail
    go_cut [16, 17] from 45 to 52 (fun q16 q17 wx => ∃ b16 b17, q16 = .pointer (some ⟨b16, 0, none⟩) ∧ q17 = .pointer (some ⟨b17, 0, none⟩) ∧ Hw Pm W.heap.size W wx pa pb (encS S0 x) (encS S0 y) [(b17, .cells (wdV R) 33 (0, 0)), (b16, .cells (wdV R) 33 (0, 0)), (b14, .cells (paC pb bb (.slice none 0 0) (.slice none 0 0)) 28 (0, 0)), (b12, .cells (paC pa ba (.slice none 0 0) (.slice none 0 0)) 28 (0, 0))])
    case first =>
      have G0 := hid (H6.out.self hM ((Below.refl _ w6).drew))
      refine wp_region_noPanic ?_
      refine wp_region_held_drew (S := fun w' => w'.heap[b12]? = some (.cells (paC pa ba (.slice none 0 0) (.slice none 0 0)) 28 (0, 0)) ∧ w'.heap[b14]? = some (.cells (paC pb bb (.slice none 0 0) (.slice none 0 0)) 28 (0, 0))) (by kernel_rfl) (⟨G0.out.bl 1 rfl, G0.out.bl 0 rfl⟩) (fun h0 => ?_)
      generalize w6.drew = y0 at *
      refine wpAnyH_take (i := 0) (v := .pointer (some ⟨b12, 0, none⟩)) rfl (by kernel_rfl) (by kernel_rfl) (by kernel_rfl) (fun _ _ _ h => h) (.inl ⟨by rfl, fun w hw => by clear hw; go_simp⟩) h0 ?_
      try simp only [Act.put, lay_out]
      refine wpAnyH_take (i := 1) (v := .pointer (some ⟨pa, 0, none⟩)) rfl (by kernel_rfl) (by kernel_rfl) (by kernel_rfl) (fun _ _ _ h => h) (.inl ⟨by rfl, fun w' hw => by have hc := row_c (i := 0) (u := .pointer (some ⟨pa, 0, none⟩)) hw.1 rfl; clear hw; go_simp⟩) h0 ?_
      try simp only [Act.put, lay_out]
      refine wpAnyH_take (i := 2) (v := .int .u64 (x : Int)) rfl (by kernel_rfl) (by kernel_rfl) (by kernel_rfl) (fun _ _ _ h => h) (.inl ⟨by rfl, fun w hw => by clear hw; go_simp⟩) h0 ?_
      try simp only [Act.put, lay_out]
      refine wpAnyH_take (i := 4) (v := .pointer (some ⟨b14, 0, none⟩)) rfl (by kernel_rfl) (by kernel_rfl) (by kernel_rfl) (fun _ _ _ h => h) (.inl ⟨by rfl, fun w hw => by clear hw; go_simp⟩) h0 ?_
      try simp only [Act.put, lay_out]
      refine wpAnyH_take (i := 5) (v := .pointer (some ⟨pb, 0, none⟩)) rfl (by kernel_rfl) (by kernel_rfl) (by kernel_rfl) (fun _ _ _ h => h) (.inl ⟨by rfl, fun w' hw => by have hc := row_c (i := 0) (u := .pointer (some ⟨pb, 0, none⟩)) hw.2 rfl; clear hw; go_simp⟩) h0 ?_
      try simp only [Act.put, lay_out]
      refine wpAnyH_take (i := 6) (v := .int .u64 (y : Int)) rfl (by kernel_rfl) (by kernel_rfl) (by kernel_rfl) (fun _ _ _ h => h) (.inl ⟨by rfl, fun w hw => by clear hw; go_simp⟩) h0 ?_
      try simp only [Act.put, lay_out]
      refine wpAnyH_ready (rs := [3, 8, 9]) (by kernel_rfl) (by simp) (AllReadyH.cons rfl (fun K hK => ?_) (AllReadyH.cons rfl (fun K hK => ?_) (AllReadyH.cons rfl (fun K hK => ?_) AllReadyH.nil)))
      · rw [if_pos (by rfl)]
        go_simp
        go_at_call 13
        (with_reducible refine (HEA.out _ _ G0.out).mono ?_); rintro e y1 ⟨rfl, hz⟩
        have G1 := hid hz
        clear hz
        refine hK.out _ _ (⟨G1.out.bl 1 rfl, G1.out.bl 0 rfl⟩) (fun h1x => ?_)
        clear hK K
        try simp only [Act.put, lay_out]
        refine wpAnyH_ready (rs := [7, 8, 9]) (by kernel_rfl) (by simp) (AllReadyH.cons rfl (fun K hK => ?_) (AllReadyH.cons rfl (fun K hK => ?_) (AllReadyH.cons rfl (fun K hK => ?_) AllReadyH.nil)))
        · rw [if_pos (by rfl)]
          go_simp
          go_at_call 13
          (with_reducible refine (HEB.out _ _ G1.out).mono ?_); rintro e y2 ⟨rfl, hz⟩
          have G2 := hid hz
          clear hz
          refine hK.out _ _ (⟨G2.out.bl 1 rfl, G2.out.bl 0 rfl⟩) (fun h2x => ?_)
          clear hK K
          try simp only [Act.put, lay_out]
          refine wpAnyH_ready (rs := [8, 9]) (by kernel_rfl) (by simp) (AllReadyH.cons rfl (fun K hK => ?_) (AllReadyH.cons rfl (fun K hK => ?_) AllReadyH.nil))
          · rw [if_pos (by rfl)]
            go_simp
            have G3 := hid (G2.out.new hM #[.int .i64 0, .int .i64 0, .int .i64 0] 33)
            refine hK.out _ _ (⟨G3.out.bl 2 rfl, G3.out.bl 1 rfl⟩) (fun h3x => ?_)
            clear hK K
            try simp only [Act.put, lay_out]
            generalize y2.alloc (.cells #[.int .i64 0, .int .i64 0, .int .i64 0] 33) = y3 at *
            refine wpAnyH_ready (rs := [9]) (by kernel_rfl) (by simp) (AllReadyH.cons rfl (fun K hK => ?_) AllReadyH.nil)
            rw [if_pos (by rfl)]
            go_simp
            have G4 := hid (G3.out.new hM #[.int .i64 0, .int .i64 0, .int .i64 0] 33)
            refine hK.out _ _ (⟨G4.out.bl 3 rfl, G4.out.bl 2 rfl⟩) (fun h4x => ?_)
            clear hK K
            try simp only [Act.put, lay_out]
            generalize y3.alloc (.cells #[.int .i64 0, .int .i64 0, .int .i64 0] 33) = y4 at *
            have G5 := hid G4.out.swap
            refine wpAnyH_ready (rs := [10]) (by kernel_rfl) (by simp) (AllReadyH.cons rfl (fun K hK => ?_) AllReadyH.nil)
            rw [if_pos (by rfl)]
            refine wp_store_row 33 _ _ rfl (y2.heap.size) (wdV R) rfl rfl 33 _ (G5.out.bl 0 rfl) (by kernel_rfl) rfl (by kernel_rfl) ?_
            have G6 := hid (G5.out.row hM (wdV R))
            refine hK.out _ _ (⟨G6.out.bl 3 rfl, G6.out.bl 2 rfl⟩) (fun h5x => ?_)
            clear hK K
            try simp only [Act.put, lay_out]
            have G7 := hid G6.out.swap
            refine wpAnyH_ready (rs := [11]) (by kernel_rfl) (by simp) (AllReadyH.cons rfl (fun K hK => ?_) AllReadyH.nil)
            rw [if_pos (by rfl)]
            refine wp_store_row 33 _ _ rfl (y3.heap.size) (wdV R) rfl rfl 33 _ (G7.out.bl 0 rfl) (by kernel_rfl) rfl (by kernel_rfl) ?_
            have G8 := hid (G7.out.row hM (wdV R))
            refine hK.out _ _ (⟨G8.out.bl 3 rfl, G8.out.bl 2 rfl⟩) (fun h6x => ?_)
            clear hK K
            try simp only [Act.put, lay_out]
            refine wpAnyH_done (by kernel_rfl) ?_ _
            refine NoPanic.normal ?_
            clear h0 h1x h2x h3x h4x h5x h6x
            try simp only [Act.put, lay_out]
            go_wp2_with fail
            go_meet
            exact ⟨_, _, rfl, rfl, G8.out⟩
          · rw [if_pos (by rfl)]
            go_simp
            have G3 := hid (G2.out.new hM #[.int .i64 0, .int .i64 0, .int .i64 0] 33)
            refine hK.out _ _ (⟨G3.out.bl 2 rfl, G3.out.bl 1 rfl⟩) (fun h3x => ?_)
            clear hK K
            try simp only [Act.put, lay_out]
            generalize y2.alloc (.cells #[.int .i64 0, .int .i64 0, .int .i64 0] 33) = y3 at *
            refine wpAnyH_ready (rs := [8]) (by kernel_rfl) (by simp) (AllReadyH.cons rfl (fun K hK => ?_) AllReadyH.nil)
            rw [if_pos (by rfl)]
            go_simp
            have G4 := hid (G3.out.new hM #[.int .i64 0, .int .i64 0, .int .i64 0] 33)
            refine hK.out _ _ (⟨G4.out.bl 3 rfl, G4.out.bl 2 rfl⟩) (fun h4x => ?_)
            clear hK K
            try simp only [Act.put, lay_out]
            generalize y3.alloc (.cells #[.int .i64 0, .int .i64 0, .int .i64 0] 33) = y4 at *
            refine wpAnyH_ready (rs := [10]) (by kernel_rfl) (by simp) (AllReadyH.cons rfl (fun K hK => ?_) AllReadyH.nil)
            rw [if_pos (by rfl)]
            refine wp_store_row 33 _ _ rfl (y3.heap.size) (wdV R) rfl rfl 33 _ (G4.out.bl 0 rfl) (by kernel_rfl) rfl (by kernel_rfl) ?_
            have G5 := hid (G4.out.row hM (wdV R))
            refine hK.out _ _ (⟨G5.out.bl 3 rfl, G5.out.bl 2 rfl⟩) (fun h5x => ?_)
            clear hK K
            try simp only [Act.put, lay_out]
            have G6 := hid G5.out.swap
            refine wpAnyH_ready (rs := [11]) (by kernel_rfl) (by simp) (AllReadyH.cons rfl (fun K hK => ?_) AllReadyH.nil)
            rw [if_pos (by rfl)]
            refine wp_store_row 33 _ _ rfl (y2.heap.size) (wdV R) rfl rfl 33 _ (G6.out.bl 0 rfl) (by kernel_rfl) rfl (by kernel_rfl) ?_
            have G7 := hid (G6.out.row hM (wdV R))
            refine hK.out _ _ (⟨G7.out.bl 3 rfl, G7.out.bl 2 rfl⟩) (fun h6x => ?_)
            clear hK K
            try simp only [Act.put, lay_out]
            refine wpAnyH_done (by kernel_rfl) ?_ _
            refine NoPanic.normal ?_
            clear h0 h1x h2x h3x h4x h5x h6x
            try simp only [Act.put, lay_out]
            go_wp2_with fail
            go_meet
            exact ⟨_, _, rfl, rfl, G7.out⟩
        · rw [if_pos (by rfl)]
          go_simp
          have G2 := hid (G1.out.new hM #[.int .i64 0, .int .i64 0, .int .i64 0] 33)
          refine hK.out _ _ (⟨G2.out.bl 2 rfl, G2.out.bl 1 rfl⟩) (fun h2x => ?_)
          clear hK K
          try simp only [Act.put, lay_out]
          generalize y1.alloc (.cells #[.int .i64 0, .int .i64 0, .int .i64 0] 33) = y2 at *
          refine wpAnyH_ready (rs := [7, 9]) (by kernel_rfl) (by simp) (AllReadyH.cons rfl (fun K hK => ?_) (AllReadyH.cons rfl (fun K hK => ?_) AllReadyH.nil))
          · rw [if_pos (by rfl)]
            go_simp
            go_at_call 13
            (with_reducible refine (HEB.out _ _ G2.out).mono ?_); rintro e y3 ⟨rfl, hz⟩
            have G3 := hid hz
            clear hz
            refine hK.out _ _ (⟨G3.out.bl 2 rfl, G3.out.bl 1 rfl⟩) (fun h3x => ?_)
            clear hK K
            try simp only [Act.put, lay_out]
            refine wpAnyH_ready (rs := [9]) (by kernel_rfl) (by simp) (AllReadyH.cons rfl (fun K hK => ?_) AllReadyH.nil)
            rw [if_pos (by rfl)]
            go_simp
            have G4 := hid (G3.out.new hM #[.int .i64 0, .int .i64 0, .int .i64 0] 33)
            refine hK.out _ _ (⟨G4.out.bl 3 rfl, G4.out.bl 2 rfl⟩) (fun h4x => ?_)
            clear hK K
            try simp only [Act.put, lay_out]
            generalize y3.alloc (.cells #[.int .i64 0, .int .i64 0, .int .i64 0] 33) = y4 at *
            have G5 := hid G4.out.swap
            refine wpAnyH_ready (rs := [10]) (by kernel_rfl) (by simp) (AllReadyH.cons rfl (fun K hK => ?_) AllReadyH.nil)
            rw [if_pos (by rfl)]
            refine wp_store_row 33 _ _ rfl (y1.heap.size) (wdV R) rfl rfl 33 _ (G5.out.bl 0 rfl) (by kernel_rfl) rfl (by kernel_rfl) ?_
            have G6 := hid (G5.out.row hM (wdV R))
            refine hK.out _ _ (⟨G6.out.bl 3 rfl, G6.out.bl 2 rfl⟩) (fun h5x => ?_)
            clear hK K
            try simp only [Act.put, lay_out]
            have G7 := hid G6.out.swap
            refine wpAnyH_ready (rs := [11]) (by kernel_rfl) (by simp) (AllReadyH.cons rfl (fun K hK => ?_) AllReadyH.nil)
            rw [if_pos (by rfl)]
            refine wp_store_row 33 _ _ rfl (y3.heap.size) (wdV R) rfl rfl 33 _ (G7.out.bl 0 rfl) (by kernel_rfl) rfl (by kernel_rfl) ?_
            have G8 := hid (G7.out.row hM (wdV R))
            refine hK.out _ _ (⟨G8.out.bl 3 rfl, G8.out.bl 2 rfl⟩) (fun h6x => ?_)
            clear hK K
            try simp only [Act.put, lay_out]
            refine wpAnyH_done (by kernel_rfl) ?_ _
            refine NoPanic.normal ?_
            clear h0 h1x h2x h3x h4x h5x h6x
            try simp only [Act.put, lay_out]
            go_wp2_with fail
            go_meet
            exact ⟨_, _, rfl, rfl, G8.out⟩
          · rw [if_pos (by rfl)]
            go_simp
            have G3 := hid (G2.out.new hM #[.int .i64 0, .int .i64 0, .int .i64 0] 33)
            refine hK.out _ _ (⟨G3.out.bl 3 rfl, G3.out.bl 2 rfl⟩) (fun h3x => ?_)
            clear hK K
            try simp only [Act.put, lay_out]
            generalize y2.alloc (.cells #[.int .i64 0, .int .i64 0, .int .i64 0] 33) = y3 at *
            refine wpAnyH_ready (rs := [7]) (by kernel_rfl) (by simp) (AllReadyH.cons rfl (fun K hK => ?_) AllReadyH.nil)
            rw [if_pos (by rfl)]
            go_simp
            go_at_call 13
            (with_reducible refine (HEB.out _ _ G3.out).mono ?_); rintro e y4 ⟨rfl, hz⟩
            have G4 := hid hz
            clear hz
            refine hK.out _ _ (⟨G4.out.bl 3 rfl, G4.out.bl 2 rfl⟩) (fun h4x => ?_)
            clear hK K
            try simp only [Act.put, lay_out]
            have G5 := hid G4.out.swap
            refine wpAnyH_ready (rs := [10]) (by kernel_rfl) (by simp) (AllReadyH.cons rfl (fun K hK => ?_) AllReadyH.nil)
            rw [if_pos (by rfl)]
            refine wp_store_row 33 _ _ rfl (y1.heap.size) (wdV R) rfl rfl 33 _ (G5.out.bl 0 rfl) (by kernel_rfl) rfl (by kernel_rfl) ?_
            have G6 := hid (G5.out.row hM (wdV R))
            refine hK.out _ _ (⟨G6.out.bl 3 rfl, G6.out.bl 2 rfl⟩) (fun h5x => ?_)
            clear hK K
            try simp only [Act.put, lay_out]
            have G7 := hid G6.out.swap
            refine wpAnyH_ready (rs := [11]) (by kernel_rfl) (by simp) (AllReadyH.cons rfl (fun K hK => ?_) AllReadyH.nil)
            rw [if_pos (by rfl)]
            refine wp_store_row 33 _ _ rfl (y2.heap.size) (wdV R) rfl rfl 33 _ (G7.out.bl 0 rfl) (by kernel_rfl) rfl (by kernel_rfl) ?_
            have G8 := hid (G7.out.row hM (wdV R))
            refine hK.out _ _ (⟨G8.out.bl 3 rfl, G8.out.bl 2 rfl⟩) (fun h6x => ?_)
            clear hK K
            try simp only [Act.put, lay_out]
            refine wpAnyH_done (by kernel_rfl) ?_ _
            refine NoPanic.normal ?_
            clear h0 h1x h2x h3x h4x h5x h6x
            try simp only [Act.put, lay_out]
            go_wp2_with fail
            go_meet
            exact ⟨_, _, rfl, rfl, G8.out⟩
        · rw [if_pos (by rfl)]
          go_simp
          have G2 := hid (G1.out.new hM #[.int .i64 0, .int .i64 0, .int .i64 0] 33)
          refine hK.out _ _ (⟨G2.out.bl 2 rfl, G2.out.bl 1 rfl⟩) (fun h2x => ?_)
          clear hK K
          try simp only [Act.put, lay_out]
          generalize y1.alloc (.cells #[.int .i64 0, .int .i64 0, .int .i64 0] 33) = y2 at *
          refine wpAnyH_ready (rs := [7, 8]) (by kernel_rfl) (by simp) (AllReadyH.cons rfl (fun K hK => ?_) (AllReadyH.cons rfl (fun K hK => ?_) AllReadyH.nil))
          · rw [if_pos (by rfl)]
            go_simp
            go_at_call 13
            (with_reducible refine (HEB.out _ _ G2.out).mono ?_); rintro e y3 ⟨rfl, hz⟩
            have G3 := hid hz
            clear hz
            refine hK.out _ _ (⟨G3.out.bl 2 rfl, G3.out.bl 1 rfl⟩) (fun h3x => ?_)
            clear hK K
            try simp only [Act.put, lay_out]
            refine wpAnyH_ready (rs := [8]) (by kernel_rfl) (by simp) (AllReadyH.cons rfl (fun K hK => ?_) AllReadyH.nil)
            rw [if_pos (by rfl)]
            go_simp
            have G4 := hid (G3.out.new hM #[.int .i64 0, .int .i64 0, .int .i64 0] 33)
            refine hK.out _ _ (⟨G4.out.bl 3 rfl, G4.out.bl 2 rfl⟩) (fun h4x => ?_)
            clear hK K
            try simp only [Act.put, lay_out]
            generalize y3.alloc (.cells #[.int .i64 0, .int .i64 0, .int .i64 0] 33) = y4 at *
            refine wpAnyH_ready (rs := [10]) (by kernel_rfl) (by simp) (AllReadyH.cons rfl (fun K hK => ?_) AllReadyH.nil)
            rw [if_pos (by rfl)]
            refine wp_store_row 33 _ _ rfl (y3.heap.size) (wdV R) rfl rfl 33 _ (G4.out.bl 0 rfl) (by kernel_rfl) rfl (by kernel_rfl) ?_
            have G5 := hid (G4.out.row hM (wdV R))
            refine hK.out _ _ (⟨G5.out.bl 3 rfl, G5.out.bl 2 rfl⟩) (fun h5x => ?_)
            clear hK K
            try simp only [Act.put, lay_out]
            have G6 := hid G5.out.swap
            refine wpAnyH_ready (rs := [11]) (by kernel_rfl) (by simp) (AllReadyH.cons rfl (fun K hK => ?_) AllReadyH.nil)
            rw [if_pos (by rfl)]
            refine wp_store_row 33 _ _ rfl (y1.heap.size) (wdV R) rfl rfl 33 _ (G6.out.bl 0 rfl) (by kernel_rfl) rfl (by kernel_rfl) ?_
            have G7 := hid (G6.out.row hM (wdV R))
            refine hK.out _ _ (⟨G7.out.bl 3 rfl, G7.out.bl 2 rfl⟩) (fun h6x => ?_)
            clear hK K
            try simp only [Act.put, lay_out]
            refine wpAnyH_done (by kernel_rfl) ?_ _
            refine NoPanic.normal ?_
            clear h0 h1x h2x h3x h4x h5x h6x
            try simp only [Act.put, lay_out]
            go_wp2_with fail
            go_meet
            exact ⟨_, _, rfl, rfl, G7.out⟩
          · rw [if_pos (by rfl)]
            go_simp
            have G3 := hid (G2.out.new hM #[.int .i64 0, .int .i64 0, .int .i64 0] 33)
            refine hK.out _ _ (⟨G3.out.bl 3 rfl, G3.out.bl 2 rfl⟩) (fun h3x => ?_)
            clear hK K
            try simp only [Act.put, lay_out]
            generalize y2.alloc (.cells #[.int .i64 0, .int .i64 0, .int .i64 0] 33) = y3 at *
            refine wpAnyH_ready (rs := [7]) (by kernel_rfl) (by simp) (AllReadyH.cons rfl (fun K hK => ?_) AllReadyH.nil)
            rw [if_pos (by rfl)]
            go_simp
            go_at_call 13
            (with_reducible refine (HEB.out _ _ G3.out).mono ?_); rintro e y4 ⟨rfl, hz⟩
            have G4 := hid hz
            clear hz
            refine hK.out _ _ (⟨G4.out.bl 3 rfl, G4.out.bl 2 rfl⟩) (fun h4x => ?_)
            clear hK K
            try simp only [Act.put, lay_out]
            refine wpAnyH_ready (rs := [10]) (by kernel_rfl) (by simp) (AllReadyH.cons rfl (fun K hK => ?_) AllReadyH.nil)
            rw [if_pos (by rfl)]
            refine wp_store_row 33 _ _ rfl (y2.heap.size) (wdV R) rfl rfl 33 _ (G4.out.bl 0 rfl) (by kernel_rfl) rfl (by kernel_rfl) ?_
            have G5 := hid (G4.out.row hM (wdV R))
            refine hK.out _ _ (⟨G5.out.bl 3 rfl, G5.out.bl 2 rfl⟩) (fun h5x => ?_)
            clear hK K
            try simp only [Act.put, lay_out]
            have G6 := hid G5.out.swap
            refine wpAnyH_ready (rs := [11]) (by kernel_rfl) (by simp) (AllReadyH.cons rfl (fun K hK => ?_) AllReadyH.nil)
            rw [if_pos (by rfl)]
            refine wp_store_row 33 _ _ rfl (y1.heap.size) (wdV R) rfl rfl 33 _ (G6.out.bl 0 rfl) (by kernel_rfl) rfl (by kernel_rfl) ?_
            have G7 := hid (G6.out.row hM (wdV R))
            refine hK.out _ _ (⟨G7.out.bl 3 rfl, G7.out.bl 2 rfl⟩) (fun h6x => ?_)
            clear hK K
            try simp only [Act.put, lay_out]
            refine wpAnyH_done (by kernel_rfl) ?_ _
            refine NoPanic.normal ?_
            clear h0 h1x h2x h3x h4x h5x h6x
            try simp only [Act.put, lay_out]
            go_wp2_with fail
            go_meet
            exact ⟨_, _, rfl, rfl, G7.out⟩
      · rw [if_pos (by rfl)]
        go_simp
        have G1 := hid (G0.out.new hM #[.int .i64 0, .int .i64 0, .int .i64 0] 33)
        refine hK.out _ _ (⟨G1.out.bl 2 rfl, G1.out.bl 1 rfl⟩) (fun h1x => ?_)
        clear hK K
        try simp only [Act.put, lay_out]
        generalize y0.alloc (.cells #[.int .i64 0, .int .i64 0, .int .i64 0] 33) = y1 at *
        refine wpAnyH_ready (rs := [3, 9]) (by kernel_rfl) (by simp) (AllReadyH.cons rfl (fun K hK => ?_) (AllReadyH.cons rfl (fun K hK => ?_) AllReadyH.nil))
        · rw [if_pos (by rfl)]
          go_simp
          go_at_call 13
          (with_reducible refine (HEA.out _ _ G1.out).mono ?_); rintro e y2 ⟨rfl, hz⟩
          have G2 := hid hz
          clear hz
          refine hK.out _ _ (⟨G2.out.bl 2 rfl, G2.out.bl 1 rfl⟩) (fun h2x => ?_)
          clear hK K
          try simp only [Act.put, lay_out]
          refine wpAnyH_ready (rs := [7, 9]) (by kernel_rfl) (by simp) (AllReadyH.cons rfl (fun K hK => ?_) (AllReadyH.cons rfl (fun K hK => ?_) AllReadyH.nil))
          · rw [if_pos (by rfl)]
            go_simp
            go_at_call 13
            (with_reducible refine (HEB.out _ _ G2.out).mono ?_); rintro e y3 ⟨rfl, hz⟩
            have G3 := hid hz
            clear hz
            refine hK.out _ _ (⟨G3.out.bl 2 rfl, G3.out.bl 1 rfl⟩) (fun h3x => ?_)
            clear hK K
            try simp only [Act.put, lay_out]
            refine wpAnyH_ready (rs := [9]) (by kernel_rfl) (by simp) (AllReadyH.cons rfl (fun K hK => ?_) AllReadyH.nil)
            rw [if_pos (by rfl)]
            go_simp
            have G4 := hid (G3.out.new hM #[.int .i64 0, .int .i64 0, .int .i64 0] 33)
            refine hK.out _ _ (⟨G4.out.bl 3 rfl, G4.out.bl 2 rfl⟩) (fun h4x => ?_)
            clear hK K
            try simp only [Act.put, lay_out]
            generalize y3.alloc (.cells #[.int .i64 0, .int .i64 0, .int .i64 0] 33) = y4 at *
            have G5 := hid G4.out.swap
            refine wpAnyH_ready (rs := [10]) (by kernel_rfl) (by simp) (AllReadyH.cons rfl (fun K hK => ?_) AllReadyH.nil)
            rw [if_pos (by rfl)]
            refine wp_store_row 33 _ _ rfl (y0.heap.size) (wdV R) rfl rfl 33 _ (G5.out.bl 0 rfl) (by kernel_rfl) rfl (by kernel_rfl) ?_
            have G6 := hid (G5.out.row hM (wdV R))
            refine hK.out _ _ (⟨G6.out.bl 3 rfl, G6.out.bl 2 rfl⟩) (fun h5x => ?_)
            clear hK K
            try simp only [Act.put, lay_out]
            have G7 := hid G6.out.swap
            refine wpAnyH_ready (rs := [11]) (by kernel_rfl) (by simp) (AllReadyH.cons rfl (fun K hK => ?_) AllReadyH.nil)
            rw [if_pos (by rfl)]
            refine wp_store_row 33 _ _ rfl (y3.heap.size) (wdV R) rfl rfl 33 _ (G7.out.bl 0 rfl) (by kernel_rfl) rfl (by kernel_rfl) ?_
            have G8 := hid (G7.out.row hM (wdV R))
            refine hK.out _ _ (⟨G8.out.bl 3 rfl, G8.out.bl 2 rfl⟩) (fun h6x => ?_)
            clear hK K
            try simp only [Act.put, lay_out]
            refine wpAnyH_done (by kernel_rfl) ?_ _
            refine NoPanic.normal ?_
            clear h0 h1x h2x h3x h4x h5x h6x
            try simp only [Act.put, lay_out]
            go_wp2_with fail
            go_meet
            exact ⟨_, _, rfl, rfl, G8.out⟩
          · rw [if_pos (by rfl)]
            go_simp
            have G3 := hid (G2.out.new hM #[.int .i64 0, .int .i64 0, .int .i64 0] 33)
            refine hK.out _ _ (⟨G3.out.bl 3 rfl, G3.out.bl 2 rfl⟩) (fun h3x => ?_)
            clear hK K
            try simp only [Act.put, lay_out]
            generalize y2.alloc (.cells #[.int .i64 0, .int .i64 0, .int .i64 0] 33) = y3 at *
            refine wpAnyH_ready (rs := [7]) (by kernel_rfl) (by simp) (AllReadyH.cons rfl (fun K hK => ?_) AllReadyH.nil)
            rw [if_pos (by rfl)]
            go_simp
            go_at_call 13
            (with_reducible refine (HEB.out _ _ G3.out).mono ?_); rintro e y4 ⟨rfl, hz⟩
            have G4 := hid hz
            clear hz
            refine hK.out _ _ (⟨G4.out.bl 3 rfl, G4.out.bl 2 rfl⟩) (fun h4x => ?_)
            clear hK K
            try simp only [Act.put, lay_out]
            have G5 := hid G4.out.swap
            refine wpAnyH_ready (rs := [10]) (by kernel_rfl) (by simp) (AllReadyH.cons rfl (fun K hK => ?_) AllReadyH.nil)
            rw [if_pos (by rfl)]
            refine wp_store_row 33 _ _ rfl (y0.heap.size) (wdV R) rfl rfl 33 _ (G5.out.bl 0 rfl) (by kernel_rfl) rfl (by kernel_rfl) ?_
            have G6 := hid (G5.out.row hM (wdV R))
            refine hK.out _ _ (⟨G6.out.bl 3 rfl, G6.out.bl 2 rfl⟩) (fun h5x => ?_)
            clear hK K
            try simp only [Act.put, lay_out]
            have G7 := hid G6.out.swap
            refine wpAnyH_ready (rs := [11]) (by kernel_rfl) (by simp) (AllReadyH.cons rfl (fun K hK => ?_) AllReadyH.nil)
            rw [if_pos (by rfl)]
            refine wp_store_row 33 _ _ rfl (y2.heap.size) (wdV R) rfl rfl 33 _ (G7.out.bl 0 rfl) (by kernel_rfl) rfl (by kernel_rfl) ?_
            have G8 := hid (G7.out.row hM (wdV R))
            refine hK.out _ _ (⟨G8.out.bl 3 rfl, G8.out.bl 2 rfl⟩) (fun h6x => ?_)
            clear hK K
            try simp only [Act.put, lay_out]
            refine wpAnyH_done (by kernel_rfl) ?_ _
            refine NoPanic.normal ?_
            clear h0 h1x h2x h3x h4x h5x h6x
            try simp only [Act.put, lay_out]
            go_wp2_with fail
            go_meet
            exact ⟨_, _, rfl, rfl, G8.out⟩
        · rw [if_pos (by rfl)]
          go_simp
          have G2 := hid (G1.out.new hM #[.int .i64 0, .int .i64 0, .int .i64 0] 33)
          refine hK.out _ _ (⟨G2.out.bl 3 rfl, G2.out.bl 2 rfl⟩) (fun h2x => ?_)
          clear hK K
          try simp only [Act.put, lay_out]
          generalize y1.alloc (.cells #[.int .i64 0, .int .i64 0, .int .i64 0] 33) = y2 at *
          refine wpAnyH_ready (rs := [3]) (by kernel_rfl) (by simp) (AllReadyH.cons rfl (fun K hK => ?_) AllReadyH.nil)
          rw [if_pos (by rfl)]
          go_simp
          go_at_call 13
          (with_reducible refine (HEA.out _ _ G2.out).mono ?_); rintro e y3 ⟨rfl, hz⟩
          have G3 := hid hz
          clear hz
          refine hK.out _ _ (⟨G3.out.bl 3 rfl, G3.out.bl 2 rfl⟩) (fun h3x => ?_)
          clear hK K
          try simp only [Act.put, lay_out]
          refine wpAnyH_ready (rs := [7]) (by kernel_rfl) (by simp) (AllReadyH.cons rfl (fun K hK => ?_) AllReadyH.nil)
          rw [if_pos (by rfl)]
          go_simp
          go_at_call 13
          (with_reducible refine (HEB.out _ _ G3.out).mono ?_); rintro e y4 ⟨rfl, hz⟩
          have G4 := hid hz
          clear hz
          refine hK.out _ _ (⟨G4.out.bl 3 rfl, G4.out.bl 2 rfl⟩) (fun h4x => ?_)
          clear hK K
          try simp only [Act.put, lay_out]
          have G5 := hid G4.out.swap
          refine wpAnyH_ready (rs := [10]) (by kernel_rfl) (by simp) (AllReadyH.cons rfl (fun K hK => ?_) AllReadyH.nil)
          rw [if_pos (by rfl)]
          refine wp_store_row 33 _ _ rfl (y0.heap.size) (wdV R) rfl rfl 33 _ (G5.out.bl 0 rfl) (by kernel_rfl) rfl (by kernel_rfl) ?_
          have G6 := hid (G5.out.row hM (wdV R))
          refine hK.out _ _ (⟨G6.out.bl 3 rfl, G6.out.bl 2 rfl⟩) (fun h5x => ?_)
          clear hK K
          try simp only [Act.put, lay_out]
          have G7 := hid G6.out.swap
          refine wpAnyH_ready (rs := [11]) (by kernel_rfl) (by simp) (AllReadyH.cons rfl (fun K hK => ?_) AllReadyH.nil)
          rw [if_pos (by rfl)]
          refine wp_store_row 33 _ _ rfl (y1.heap.size) (wdV R) rfl rfl 33 _ (G7.out.bl 0 rfl) (by kernel_rfl) rfl (by kernel_rfl) ?_
          have G8 := hid (G7.out.row hM (wdV R))
          refine hK.out _ _ (⟨G8.out.bl 3 rfl, G8.out.bl 2 rfl⟩) (fun h6x => ?_)
          clear hK K
          try simp only [Act.put, lay_out]
          refine wpAnyH_done (by kernel_rfl) ?_ _
          refine NoPanic.normal ?_
          clear h0 h1x h2x h3x h4x h5x h6x
          try simp only [Act.put, lay_out]
          go_wp2_with fail
          go_meet
          exact ⟨_, _, rfl, rfl, G8.out⟩
      · rw [if_pos (by rfl)]
        go_simp
        have G1 := hid (G0.out.new hM #[.int .i64 0, .int .i64 0, .int .i64 0] 33)
        refine hK.out _ _ (⟨G1.out.bl 2 rfl, G1.out.bl 1 rfl⟩) (fun h1x => ?_)
        clear hK K
        try simp only [Act.put, lay_out]
        generalize y0.alloc (.cells #[.int .i64 0, .int .i64 0, .int .i64 0] 33) = y1 at *
        refine wpAnyH_ready (rs := [3, 8]) (by kernel_rfl) (by simp) (AllReadyH.cons rfl (fun K hK => ?_) (AllReadyH.cons rfl (fun K hK => ?_) AllReadyH.nil))
        · rw [if_pos (by rfl)]
          go_simp
          go_at_call 13
          (with_reducible refine (HEA.out _ _ G1.out).mono ?_); rintro e y2 ⟨rfl, hz⟩
          have G2 := hid hz
          clear hz
          refine hK.out _ _ (⟨G2.out.bl 2 rfl, G2.out.bl 1 rfl⟩) (fun h2x => ?_)
          clear hK K
          try simp only [Act.put, lay_out]
          refine wpAnyH_ready (rs := [7, 8]) (by kernel_rfl) (by simp) (AllReadyH.cons rfl (fun K hK => ?_) (AllReadyH.cons rfl (fun K hK => ?_) AllReadyH.nil))
          · rw [if_pos (by rfl)]
            go_simp
            go_at_call 13
            (with_reducible refine (HEB.out _ _ G2.out).mono ?_); rintro e y3 ⟨rfl, hz⟩
            have G3 := hid hz
            clear hz
            refine hK.out _ _ (⟨G3.out.bl 2 rfl, G3.out.bl 1 rfl⟩) (fun h3x => ?_)
            clear hK K
            try simp only [Act.put, lay_out]
            refine wpAnyH_ready (rs := [8]) (by kernel_rfl) (by simp) (AllReadyH.cons rfl (fun K hK => ?_) AllReadyH.nil)
            rw [if_pos (by rfl)]
            go_simp
            have G4 := hid (G3.out.new hM #[.int .i64 0, .int .i64 0, .int .i64 0] 33)
            refine hK.out _ _ (⟨G4.out.bl 3 rfl, G4.out.bl 2 rfl⟩) (fun h4x => ?_)
            clear hK K
            try simp only [Act.put, lay_out]
            generalize y3.alloc (.cells #[.int .i64 0, .int .i64 0, .int .i64 0] 33) = y4 at *
            refine wpAnyH_ready (rs := [10]) (by kernel_rfl) (by simp) (AllReadyH.cons rfl (fun K hK => ?_) AllReadyH.nil)
            rw [if_pos (by rfl)]
            refine wp_store_row 33 _ _ rfl (y3.heap.size) (wdV R) rfl rfl 33 _ (G4.out.bl 0 rfl) (by kernel_rfl) rfl (by kernel_rfl) ?_
            have G5 := hid (G4.out.row hM (wdV R))
            refine hK.out _ _ (⟨G5.out.bl 3 rfl, G5.out.bl 2 rfl⟩) (fun h5x => ?_)
            clear hK K
            try simp only [Act.put, lay_out]
            have G6 := hid G5.out.swap
            refine wpAnyH_ready (rs := [11]) (by kernel_rfl) (by simp) (AllReadyH.cons rfl (fun K hK => ?_) AllReadyH.nil)
            rw [if_pos (by rfl)]
            refine wp_store_row 33 _ _ rfl (y0.heap.size) (wdV R) rfl rfl 33 _ (G6.out.bl 0 rfl) (by kernel_rfl) rfl (by kernel_rfl) ?_
            have G7 := hid (G6.out.row hM (wdV R))
            refine hK.out _ _ (⟨G7.out.bl 3 rfl, G7.out.bl 2 rfl⟩) (fun h6x => ?_)
            clear hK K
            try simp only [Act.put, lay_out]
            refine wpAnyH_done (by kernel_rfl) ?_ _
            refine NoPanic.normal ?_
            clear h0 h1x h2x h3x h4x h5x h6x
            try simp only [Act.put, lay_out]
            go_wp2_with fail
            go_meet
            exact ⟨_, _, rfl, rfl, G7.out⟩
          · rw [if_pos (by rfl)]
            go_simp
            have G3 := hid (G2.out.new hM #[.int .i64 0, .int .i64 0, .int .i64 0] 33)
            refine hK.out _ _ (⟨G3.out.bl 3 rfl, G3.out.bl 2 rfl⟩) (fun h3x => ?_)
            clear hK K
            try simp only [Act.put, lay_out]
            generalize y2.alloc (.cells #[.int .i64 0, .int .i64 0, .int .i64 0] 33) = y3 at *
            refine wpAnyH_ready (rs := [7]) (by kernel_rfl) (by simp) (AllReadyH.cons rfl (fun K hK => ?_) AllReadyH.nil)
            rw [if_pos (by rfl)]
            go_simp
            go_at_call 13
            (with_reducible refine (HEB.out _ _ G3.out).mono ?_); rintro e y4 ⟨rfl, hz⟩
            have G4 := hid hz
            clear hz
            refine hK.out _ _ (⟨G4.out.bl 3 rfl, G4.out.bl 2 rfl⟩) (fun h4x => ?_)
            clear hK K
            try simp only [Act.put, lay_out]
            refine wpAnyH_ready (rs := [10]) (by kernel_rfl) (by simp) (AllReadyH.cons rfl (fun K hK => ?_) AllReadyH.nil)
            rw [if_pos (by rfl)]
            refine wp_store_row 33 _ _ rfl (y2.heap.size) (wdV R) rfl rfl 33 _ (G4.out.bl 0 rfl) (by kernel_rfl) rfl (by kernel_rfl) ?_
            have G5 := hid (G4.out.row hM (wdV R))
            refine hK.out _ _ (⟨G5.out.bl 3 rfl, G5.out.bl 2 rfl⟩) (fun h5x => ?_)
            clear hK K
            try simp only [Act.put, lay_out]
            have G6 := hid G5.out.swap
            refine wpAnyH_ready (rs := [11]) (by kernel_rfl) (by simp) (AllReadyH.cons rfl (fun K hK => ?_) AllReadyH.nil)
            rw [if_pos (by rfl)]
            refine wp_store_row 33 _ _ rfl (y0.heap.size) (wdV R) rfl rfl 33 _ (G6.out.bl 0 rfl) (by kernel_rfl) rfl (by kernel_rfl) ?_
            have G7 := hid (G6.out.row hM (wdV R))
            refine hK.out _ _ (⟨G7.out.bl 3 rfl, G7.out.bl 2 rfl⟩) (fun h6x => ?_)
            clear hK K
            try simp only [Act.put, lay_out]
            refine wpAnyH_done (by kernel_rfl) ?_ _
            refine NoPanic.normal ?_
            clear h0 h1x h2x h3x h4x h5x h6x
            try simp only [Act.put, lay_out]
            go_wp2_with fail
            go_meet
            exact ⟨_, _, rfl, rfl, G7.out⟩
        · rw [if_pos (by rfl)]
          go_simp
          have G2 := hid (G1.out.new hM #[.int .i64 0, .int .i64 0, .int .i64 0] 33)
          refine hK.out _ _ (⟨G2.out.bl 3 rfl, G2.out.bl 2 rfl⟩) (fun h2x => ?_)
          clear hK K
          try simp only [Act.put, lay_out]
          generalize y1.alloc (.cells #[.int .i64 0, .int .i64 0, .int .i64 0] 33) = y2 at *
          refine wpAnyH_ready (rs := [3]) (by kernel_rfl) (by simp) (AllReadyH.cons rfl (fun K hK => ?_) AllReadyH.nil)
          rw [if_pos (by rfl)]
          go_simp
          go_at_call 13
          (with_reducible refine (HEA.out _ _ G2.out).mono ?_); rintro e y3 ⟨rfl, hz⟩
          have G3 := hid hz
          clear hz
          refine hK.out _ _ (⟨G3.out.bl 3 rfl, G3.out.bl 2 rfl⟩) (fun h3x => ?_)
          clear hK K
          try simp only [Act.put, lay_out]
          refine wpAnyH_ready (rs := [7]) (by kernel_rfl) (by simp) (AllReadyH.cons rfl (fun K hK => ?_) AllReadyH.nil)
          rw [if_pos (by rfl)]
          go_simp
          go_at_call 13
          (with_reducible refine (HEB.out _ _ G3.out).mono ?_); rintro e y4 ⟨rfl, hz⟩
          have G4 := hid hz
          clear hz
          refine hK.out _ _ (⟨G4.out.bl 3 rfl, G4.out.bl 2 rfl⟩) (fun h4x => ?_)
          clear hK K
          try simp only [Act.put, lay_out]
          refine wpAnyH_ready (rs := [10]) (by kernel_rfl) (by simp) (AllReadyH.cons rfl (fun K hK => ?_) AllReadyH.nil)
          rw [if_pos (by rfl)]
          refine wp_store_row 33 _ _ rfl (y1.heap.size) (wdV R) rfl rfl 33 _ (G4.out.bl 0 rfl) (by kernel_rfl) rfl (by kernel_rfl) ?_
          have G5 := hid (G4.out.row hM (wdV R))
          refine hK.out _ _ (⟨G5.out.bl 3 rfl, G5.out.bl 2 rfl⟩) (fun h5x => ?_)
          clear hK K
          try simp only [Act.put, lay_out]
          have G6 := hid G5.out.swap
          refine wpAnyH_ready (rs := [11]) (by kernel_rfl) (by simp) (AllReadyH.cons rfl (fun K hK => ?_) AllReadyH.nil)
          rw [if_pos (by rfl)]
          refine wp_store_row 33 _ _ rfl (y0.heap.size) (wdV R) rfl rfl 33 _ (G6.out.bl 0 rfl) (by kernel_rfl) rfl (by kernel_rfl) ?_
          have G7 := hid (G6.out.row hM (wdV R))
          refine hK.out _ _ (⟨G7.out.bl 3 rfl, G7.out.bl 2 rfl⟩) (fun h6x => ?_)
          clear hK K
          try simp only [Act.put, lay_out]
          refine wpAnyH_done (by kernel_rfl) ?_ _
          refine NoPanic.normal ?_
          clear h0 h1x h2x h3x h4x h5x h6x
          try simp only [Act.put, lay_out]
          go_wp2_with fail
          go_meet
          exact ⟨_, _, rfl, rfl, G7.out⟩
    case rest =>
      obtain ⟨b16, b17, rfl, rfl, hH⟩ := hcut
      have H0 := hid hH
      clear hH H6 HEA HEB
      have HKA : Hid (∀ (v : Value) (w : World), Rd .u64 w v (wdL (encS S0 x).v ((encS S0 x).keep (encS S0 x).L)) → Rd .u64 w v (wdL (encS S0 x).v nn)) := hid (fun v w h => by
        have e : (encS S0 x).keep (encS S0 x).L = nn := by unfold Ms.keep; rw [HHA.out.2.2.1]; exact HHA.out.2.1
        rw [e] at h; exact h)
      have HKB : Hid (∀ (v : Value) (w : World), Rd .u64 w v (wdL (encS S0 y).v ((encS S0 y).keep (encS S0 y).L)) → Rd .u64 w v (wdL (encS S0 y).v nn)) := hid (fun v w h => by
        have e : (encS S0 y).keep (encS S0 y).L = nn := by unfold Ms.keep; rw [HHB.out.2.2.1]; exact HHB.out.2.1
        rw [e] at h; exact h)
      have HLA := hid (fun (w : World) (bs : List (Nat × Obj)) (h : Hw Pm W.heap.size W w pa pb (encS S0 x) (encS S0 y) bs) => hvalA hM h HQA.out (by decide))
      have HLB := hid (fun (w : World) (bs : List (Nat × Obj)) (h : Hw Pm W.heap.size W w pa pb (encS S0 x) (encS S0 y) bs) => hvalB hM h HQB.out (by decide))
      have HWA : Hid (∀ (v : Value) (w : World), Rd .u64 w v (wdL (encS S0 x).v nn) → Calls Try.prog 10 #[v, .agg (wdV R)] w fun e w' => e = .returned (.int .u64 (x : Int)) ∧ Below w.heap.size w w') := hid (fun v w h => by
        have := hS.value v (encS S0 x).v nn R w h (fun i hi => HQA.out.v i (by rw [HHA.out.2.1]; exact hi))
        have e := HVA.out.1
        rw [HHA.out.2.1] at e
        rw [e] at this; exact this)
      have HWB : Hid (∀ (v : Value) (w : World), Rd .u64 w v (wdL (encS S0 y).v nn) → Calls Try.prog 10 #[v, .agg (wdV R)] w fun e w' => e = .returned (.int .u64 (y : Int)) ∧ Below w.heap.size w w') := hid (fun v w h => by
        have := hS.value v (encS S0 y).v nn R w h (fun i hi => HQB.out.v i (by rw [HHB.out.2.1]; exact hi))
        have e := HVB.out.1
        rw [HHB.out.2.1] at e
        rw [e] at this; exact this)
      go_upto_region 9 with fail
      obtain ⟨wd, hwd⟩ : ∃ wd, wc = wd := ⟨_, rfl⟩
      subst hwd
      have H1 := hid (H0.out.self hM ((Below.refl _ wc).drew))
      refine wp_region_noPanic ?_
      refine wp_region_held_drew (S := fun w' => w'.heap[b12]? = some (.cells (paC pa ba (.slice none 0 0) (.slice none 0 0)) 28 (0, 0)) ∧ w'.heap[b14]? = some (.cells (paC pb bb (.slice none 0 0) (.slice none 0 0)) 28 (0, 0))) (by kernel_rfl) (⟨H1.out.bl 3 rfl, H1.out.bl 2 rfl⟩) (fun h0 => ?_)
      generalize wc.drew = y1 at *
      refine wpAnyH_take (i := 0) (v := .pointer (some ⟨b12, 0, none⟩)) rfl (by kernel_rfl) (by kernel_rfl) (by kernel_rfl) (fun _ _ _ h => h) (.inl ⟨by rfl, fun w hw => by clear hw; go_simp⟩) h0 ?_
      try simp only [Act.put, lay_out]
      refine wpAnyH_take (i := 1) (v := .pointer (some ⟨pa, 0, none⟩)) rfl (by kernel_rfl) (by kernel_rfl) (by kernel_rfl) (fun _ _ _ h => h) (.inl ⟨by rfl, fun w' hw => by have hc := row_c (i := 0) (u := .pointer (some ⟨pa, 0, none⟩)) hw.1 rfl; clear hw; go_simp⟩) h0 ?_
      try simp only [Act.put, lay_out]
      refine wpAnyH_take (i := 3) (v := .pointer (some ⟨b14, 0, none⟩)) rfl (by kernel_rfl) (by kernel_rfl) (by kernel_rfl) (fun _ _ _ h => h) (.inl ⟨by rfl, fun w hw => by clear hw; go_simp⟩) h0 ?_
      try simp only [Act.put, lay_out]
      refine wpAnyH_take (i := 4) (v := .pointer (some ⟨pb, 0, none⟩)) rfl (by kernel_rfl) (by kernel_rfl) (by kernel_rfl) (fun _ _ _ h => h) (.inl ⟨by rfl, fun w' hw => by have hc := row_c (i := 0) (u := .pointer (some ⟨pb, 0, none⟩)) hw.2 rfl; clear hw; go_simp⟩) h0 ?_
      try simp only [Act.put, lay_out]
      refine wpAnyH_ready (rs := [2]) (by kernel_rfl) (by simp) (AllReadyH.cons rfl (fun K hK => ?_) AllReadyH.nil)
      rw [if_pos (by rfl)]
      go_simp
      go_at_call 11
      (with_reducible refine (HLA.out _ _ H1.out).mono ?_); rintro e w7 ⟨vA, rfl, hv, hb⟩
      have H2 := hid (H1.out.self hM hb)
      have VA0 := hid (HKA.out _ _ hv)
      clear hv hb
      refine hK.out _ _ (⟨H2.out.bl 3 rfl, H2.out.bl 2 rfl⟩) (fun h1x => ?_)
      clear hK K
      try simp only [Act.put, lay_out]
      refine wpAnyH_ready (rs := [5]) (by kernel_rfl) (by simp) (AllReadyH.cons rfl (fun K hK => ?_) AllReadyH.nil)
      rw [if_pos (by rfl)]
      go_simp
      go_at_call 11
      (with_reducible refine (HLB.out _ _ H2.out).mono ?_); rintro e w8 ⟨vB, rfl, hv, hb⟩
      have H3 := hid (H2.out.self hM hb)
      have VA := hid (VA0.out.self hb)
      have VB := hid (HKB.out _ _ hv)
      clear hv hb
      refine hK.out _ _ (⟨H3.out.bl 3 rfl, H3.out.bl 2 rfl⟩) (fun h2x => ?_)
      clear hK K
      try simp only [Act.put, lay_out]
      refine wpAnyH_take (i := 6) (v := vA) rfl (by kernel_rfl) (by kernel_rfl) (by kernel_rfl) (fun _ _ _ h => h) (.inl ⟨by rfl, fun w hw => by clear hw; go_simp⟩) h2x ?_
      try simp only [Act.put, lay_out]
      refine wpAnyH_take (i := 7) (v := vB) rfl (by kernel_rfl) (by kernel_rfl) (by kernel_rfl) (fun _ _ _ h => h) (.inl ⟨by rfl, fun w hw => by clear hw; go_simp⟩) h2x ?_
      try simp only [Act.put, lay_out]
      refine wpAnyH_done (by kernel_rfl) ?_ _
      refine NoPanic.normal ?_
      clear h0 h1x h2x
      try simp only [Act.put, lay_out]
      obtain ⟨va, vc, rfl, hca⟩ := (rd_wr VA.out).at_
      obtain ⟨ua, uc, rfl, hcb⟩ := (rd_wr VB.out).at_
      have HCA := hid hca
      have HCB := hid hcb
      clear hca hcb
      have r0 := row_c (i := 0) (u := .int .i64 (R 0)) (H3.out.bl 1 rfl) rfl
      have r1 := row_c (i := 1) (u := .int .i64 (R 1)) (H3.out.bl 1 rfl) rfl
      have r2 := row_c (i := 2) (u := .int .i64 (R 2)) (H3.out.bl 1 rfl) rfl
      have s0 := row_c (i := 0) (u := .int .i64 (R 0)) (H3.out.bl 0 rfl) rfl
      have s1 := row_c (i := 1) (u := .int .i64 (R 1)) (H3.out.bl 0 rfl) rfl
      have s2 := row_c (i := 2) (u := .int .i64 (R 2)) (H3.out.bl 0 rfl) rfl
      obtain ⟨gA, oA, rfl, hgA, hcA⟩ := HCA.out (by have := HN23.out; omega)
      obtain ⟨gB, oB, rfl, hgB, hcB⟩ := HCB.out (by have := HN23.out; omega)
      have CA8 := hid hcA
      have CB8 := hid hcB
      have GA8 := hid hgA
      have GB8 := hid hgB
      clear hcA hcB hgA hgB
      go_wp2_with (first
        | (refine wpList_neWd rfl (.tmp 59) (.tmp 60) rfl R rfl rfl ?_)
        | (go_at_call 10; (with_reducible refine (HWA.out _ _ VA.out).mono ?_); rintro e w9 ⟨rfl, hb⟩; have H4 := hid (H3.out.self hM hb); have VB9 := hid (VB.out.self hb); have B9 := hid hb; have r90 := row_c (i := 0) (u := .int .i64 (R 0)) (H4.out.bl 1 rfl) rfl; have r91 := row_c (i := 1) (u := .int .i64 (R 1)) (H4.out.bl 1 rfl) rfl; have r92 := row_c (i := 2) (u := .int .i64 (R 2)) (H4.out.bl 1 rfl) rfl; have s90 := row_c (i := 0) (u := .int .i64 (R 0)) (H4.out.bl 0 rfl) rfl; have s91 := row_c (i := 1) (u := .int .i64 (R 1)) (H4.out.bl 0 rfl) rfl; have s92 := row_c (i := 2) (u := .int .i64 (R 2)) (H4.out.bl 0 rfl) rfl; clear hb r0 r1 r2 s0 s1 s2)
        | (go_at_call 10; (with_reducible refine (HWB.out _ _ VB9.out).mono ?_); rintro e w10 ⟨rfl, hb⟩; have H5 := hid (H4.out.self hM hb); have B10 := hid (B9.out.trans (hb.mono B9.out.size)); clear hb r90 r91 r92 s90 s91 s92))
      have U0 : Hid (unl nn x y 0 = 0) := hid (if_pos (by have := HN23.out; omega))
      go_loopw [20, 21] (fun un iv wr => ∃ j : Nat, j ≤ nn ∧ un = .int .i64 (unl nn x y j : Nat) ∧ iv = .int .i64 j ∧ Below w10.heap.size w10 wr) (fun _ iv _ => nn - (intOf iv).toNat)
      case atStart => exact ⟨0, by omega, by rw [U0.out]; rfl, rfl, Below.refl _ _⟩
      case round =>
        clear U0
        obtain ⟨j, hj, rfl, rfl, hI⟩ := hrel
        have HI := hid hI
        clear hI
        have HBT := hid (B10.out.trans (HI.out.mono B10.out.size))
        have hn3 := HN3.out
        by_cases hlt : j < nn
        · have j1 : (j : Int) < (nn : Int) := by omega
          have j0 : (0 : Int) ≤ (j : Int) := by omega
          have HCJA : Hid (∀ w', Below w8.heap.size w8 w' → w'.cell? ⟨gA, oA + j, none⟩ = some (.int .u64 ((encS S0 x).v j : Int))) := hid (fun w' hb => tcell_self (CA8.out j hlt) hb)
          have HCJB : Hid (∀ w', Below w8.heap.size w8 w' → w'.cell? ⟨gB, oB + j, none⟩ = some (.int .u64 ((encS S0 y).v j : Int))) := hid (fun w' hb => tcell_self (CB8.out j hlt) hb)
          have hst := HSU.out j hlt
          have hul : unl nn x y j = 0 := if_pos hlt
          have hw1 : IntKind.i64.wrap ((unl nn x y j : Nat) + 1 : Int) = ((unl nn x y j + 1 : Nat) : Int) := by rw [hul]; rfl
          generalize (encS S0 x).v j = zA at *
          generalize (encS S0 y).v j = zB at *
          generalize unl nn x y j = uj at *
          clear hul
          go_upto_region 16 with fail
          have B0 := hid (HBT.out.drew)
          have HD := hid (HI.out.drew)
          refine wp_region_noPanic ?_
          refine wp_region_held_drew (S := fun w' => w'.cell? ⟨gA, oA + j, none⟩ = some (.int .u64 (zA : Int)) ∧ w'.cell? ⟨gB, oB + j, none⟩ = some (.int .u64 (zB : Int))) (by kernel_rfl) (⟨HCJA.out _ B0.out, HCJB.out _ B0.out⟩) (fun h0 => ?_)
          generalize wr.drew = y2 at *
          refine wpAnyH_take (i := 0) (v := .slice (some ⟨gA, oA, none⟩) nn vc) rfl (by kernel_rfl) (by kernel_rfl) (by kernel_rfl) (fun _ _ _ h => h) (.inl ⟨by rfl, fun w hw => by clear hw; go_simp⟩) h0 ?_
          try simp only [Act.put, lay_out]
          refine wpAnyH_take (i := 1) (v := .int .i64 (j : Int)) rfl (by kernel_rfl) (by kernel_rfl) (by kernel_rfl) (fun _ _ _ h => h) (.inl ⟨by rfl, fun w hw => by clear hw; go_simp⟩) h0 ?_
          try simp only [Act.put, lay_out]
          refine wpAnyH_take (i := 2) (v := .pointer (some ⟨gA, oA + j, none⟩)) rfl (by kernel_rfl) (by kernel_rfl) (by kernel_rfl) (fun _ _ _ h => h) (.inl ⟨by rfl, fun w hw => by clear hw; go_simp⟩) h0 ?_
          try simp only [Act.put, lay_out]
          refine wpAnyH_take (i := 3) (v := .int .u64 (zA : Int)) rfl (by kernel_rfl) (by kernel_rfl) (by kernel_rfl) (fun _ _ _ h => h) (.inl ⟨by rfl, fun w' hw => by have hc := hw.1; clear hw; go_simp⟩) h0 ?_
          try simp only [Act.put, lay_out]
          refine wpAnyH_take (i := 4) (v := .slice (some ⟨gB, oB, none⟩) nn uc) rfl (by kernel_rfl) (by kernel_rfl) (by kernel_rfl) (fun _ _ _ h => h) (.inl ⟨by rfl, fun w hw => by clear hw; go_simp⟩) h0 ?_
          try simp only [Act.put, lay_out]
          refine wpAnyH_take (i := 5) (v := .int .i64 (j : Int)) rfl (by kernel_rfl) (by kernel_rfl) (by kernel_rfl) (fun _ _ _ h => h) (.inl ⟨by rfl, fun w hw => by clear hw; go_simp⟩) h0 ?_
          try simp only [Act.put, lay_out]
          refine wpAnyH_take (i := 6) (v := .pointer (some ⟨gB, oB + j, none⟩)) rfl (by kernel_rfl) (by kernel_rfl) (by kernel_rfl) (fun _ _ _ h => h) (.inl ⟨by rfl, fun w hw => by clear hw; go_simp⟩) h0 ?_
          try simp only [Act.put, lay_out]
          refine wpAnyH_take (i := 7) (v := .int .u64 (zB : Int)) rfl (by kernel_rfl) (by kernel_rfl) (by kernel_rfl) (fun _ _ _ h => h) (.inl ⟨by rfl, fun w' hw => by have hc := hw.2; clear hw; go_simp⟩) h0 ?_
          try simp only [Act.put, lay_out]
          refine wpAnyH_take (i := 8) (v := .bool ((zA : Int) != (zB : Int))) rfl (by kernel_rfl) (by kernel_rfl) (by kernel_rfl) (fun _ _ _ h => h) (.inl ⟨by rfl, fun w hw => by clear hw; go_simp⟩) h0 ?_
          try simp only [Act.put, lay_out]
          refine wpAnyH_done (by kernel_rfl) ?_ _
          refine NoPanic.normal ?_
          clear h0
          try simp only [Act.put, lay_out]
          cases hbb : ((zA : Int) != (zB : Int))
          · rw [hbb] at hst
            have HST : Hid (unl nn x y (j + 1) = uj) := hid (by simpa using hst)
            clear hst
            go_wp2
            go_roundw
            case rel => exact ⟨j + 1, by omega, by rw [HST.out], by go_num, HD.out⟩
            case measure => simp [intOf]; omega
          · rw [hbb] at hst
            have HST : Hid (unl nn x y (j + 1) = uj + 1) := hid (by simpa using hst)
            clear hst
            go_wp2
            go_roundw
            case rel => exact ⟨j + 1, by omega, by rw [HST.out, Int.natCast_add]; rfl, by go_num, HD.out⟩
            case measure => simp [intOf]; omega
        · obtain rfl : j = nn := by omega
          clear hlt
          by_cases e : x = y
          · have u1 : unl j x y j = 0 := by unfold unl; rw [if_neg (by omega), if_pos e]
            subst e
            rw [u1]
            clear u1
            go_wp2_with (go_at_call 9; (with_reducible refine (HAW.out _).mono ?_); rintro e w11 ⟨rfl, hb⟩; have L11 := hid ((H3.out.low.trans (HBT.out.mono H3.out.los)).trans (hb.mono (Nat.le_trans H3.out.los HBT.out.size))); clear hb)
            go_ret
            exact ⟨rfl, L11.out⟩
          · have u1 : unl j x y j = 1 := by unfold unl; rw [if_neg (by omega), if_neg e]
            have q1 : ((x : Int) == (y : Int)) = false := by simp; omega
            rw [u1]
            clear u1 e
            go_wp2_with (go_at_call 9; (with_reducible refine (HAW.out _).mono ?_); rintro e w11 ⟨rfl, hb⟩; have L11 := hid ((H3.out.low.trans (HBT.out.mono H3.out.los)).trans (hb.mono (Nat.le_trans H3.out.los HBT.out.size))); clear hb)
            go_ret
            exact ⟨rfl, L11.out⟩
end Go.Proofs.Ytdgkofnboeepbaa
