import Derived.Test.YtinihebnajaejaaDoorProg
import Derived.Test.YtinihebnajaejaaDoorMgaq
/- Fresh: FreshTells over any machine. -/
namespace Go.Proofs.YtinihebnajaejaaDoor
open Go.RowKit
set_option maxRecDepth 100000
set_option maxHeartbeats 25600000 in
theorem ftells_core {Pm : World → Nat → Ms → (Nat → Prop) → Prop} (hM : Mach Pm) (hN : MachN Pm) (t3 : Bool) (x : Nat) (hx : x < 2 ^ 64) (mv : Value) (tw : Nat → Nat) (TN : Nat) (sm : Bool) (W : World) (hp : Pv W)
    (hR : RdS .u64 W (fun g => g < W.heap.size) mv (wdL tw TN)) (htw : ∀ i, i < TN → tw i < 2 ^ 64) (hTN : TN ≤ 17592186043904) :
    Calls Tryd.prog 3 #[.bool t3, .int .u64 (x : Int), mv, .bool sm] W fun e w' => e = .returned (.bool true) ∧ Below W.heap.size W w' := by
  obtain ⟨ma, mc, rfl, hm0⟩ := id hR
  have hlen := wdL_len tw TN
  have HBG : Hid (∀ nn : Nat, (nn = 2 ∨ nn = 3) → Calls Tryd.prog 5 #[.int .i64 (nn : Int), .slice ma TN mc, .int .i64 40] W fun e w' => ∃ p b, e = .returned (.tuple #[.agg (paC p b (.slice none 0 0) (.slice none 0 0)), .bool true]) ∧ Bz Pm W.heap.size (fun _ => False) W w' p b (startD (nn : Int) 40 tw TN 0 TN) (startD (nn : Int) 40 tw TN 0 TN)) := hid (fun nn hn => by
    have := lbegins_any hM hN (nn : Int) 40 (by omega) (by decide) (by decide) tw TN _ W hR
    rw [hlen] at this
    exact this)
  have HBQ : Hid (∀ nn : Nat, (nn = 2 ∨ nn = 3) → Bq 0 (startD (nn : Int) 40 tw TN 0 TN)) := hid (fun nn hn => startD_bq (nn : Int) 40 tw TN 0 TN 0 (by omega) (by decide) (by decide) (by omega) htw (by omega) (Nat.le_refl _))
  have HAW := hid (fun w (h : Pv w) => fawake_any hM hN w h)
  have HPV := hid hp
  have HL0 : Hid (gpair < W.heap.size) := hid hp.1
  have HXB := hid hx
  have HD1 := hid (fun (nn : Nat) (w : World) => fdraws_any (nn : Int) w)
  have HD2 := hid (fun (nn : Nat) (w : World) => rdraws_any (nn : Int) w)
  have hTI : ((wdL tw TN).length : Int) = (TN : Int) := by rw [hlen]
  rw [hlen]
  clear hR htw hTN hm0 hx hp hlen hTI
  go_enter Tryd.func3, Tryd.ntmps3
  go_upto_if 16 with fail
  go_cut [9] from 9 to 9 (fun q wx => ∃ nn : Nat, q = .int .i64 (nn : Int) ∧ (nn = 2 ∨ nn = 3) ∧ W = wx)
  case first =>
    cases t3
    · go_wp2
      go_meet
      exact ⟨2, rfl, .inl rfl, rfl⟩
    · go_wp2
      go_meet
      exact ⟨3, rfl, .inr rfl, rfl⟩
  case rest =>
    obtain ⟨nn, rfl, hn, rfl⟩ := hcut
    have HN23 := hid hn
    have HNI : Hid ((startD (nn : Int) 40 tw TN 0 TN).n = 2 ∨ (startD (nn : Int) 40 tw TN 0 TN).n = 3) := hid (by show (nn : Int) = 2 ∨ (nn : Int) = 3; omega)
    have HSK : Hid ((startD (nn : Int) 40 tw TN 0 TN).skip = 0 ∧ (startD (nn : Int) 40 tw TN 0 TN).dry = false) := hid ⟨rfl, rfl⟩
    have HB0 := hid (HBQ.out nn hn)
    have HBN := hid (HBG.out nn hn)
    clear hn HBQ HBG
    obtain ⟨S0, hS0⟩ : ∃ S0, startD (nn : Int) 40 tw TN 0 TN = S0 := ⟨_, rfl⟩
    rw [hS0] at HNI HSK HB0 HBN
    clear hS0
    have HA := HD1.out nn
    have HB := HD2.out nn
    have HC := HD1.out TN
    have HD := HD2.out TN
    generalize frD (nn : Int) = z1 at HA HB
    generalize frD (TN : Int) = z2 at HC HD
    have HA := hid HA
    have HB := hid HB
    have HC := hid HC
    have HD := hid HD
    clear HD1 HD2
    go_upto_region 5 with (go_at_call 5; (with_reducible refine HBN.out.mono ?_); rintro e w2 ⟨p, b, rfl, hz⟩; have Z2 := hid hz; clear hz)
    have H3 := hid ((Gy.start Z2.out).new hM (paC p b (.slice none 0 0) (.slice none 0 0)) 28)
    obtain ⟨b10, hb1⟩ : ∃ b10, w2.heap.size = b10 := ⟨_, rfl⟩
    rw [hb1] at H3
    generalize w2.alloc (.cells #[.pointer (some ⟨p, 0, none⟩), .pointer (some ⟨b, 0, none⟩), .slice none 0 0, .slice none 0 0] 28) = w3 at *
    rw [hb1]
    clear hb1
    go_upto_region 7 with (first
      | (go_at_call 6; (with_reducible refine (HA.out _).mono ?_); rintro e w4 ⟨rfl, rfl⟩)
      | (go_at_call 6; (with_reducible refine (HC.out _).mono ?_); rintro e w4 ⟨rfl, rfl⟩)
      | (go_at_call 7; (with_reducible refine (HB.out _).mono ?_); rintro e w4 ⟨rfl, rfl⟩)
      | (go_at_call 7; (with_reducible refine (HD.out _).mono ?_); rintro e w4 ⟨rfl, rfl⟩))
    obtain ⟨wa, hwa⟩ : ∃ wa, w4 = wa := ⟨_, rfl⟩
    subst hwa
    have HNS1 : Hid ((encS S0 x).n = 2 ∨ (encS S0 x).n = 3) := hid (by rw [(encS_ext S0 x).n]; exact HNI.out)
    have HB1 : Hid (Bq 6 (encS S0 x)) := hid (encS_bq HB0.out (by decide) HNI.out HXB.out)
    have HW1 : Hid (Wb (encR S0)) := hid (encR_wb HB0.out (by decide) HNI.out)
    have HEA := hid (fun (w : World) (bs : List (Nat × Obj)) (h : Gy Pm W.heap.size (fun _ => False) W w2 w p b S0 S0 bs) => h.lift (fun X W' hz => qenc hM (shI hM) x hz HB0.out (by decide) HNI.out HXB.out))
    have HEB := hid (fun (w : World) (bs : List (Nat × Obj)) (h : Gy Pm W.heap.size (fun _ => False) W w2 w p b (encS S0 x) S0 bs) => h.lift (fun X W' hz => yenc hM hz HB0.out (by decide) HNI.out x HXB.out))
    have HSP := hid (fun (w : World) (bs : List (Nat × Obj)) (h : Gy Pm W.heap.size (fun _ => False) W w2 w p b (encS S0 x) (encS S0 x) bs) => h.lift (fun X W' hz => qsimple hM (encR S0) hz (HPV.out.bz HL0.out h.z) HL0.out HB1.out (by decide) HNS1.out HW1.out))
    have HFP := hid (fun (w : World) (bs : List (Nat × Obj)) (h : Gy Pm W.heap.size (fun _ => False) W w2 w p b (encS S0 x) (encS S0 x) bs) => h.lift (fun X W' hz => qfull hM (encR S0) hz (HPV.out.bz HL0.out h.z) HL0.out HB1.out (by decide) HNS1.out HW1.out))
    have HSY := hid (fun (w : World) (bs : List (Nat × Obj)) (h : Gy Pm W.heap.size (fun _ => False) W w2 w p b (frS (encS S0 x) true (encR S0)) (encS S0 x) bs) => h.lift (fun X W' hz => ysimple hM (encR S0) hz HB1.out (by decide) HNS1.out HW1.out))
    have HFY := hid (fun (w : World) (bs : List (Nat × Obj)) (h : Gy Pm W.heap.size (fun _ => False) W w2 w p b (frS (encS S0 x) false (encR S0)) (encS S0 x) bs) => h.lift (fun X W' hz => yfull hM (encR S0) hz HB1.out (by decide) HNS1.out HW1.out))
    have HB3 : Hid (Bq 16 (frS (encS S0 x) sm (encR S0))) := hid (frS_bq HB1.out (by decide) HW1.out)
    have HDY : Hid ((frS (encS S0 x) sm (encR S0)).dry = false) := hid (by rw [(frS_ext _ sm _).dry, (encS_ext S0 x).dry]; exact HSK.out.2)
    have HVX : Hid ((frS (encS S0 x) sm (encR S0)).e = 0 → vlN (frS (encS S0 x) sm (encR S0)).v (frS (encS S0 x) sm (encR S0)).L (frR (encS S0 x) sm (encR S0)) = x) := hid (fun he => by
      have hs1 : (encS S0 x).skip = 0 := by rw [(encS_ext S0 x).skip]; exact HSK.out.1
      have hd1 : (encS S0 x).dry = false := by rw [(encS_ext S0 x).dry]; exact HSK.out.2
      have he1 : (encS S0 x).e = 0 := (blk_of (m := frM (encS S0 x).n sm) hs1 hd1 he).e
      obtain ⟨v1, v2⟩ := enc_vl he1 HSK.out.1 HNI.out
      rw [(fr_vl hs1 hd1 HNS1.out v2 he).1, v1])
    have HE3 := hid (fun (w : World) (bs : List (Nat × Obj)) (h : Gy Pm W.heap.size (fun _ => False) W w2 w p b (frS (encS S0 x) sm (encR S0)) (frS (encS S0 x) sm (encR S0)) bs) => h.asks hM (E := fun e _ => e = .returned (.bool true)) (f := 14) (args := #[.agg (paC p b (.slice none 0 0) (.slice none 0 0))]) (fun X W' hz => (llike_any hM hz HB3.out (by decide) HDY.out none none 0 0 0 0).mono fun _ _ hr => ⟨hr.1, hr.2.2⟩))
    have HVS := hid (fun (w : World) (bs : List (Nat × Obj)) (h : Gy Pm W.heap.size (fun _ => False) W w2 w p b (frS (encS S0 x) sm (encR S0)) (frS (encS S0 x) sm (encR S0)) bs) => h.asks hM (E := fun e w' => ∃ v, e = .returned v ∧ Rd .u64 w' v (wdL (frS (encS S0 x) sm (encR S0)).v (frS (encS S0 x) sm (encR S0)).L)) (f := 16) (args := #[.pointer (some ⟨p, 0, none⟩)]) (fun X W' hz => (zvalues hM hz HB3.out (by decide)).mono fun _ _ ⟨v, e1, e2, e3⟩ => ⟨⟨v, e1, by rw [show (frS (encS S0 x) sm (encR S0)).keep (frS (encS S0 x) sm (encR S0)).L = (frS (encS S0 x) sm (encR S0)).L by unfold Ms.keep; rw [HDY.out]; rfl] at e2; exact e2⟩, e3⟩))
    have HVV : Hid (∀ (v : Value) (w : World), (frS (encS S0 x) sm (encR S0)).e = 0 → Rd .u64 w v (wdL (frS (encS S0 x) sm (encR S0)).v (frS (encS S0 x) sm (encR S0)).L) → Calls Tryd.prog 15 #[v, .agg (wdV (frR (encS S0 x) sm (encR S0)))] w fun e w' => e = .returned (.int .u64 (x : Int)) ∧ Below w.heap.size w w') := hid (fun v w he h => by
      have := (shI hM).value v _ _ (frR (encS S0 x) sm (encR S0)) w h (fun i hi => HB3.out.v i hi)
      rw [HVX.out he] at this
      exact this)
    clear HB0 HNI HSK HBN HN23 HXB HB1 HW1 HNS1 HVX HDY HB3 Z2
    go_cut [12, 13] from 41 to 48 (fun q12 q13 wx => ∃ b12 b13, q12 = .pointer (some ⟨b12, 0, none⟩) ∧ q13 = .pointer (some ⟨b13, 0, none⟩) ∧ Gy Pm W.heap.size (fun _ => False) W w2 wx p b (encS S0 x) (encS S0 x) [(b13, .cells (wdV (encR S0)) 34 (0, 0)), (b12, .cells (wdV (encR S0)) 34 (0, 0)), (b10, .cells (paC p b (.slice none 0 0) (.slice none 0 0)) 28 (0, 0))])
    case first =>
      generalize encR S0 = R at *
      have G0 := hid (H3.out.self hM ((Below.refl _ w4).drew))
      refine wp_region_noPanic ?_
      refine wp_region_held_drew (S := fun w' => w'.heap[b10]? = some (.cells (paC p b (.slice none 0 0) (.slice none 0 0)) 28 (0, 0))) (by kernel_rfl) (G0.out.bl 0 rfl) (fun h0 => ?_)
      generalize w4.drew = y0 at *
      refine wpAnyH_take (i := 0) (v := .pointer (some ⟨b10, 0, none⟩)) rfl (by kernel_rfl) (by kernel_rfl) (by kernel_rfl) (fun _ _ _ h => h) (.inl ⟨by rfl, fun w hw => by clear hw; go_simp⟩) h0 ?_
      try simp only [Act.put, lay_out]
      refine wpAnyH_take (i := 1) (v := .pointer (some ⟨p, 0, none⟩)) rfl (by kernel_rfl) (by kernel_rfl) (by kernel_rfl) (fun _ _ _ h => h) (.inl ⟨by rfl, fun w' hw => by have hc := row_c (i := 0) (u := .pointer (some ⟨p, 0, none⟩)) hw rfl; clear hw; go_simp⟩) h0 ?_
      try simp only [Act.put, lay_out]
      refine wpAnyH_take (i := 2) (v := .int .u64 (x : Int)) rfl (by kernel_rfl) (by kernel_rfl) (by kernel_rfl) (fun _ _ _ h => h) (.inl ⟨by rfl, fun w hw => by clear hw; go_simp⟩) h0 ?_
      try simp only [Act.put, lay_out]
      refine wpAnyH_take (i := 4) (v := .pointer (some ⟨b10, 1, none⟩)) rfl (by kernel_rfl) (by kernel_rfl) (by kernel_rfl) (fun _ _ _ h => h) (.inl ⟨by rfl, fun w hw => by clear hw; go_simp⟩) h0 ?_
      try simp only [Act.put, lay_out]
      refine wpAnyH_take (i := 5) (v := .pointer (some ⟨b, 0, none⟩)) rfl (by kernel_rfl) (by kernel_rfl) (by kernel_rfl) (fun _ _ _ h => h) (.inl ⟨by rfl, fun w' hw => by have hc := row_c (i := 1) (u := .pointer (some ⟨b, 0, none⟩)) hw rfl; clear hw; go_simp⟩) h0 ?_
      try simp only [Act.put, lay_out]
      refine wpAnyH_take (i := 6) (v := .int .u64 (x : Int)) rfl (by kernel_rfl) (by kernel_rfl) (by kernel_rfl) (fun _ _ _ h => h) (.inl ⟨by rfl, fun w hw => by clear hw; go_simp⟩) h0 ?_
      try simp only [Act.put, lay_out]
      refine wpAnyH_ready (rs := [3, 8, 9]) (by kernel_rfl) (by simp) (AllReadyH.cons rfl (fun K hK => ?_) (AllReadyH.cons rfl (fun K hK => ?_) (AllReadyH.cons rfl (fun K hK => ?_) AllReadyH.nil)))
      · rw [if_pos (by rfl)]
        go_simp
        go_at_call 8
        (with_reducible refine (HEA.out _ _ G0.out).mono ?_); rintro e y1 ⟨rfl, hz⟩
        have G1 := hid hz
        clear hz
        refine hK.out _ _ (G1.out.bl 0 rfl) (fun h1x => ?_)
        clear hK K
        try simp only [Act.put, lay_out]
        refine wpAnyH_ready (rs := [7, 8, 9]) (by kernel_rfl) (by simp) (AllReadyH.cons rfl (fun K hK => ?_) (AllReadyH.cons rfl (fun K hK => ?_) (AllReadyH.cons rfl (fun K hK => ?_) AllReadyH.nil)))
        · rw [if_pos (by rfl)]
          go_simp
          go_at_call 9
          (with_reducible refine (HEB.out _ _ G1.out).mono ?_); rintro e y2 ⟨rfl, hz⟩
          have G2 := hid hz
          clear hz
          refine hK.out _ _ (G2.out.bl 0 rfl) (fun h2x => ?_)
          clear hK K
          try simp only [Act.put, lay_out]
          refine wpAnyH_ready (rs := [8, 9]) (by kernel_rfl) (by simp) (AllReadyH.cons rfl (fun K hK => ?_) (AllReadyH.cons rfl (fun K hK => ?_) AllReadyH.nil))
          · rw [if_pos (by rfl)]
            go_simp
            have G3 := hid (G2.out.new hM #[.int .i64 0, .int .i64 0, .int .i64 0] 34)
            refine hK.out _ _ (G3.out.bl 1 rfl) (fun h3x => ?_)
            clear hK K
            try simp only [Act.put, lay_out]
            generalize y2.alloc (.cells #[.int .i64 0, .int .i64 0, .int .i64 0] 34) = y3 at *
            refine wpAnyH_ready (rs := [9]) (by kernel_rfl) (by simp) (AllReadyH.cons rfl (fun K hK => ?_) AllReadyH.nil)
            rw [if_pos (by rfl)]
            go_simp
            have G4 := hid (G3.out.new hM #[.int .i64 0, .int .i64 0, .int .i64 0] 34)
            refine hK.out _ _ (G4.out.bl 2 rfl) (fun h4x => ?_)
            clear hK K
            try simp only [Act.put, lay_out]
            generalize y3.alloc (.cells #[.int .i64 0, .int .i64 0, .int .i64 0] 34) = y4 at *
            have G5 := hid G4.out.swap
            refine wpAnyH_ready (rs := [10]) (by kernel_rfl) (by simp) (AllReadyH.cons rfl (fun K hK => ?_) AllReadyH.nil)
            rw [if_pos (by rfl)]
            refine wp_store_row 34 _ _ rfl (y2.heap.size) (wdV R) rfl rfl 34 _ (G5.out.bl 0 rfl) (by kernel_rfl) rfl (by kernel_rfl) ?_
            have G6 := hid (G5.out.row hM (wdV R))
            refine hK.out _ _ (G6.out.bl 2 rfl) (fun h5x => ?_)
            clear hK K
            try simp only [Act.put, lay_out]
            have G7 := hid G6.out.swap
            refine wpAnyH_ready (rs := [11]) (by kernel_rfl) (by simp) (AllReadyH.cons rfl (fun K hK => ?_) AllReadyH.nil)
            rw [if_pos (by rfl)]
            refine wp_store_row 34 _ _ rfl (y3.heap.size) (wdV R) rfl rfl 34 _ (G7.out.bl 0 rfl) (by kernel_rfl) rfl (by kernel_rfl) ?_
            have G8 := hid (G7.out.row hM (wdV R))
            refine hK.out _ _ (G8.out.bl 2 rfl) (fun h6x => ?_)
            clear hK K
            try simp only [Act.put, lay_out]
            refine wpAnyH_done (by kernel_rfl) ?_ _
            refine NoPanic.normal ?_
            clear h0 h1x h2x h3x h4x h5x h6x
            try simp only [Act.put, lay_out]
            go_wp2_with fail
            go_meet
            exact ⟨_, _, rfl, rfl, G8.out⟩
          · rw [if_pos (by rfl)]
            go_simp
            have G3 := hid (G2.out.new hM #[.int .i64 0, .int .i64 0, .int .i64 0] 34)
            refine hK.out _ _ (G3.out.bl 1 rfl) (fun h3x => ?_)
            clear hK K
            try simp only [Act.put, lay_out]
            generalize y2.alloc (.cells #[.int .i64 0, .int .i64 0, .int .i64 0] 34) = y3 at *
            refine wpAnyH_ready (rs := [8]) (by kernel_rfl) (by simp) (AllReadyH.cons rfl (fun K hK => ?_) AllReadyH.nil)
            rw [if_pos (by rfl)]
            go_simp
            have G4 := hid (G3.out.new hM #[.int .i64 0, .int .i64 0, .int .i64 0] 34)
            refine hK.out _ _ (G4.out.bl 2 rfl) (fun h4x => ?_)
            clear hK K
            try simp only [Act.put, lay_out]
            generalize y3.alloc (.cells #[.int .i64 0, .int .i64 0, .int .i64 0] 34) = y4 at *
            refine wpAnyH_ready (rs := [10]) (by kernel_rfl) (by simp) (AllReadyH.cons rfl (fun K hK => ?_) AllReadyH.nil)
            rw [if_pos (by rfl)]
            refine wp_store_row 34 _ _ rfl (y3.heap.size) (wdV R) rfl rfl 34 _ (G4.out.bl 0 rfl) (by kernel_rfl) rfl (by kernel_rfl) ?_
            have G5 := hid (G4.out.row hM (wdV R))
            refine hK.out _ _ (G5.out.bl 2 rfl) (fun h5x => ?_)
            clear hK K
            try simp only [Act.put, lay_out]
            have G6 := hid G5.out.swap
            refine wpAnyH_ready (rs := [11]) (by kernel_rfl) (by simp) (AllReadyH.cons rfl (fun K hK => ?_) AllReadyH.nil)
            rw [if_pos (by rfl)]
            refine wp_store_row 34 _ _ rfl (y2.heap.size) (wdV R) rfl rfl 34 _ (G6.out.bl 0 rfl) (by kernel_rfl) rfl (by kernel_rfl) ?_
            have G7 := hid (G6.out.row hM (wdV R))
            refine hK.out _ _ (G7.out.bl 2 rfl) (fun h6x => ?_)
            clear hK K
            try simp only [Act.put, lay_out]
            refine wpAnyH_done (by kernel_rfl) ?_ _
            refine NoPanic.normal ?_
            clear h0 h1x h2x h3x h4x h5x h6x
            try simp only [Act.put, lay_out]
            go_wp2_with fail
            go_meet
            exact ⟨_, _, rfl, rfl, G7.out⟩
        · rw [if_pos (by rfl)]
          go_simp
          have G2 := hid (G1.out.new hM #[.int .i64 0, .int .i64 0, .int .i64 0] 34)
          refine hK.out _ _ (G2.out.bl 1 rfl) (fun h2x => ?_)
          clear hK K
          try simp only [Act.put, lay_out]
          generalize y1.alloc (.cells #[.int .i64 0, .int .i64 0, .int .i64 0] 34) = y2 at *
          refine wpAnyH_ready (rs := [7, 9]) (by kernel_rfl) (by simp) (AllReadyH.cons rfl (fun K hK => ?_) (AllReadyH.cons rfl (fun K hK => ?_) AllReadyH.nil))
          · rw [if_pos (by rfl)]
            go_simp
            go_at_call 9
            (with_reducible refine (HEB.out _ _ G2.out).mono ?_); rintro e y3 ⟨rfl, hz⟩
            have G3 := hid hz
            clear hz
            refine hK.out _ _ (G3.out.bl 1 rfl) (fun h3x => ?_)
            clear hK K
            try simp only [Act.put, lay_out]
            refine wpAnyH_ready (rs := [9]) (by kernel_rfl) (by simp) (AllReadyH.cons rfl (fun K hK => ?_) AllReadyH.nil)
            rw [if_pos (by rfl)]
            go_simp
            have G4 := hid (G3.out.new hM #[.int .i64 0, .int .i64 0, .int .i64 0] 34)
            refine hK.out _ _ (G4.out.bl 2 rfl) (fun h4x => ?_)
            clear hK K
            try simp only [Act.put, lay_out]
            generalize y3.alloc (.cells #[.int .i64 0, .int .i64 0, .int .i64 0] 34) = y4 at *
            have G5 := hid G4.out.swap
            refine wpAnyH_ready (rs := [10]) (by kernel_rfl) (by simp) (AllReadyH.cons rfl (fun K hK => ?_) AllReadyH.nil)
            rw [if_pos (by rfl)]
            refine wp_store_row 34 _ _ rfl (y1.heap.size) (wdV R) rfl rfl 34 _ (G5.out.bl 0 rfl) (by kernel_rfl) rfl (by kernel_rfl) ?_
            have G6 := hid (G5.out.row hM (wdV R))
            refine hK.out _ _ (G6.out.bl 2 rfl) (fun h5x => ?_)
            clear hK K
            try simp only [Act.put, lay_out]
            have G7 := hid G6.out.swap
            refine wpAnyH_ready (rs := [11]) (by kernel_rfl) (by simp) (AllReadyH.cons rfl (fun K hK => ?_) AllReadyH.nil)
            rw [if_pos (by rfl)]
            refine wp_store_row 34 _ _ rfl (y3.heap.size) (wdV R) rfl rfl 34 _ (G7.out.bl 0 rfl) (by kernel_rfl) rfl (by kernel_rfl) ?_
            have G8 := hid (G7.out.row hM (wdV R))
            refine hK.out _ _ (G8.out.bl 2 rfl) (fun h6x => ?_)
            clear hK K
            try simp only [Act.put, lay_out]
            refine wpAnyH_done (by kernel_rfl) ?_ _
            refine NoPanic.normal ?_
            clear h0 h1x h2x h3x h4x h5x h6x
            try simp only [Act.put, lay_out]
            go_wp2_with fail
            go_meet
            exact ⟨_, _, rfl, rfl, G8.out⟩
          · rw [if_pos (by rfl)]
            go_simp
            have G3 := hid (G2.out.new hM #[.int .i64 0, .int .i64 0, .int .i64 0] 34)
            refine hK.out _ _ (G3.out.bl 2 rfl) (fun h3x => ?_)
            clear hK K
            try simp only [Act.put, lay_out]
            generalize y2.alloc (.cells #[.int .i64 0, .int .i64 0, .int .i64 0] 34) = y3 at *
            refine wpAnyH_ready (rs := [7]) (by kernel_rfl) (by simp) (AllReadyH.cons rfl (fun K hK => ?_) AllReadyH.nil)
            rw [if_pos (by rfl)]
            go_simp
            go_at_call 9
            (with_reducible refine (HEB.out _ _ G3.out).mono ?_); rintro e y4 ⟨rfl, hz⟩
            have G4 := hid hz
            clear hz
            refine hK.out _ _ (G4.out.bl 2 rfl) (fun h4x => ?_)
            clear hK K
            try simp only [Act.put, lay_out]
            have G5 := hid G4.out.swap
            refine wpAnyH_ready (rs := [10]) (by kernel_rfl) (by simp) (AllReadyH.cons rfl (fun K hK => ?_) AllReadyH.nil)
            rw [if_pos (by rfl)]
            refine wp_store_row 34 _ _ rfl (y1.heap.size) (wdV R) rfl rfl 34 _ (G5.out.bl 0 rfl) (by kernel_rfl) rfl (by kernel_rfl) ?_
            have G6 := hid (G5.out.row hM (wdV R))
            refine hK.out _ _ (G6.out.bl 2 rfl) (fun h5x => ?_)
            clear hK K
            try simp only [Act.put, lay_out]
            have G7 := hid G6.out.swap
            refine wpAnyH_ready (rs := [11]) (by kernel_rfl) (by simp) (AllReadyH.cons rfl (fun K hK => ?_) AllReadyH.nil)
            rw [if_pos (by rfl)]
            refine wp_store_row 34 _ _ rfl (y2.heap.size) (wdV R) rfl rfl 34 _ (G7.out.bl 0 rfl) (by kernel_rfl) rfl (by kernel_rfl) ?_
            have G8 := hid (G7.out.row hM (wdV R))
            refine hK.out _ _ (G8.out.bl 2 rfl) (fun h6x => ?_)
            clear hK K
            try simp only [Act.put, lay_out]
            refine wpAnyH_done (by kernel_rfl) ?_ _
            refine NoPanic.normal ?_
            clear h0 h1x h2x h3x h4x h5x h6x
            try simp only [Act.put, lay_out]
            go_wp2_with fail
            go_meet
            exact ⟨_, _, rfl, rfl, G8.out⟩
        · rw [if_pos (by rfl)]
          go_simp
          have G2 := hid (G1.out.new hM #[.int .i64 0, .int .i64 0, .int .i64 0] 34)
          refine hK.out _ _ (G2.out.bl 1 rfl) (fun h2x => ?_)
          clear hK K
          try simp only [Act.put, lay_out]
          generalize y1.alloc (.cells #[.int .i64 0, .int .i64 0, .int .i64 0] 34) = y2 at *
          refine wpAnyH_ready (rs := [7, 8]) (by kernel_rfl) (by simp) (AllReadyH.cons rfl (fun K hK => ?_) (AllReadyH.cons rfl (fun K hK => ?_) AllReadyH.nil))
          · rw [if_pos (by rfl)]
            go_simp
            go_at_call 9
            (with_reducible refine (HEB.out _ _ G2.out).mono ?_); rintro e y3 ⟨rfl, hz⟩
            have G3 := hid hz
            clear hz
            refine hK.out _ _ (G3.out.bl 1 rfl) (fun h3x => ?_)
            clear hK K
            try simp only [Act.put, lay_out]
            refine wpAnyH_ready (rs := [8]) (by kernel_rfl) (by simp) (AllReadyH.cons rfl (fun K hK => ?_) AllReadyH.nil)
            rw [if_pos (by rfl)]
            go_simp
            have G4 := hid (G3.out.new hM #[.int .i64 0, .int .i64 0, .int .i64 0] 34)
            refine hK.out _ _ (G4.out.bl 2 rfl) (fun h4x => ?_)
            clear hK K
            try simp only [Act.put, lay_out]
            generalize y3.alloc (.cells #[.int .i64 0, .int .i64 0, .int .i64 0] 34) = y4 at *
            refine wpAnyH_ready (rs := [10]) (by kernel_rfl) (by simp) (AllReadyH.cons rfl (fun K hK => ?_) AllReadyH.nil)
            rw [if_pos (by rfl)]
            refine wp_store_row 34 _ _ rfl (y3.heap.size) (wdV R) rfl rfl 34 _ (G4.out.bl 0 rfl) (by kernel_rfl) rfl (by kernel_rfl) ?_
            have G5 := hid (G4.out.row hM (wdV R))
            refine hK.out _ _ (G5.out.bl 2 rfl) (fun h5x => ?_)
            clear hK K
            try simp only [Act.put, lay_out]
            have G6 := hid G5.out.swap
            refine wpAnyH_ready (rs := [11]) (by kernel_rfl) (by simp) (AllReadyH.cons rfl (fun K hK => ?_) AllReadyH.nil)
            rw [if_pos (by rfl)]
            refine wp_store_row 34 _ _ rfl (y1.heap.size) (wdV R) rfl rfl 34 _ (G6.out.bl 0 rfl) (by kernel_rfl) rfl (by kernel_rfl) ?_
            have G7 := hid (G6.out.row hM (wdV R))
            refine hK.out _ _ (G7.out.bl 2 rfl) (fun h6x => ?_)
            clear hK K
            try simp only [Act.put, lay_out]
            refine wpAnyH_done (by kernel_rfl) ?_ _
            refine NoPanic.normal ?_
            clear h0 h1x h2x h3x h4x h5x h6x
            try simp only [Act.put, lay_out]
            go_wp2_with fail
            go_meet
            exact ⟨_, _, rfl, rfl, G7.out⟩
          · rw [if_pos (by rfl)]
            go_simp
            have G3 := hid (G2.out.new hM #[.int .i64 0, .int .i64 0, .int .i64 0] 34)
            refine hK.out _ _ (G3.out.bl 2 rfl) (fun h3x => ?_)
            clear hK K
            try simp only [Act.put, lay_out]
            generalize y2.alloc (.cells #[.int .i64 0, .int .i64 0, .int .i64 0] 34) = y3 at *
            refine wpAnyH_ready (rs := [7]) (by kernel_rfl) (by simp) (AllReadyH.cons rfl (fun K hK => ?_) AllReadyH.nil)
            rw [if_pos (by rfl)]
            go_simp
            go_at_call 9
            (with_reducible refine (HEB.out _ _ G3.out).mono ?_); rintro e y4 ⟨rfl, hz⟩
            have G4 := hid hz
            clear hz
            refine hK.out _ _ (G4.out.bl 2 rfl) (fun h4x => ?_)
            clear hK K
            try simp only [Act.put, lay_out]
            refine wpAnyH_ready (rs := [10]) (by kernel_rfl) (by simp) (AllReadyH.cons rfl (fun K hK => ?_) AllReadyH.nil)
            rw [if_pos (by rfl)]
            refine wp_store_row 34 _ _ rfl (y2.heap.size) (wdV R) rfl rfl 34 _ (G4.out.bl 0 rfl) (by kernel_rfl) rfl (by kernel_rfl) ?_
            have G5 := hid (G4.out.row hM (wdV R))
            refine hK.out _ _ (G5.out.bl 2 rfl) (fun h5x => ?_)
            clear hK K
            try simp only [Act.put, lay_out]
            have G6 := hid G5.out.swap
            refine wpAnyH_ready (rs := [11]) (by kernel_rfl) (by simp) (AllReadyH.cons rfl (fun K hK => ?_) AllReadyH.nil)
            rw [if_pos (by rfl)]
            refine wp_store_row 34 _ _ rfl (y1.heap.size) (wdV R) rfl rfl 34 _ (G6.out.bl 0 rfl) (by kernel_rfl) rfl (by kernel_rfl) ?_
            have G7 := hid (G6.out.row hM (wdV R))
            refine hK.out _ _ (G7.out.bl 2 rfl) (fun h6x => ?_)
            clear hK K
            try simp only [Act.put, lay_out]
            refine wpAnyH_done (by kernel_rfl) ?_ _
            refine NoPanic.normal ?_
            clear h0 h1x h2x h3x h4x h5x h6x
            try simp only [Act.put, lay_out]
            go_wp2_with fail
            go_meet
            exact ⟨_, _, rfl, rfl, G7.out⟩
      · rw [if_pos (by rfl)]
        go_simp
        have G1 := hid (G0.out.new hM #[.int .i64 0, .int .i64 0, .int .i64 0] 34)
        refine hK.out _ _ (G1.out.bl 1 rfl) (fun h1x => ?_)
        clear hK K
        try simp only [Act.put, lay_out]
        generalize y0.alloc (.cells #[.int .i64 0, .int .i64 0, .int .i64 0] 34) = y1 at *
        refine wpAnyH_ready (rs := [3, 9]) (by kernel_rfl) (by simp) (AllReadyH.cons rfl (fun K hK => ?_) (AllReadyH.cons rfl (fun K hK => ?_) AllReadyH.nil))
        · rw [if_pos (by rfl)]
          go_simp
          go_at_call 8
          (with_reducible refine (HEA.out _ _ G1.out).mono ?_); rintro e y2 ⟨rfl, hz⟩
          have G2 := hid hz
          clear hz
          refine hK.out _ _ (G2.out.bl 1 rfl) (fun h2x => ?_)
          clear hK K
          try simp only [Act.put, lay_out]
          refine wpAnyH_ready (rs := [7, 9]) (by kernel_rfl) (by simp) (AllReadyH.cons rfl (fun K hK => ?_) (AllReadyH.cons rfl (fun K hK => ?_) AllReadyH.nil))
          · rw [if_pos (by rfl)]
            go_simp
            go_at_call 9
            (with_reducible refine (HEB.out _ _ G2.out).mono ?_); rintro e y3 ⟨rfl, hz⟩
            have G3 := hid hz
            clear hz
            refine hK.out _ _ (G3.out.bl 1 rfl) (fun h3x => ?_)
            clear hK K
            try simp only [Act.put, lay_out]
            refine wpAnyH_ready (rs := [9]) (by kernel_rfl) (by simp) (AllReadyH.cons rfl (fun K hK => ?_) AllReadyH.nil)
            rw [if_pos (by rfl)]
            go_simp
            have G4 := hid (G3.out.new hM #[.int .i64 0, .int .i64 0, .int .i64 0] 34)
            refine hK.out _ _ (G4.out.bl 2 rfl) (fun h4x => ?_)
            clear hK K
            try simp only [Act.put, lay_out]
            generalize y3.alloc (.cells #[.int .i64 0, .int .i64 0, .int .i64 0] 34) = y4 at *
            have G5 := hid G4.out.swap
            refine wpAnyH_ready (rs := [10]) (by kernel_rfl) (by simp) (AllReadyH.cons rfl (fun K hK => ?_) AllReadyH.nil)
            rw [if_pos (by rfl)]
            refine wp_store_row 34 _ _ rfl (y0.heap.size) (wdV R) rfl rfl 34 _ (G5.out.bl 0 rfl) (by kernel_rfl) rfl (by kernel_rfl) ?_
            have G6 := hid (G5.out.row hM (wdV R))
            refine hK.out _ _ (G6.out.bl 2 rfl) (fun h5x => ?_)
            clear hK K
            try simp only [Act.put, lay_out]
            have G7 := hid G6.out.swap
            refine wpAnyH_ready (rs := [11]) (by kernel_rfl) (by simp) (AllReadyH.cons rfl (fun K hK => ?_) AllReadyH.nil)
            rw [if_pos (by rfl)]
            refine wp_store_row 34 _ _ rfl (y3.heap.size) (wdV R) rfl rfl 34 _ (G7.out.bl 0 rfl) (by kernel_rfl) rfl (by kernel_rfl) ?_
            have G8 := hid (G7.out.row hM (wdV R))
            refine hK.out _ _ (G8.out.bl 2 rfl) (fun h6x => ?_)
            clear hK K
            try simp only [Act.put, lay_out]
            refine wpAnyH_done (by kernel_rfl) ?_ _
            refine NoPanic.normal ?_
            clear h0 h1x h2x h3x h4x h5x h6x
            try simp only [Act.put, lay_out]
            go_wp2_with fail
            go_meet
            exact ⟨_, _, rfl, rfl, G8.out⟩
          · rw [if_pos (by rfl)]
            go_simp
            have G3 := hid (G2.out.new hM #[.int .i64 0, .int .i64 0, .int .i64 0] 34)
            refine hK.out _ _ (G3.out.bl 2 rfl) (fun h3x => ?_)
            clear hK K
            try simp only [Act.put, lay_out]
            generalize y2.alloc (.cells #[.int .i64 0, .int .i64 0, .int .i64 0] 34) = y3 at *
            refine wpAnyH_ready (rs := [7]) (by kernel_rfl) (by simp) (AllReadyH.cons rfl (fun K hK => ?_) AllReadyH.nil)
            rw [if_pos (by rfl)]
            go_simp
            go_at_call 9
            (with_reducible refine (HEB.out _ _ G3.out).mono ?_); rintro e y4 ⟨rfl, hz⟩
            have G4 := hid hz
            clear hz
            refine hK.out _ _ (G4.out.bl 2 rfl) (fun h4x => ?_)
            clear hK K
            try simp only [Act.put, lay_out]
            have G5 := hid G4.out.swap
            refine wpAnyH_ready (rs := [10]) (by kernel_rfl) (by simp) (AllReadyH.cons rfl (fun K hK => ?_) AllReadyH.nil)
            rw [if_pos (by rfl)]
            refine wp_store_row 34 _ _ rfl (y0.heap.size) (wdV R) rfl rfl 34 _ (G5.out.bl 0 rfl) (by kernel_rfl) rfl (by kernel_rfl) ?_
            have G6 := hid (G5.out.row hM (wdV R))
            refine hK.out _ _ (G6.out.bl 2 rfl) (fun h5x => ?_)
            clear hK K
            try simp only [Act.put, lay_out]
            have G7 := hid G6.out.swap
            refine wpAnyH_ready (rs := [11]) (by kernel_rfl) (by simp) (AllReadyH.cons rfl (fun K hK => ?_) AllReadyH.nil)
            rw [if_pos (by rfl)]
            refine wp_store_row 34 _ _ rfl (y2.heap.size) (wdV R) rfl rfl 34 _ (G7.out.bl 0 rfl) (by kernel_rfl) rfl (by kernel_rfl) ?_
            have G8 := hid (G7.out.row hM (wdV R))
            refine hK.out _ _ (G8.out.bl 2 rfl) (fun h6x => ?_)
            clear hK K
            try simp only [Act.put, lay_out]
            refine wpAnyH_done (by kernel_rfl) ?_ _
            refine NoPanic.normal ?_
            clear h0 h1x h2x h3x h4x h5x h6x
            try simp only [Act.put, lay_out]
            go_wp2_with fail
            go_meet
            exact ⟨_, _, rfl, rfl, G8.out⟩
        · rw [if_pos (by rfl)]
          go_simp
          have G2 := hid (G1.out.new hM #[.int .i64 0, .int .i64 0, .int .i64 0] 34)
          refine hK.out _ _ (G2.out.bl 2 rfl) (fun h2x => ?_)
          clear hK K
          try simp only [Act.put, lay_out]
          generalize y1.alloc (.cells #[.int .i64 0, .int .i64 0, .int .i64 0] 34) = y2 at *
          refine wpAnyH_ready (rs := [3]) (by kernel_rfl) (by simp) (AllReadyH.cons rfl (fun K hK => ?_) AllReadyH.nil)
          rw [if_pos (by rfl)]
          go_simp
          go_at_call 8
          (with_reducible refine (HEA.out _ _ G2.out).mono ?_); rintro e y3 ⟨rfl, hz⟩
          have G3 := hid hz
          clear hz
          refine hK.out _ _ (G3.out.bl 2 rfl) (fun h3x => ?_)
          clear hK K
          try simp only [Act.put, lay_out]
          refine wpAnyH_ready (rs := [7]) (by kernel_rfl) (by simp) (AllReadyH.cons rfl (fun K hK => ?_) AllReadyH.nil)
          rw [if_pos (by rfl)]
          go_simp
          go_at_call 9
          (with_reducible refine (HEB.out _ _ G3.out).mono ?_); rintro e y4 ⟨rfl, hz⟩
          have G4 := hid hz
          clear hz
          refine hK.out _ _ (G4.out.bl 2 rfl) (fun h4x => ?_)
          clear hK K
          try simp only [Act.put, lay_out]
          have G5 := hid G4.out.swap
          refine wpAnyH_ready (rs := [10]) (by kernel_rfl) (by simp) (AllReadyH.cons rfl (fun K hK => ?_) AllReadyH.nil)
          rw [if_pos (by rfl)]
          refine wp_store_row 34 _ _ rfl (y0.heap.size) (wdV R) rfl rfl 34 _ (G5.out.bl 0 rfl) (by kernel_rfl) rfl (by kernel_rfl) ?_
          have G6 := hid (G5.out.row hM (wdV R))
          refine hK.out _ _ (G6.out.bl 2 rfl) (fun h5x => ?_)
          clear hK K
          try simp only [Act.put, lay_out]
          have G7 := hid G6.out.swap
          refine wpAnyH_ready (rs := [11]) (by kernel_rfl) (by simp) (AllReadyH.cons rfl (fun K hK => ?_) AllReadyH.nil)
          rw [if_pos (by rfl)]
          refine wp_store_row 34 _ _ rfl (y1.heap.size) (wdV R) rfl rfl 34 _ (G7.out.bl 0 rfl) (by kernel_rfl) rfl (by kernel_rfl) ?_
          have G8 := hid (G7.out.row hM (wdV R))
          refine hK.out _ _ (G8.out.bl 2 rfl) (fun h6x => ?_)
          clear hK K
          try simp only [Act.put, lay_out]
          refine wpAnyH_done (by kernel_rfl) ?_ _
          refine NoPanic.normal ?_
          clear h0 h1x h2x h3x h4x h5x h6x
          try simp only [Act.put, lay_out]
          go_wp2_with fail
          go_meet
          exact ⟨_, _, rfl, rfl, G8.out⟩
      · rw [if_pos (by rfl)]
        go_simp
        have G1 := hid (G0.out.new hM #[.int .i64 0, .int .i64 0, .int .i64 0] 34)
        refine hK.out _ _ (G1.out.bl 1 rfl) (fun h1x => ?_)
        clear hK K
        try simp only [Act.put, lay_out]
        generalize y0.alloc (.cells #[.int .i64 0, .int .i64 0, .int .i64 0] 34) = y1 at *
        refine wpAnyH_ready (rs := [3, 8]) (by kernel_rfl) (by simp) (AllReadyH.cons rfl (fun K hK => ?_) (AllReadyH.cons rfl (fun K hK => ?_) AllReadyH.nil))
        · rw [if_pos (by rfl)]
          go_simp
          go_at_call 8
          (with_reducible refine (HEA.out _ _ G1.out).mono ?_); rintro e y2 ⟨rfl, hz⟩
          have G2 := hid hz
          clear hz
          refine hK.out _ _ (G2.out.bl 1 rfl) (fun h2x => ?_)
          clear hK K
          try simp only [Act.put, lay_out]
          refine wpAnyH_ready (rs := [7, 8]) (by kernel_rfl) (by simp) (AllReadyH.cons rfl (fun K hK => ?_) (AllReadyH.cons rfl (fun K hK => ?_) AllReadyH.nil))
          · rw [if_pos (by rfl)]
            go_simp
            go_at_call 9
            (with_reducible refine (HEB.out _ _ G2.out).mono ?_); rintro e y3 ⟨rfl, hz⟩
            have G3 := hid hz
            clear hz
            refine hK.out _ _ (G3.out.bl 1 rfl) (fun h3x => ?_)
            clear hK K
            try simp only [Act.put, lay_out]
            refine wpAnyH_ready (rs := [8]) (by kernel_rfl) (by simp) (AllReadyH.cons rfl (fun K hK => ?_) AllReadyH.nil)
            rw [if_pos (by rfl)]
            go_simp
            have G4 := hid (G3.out.new hM #[.int .i64 0, .int .i64 0, .int .i64 0] 34)
            refine hK.out _ _ (G4.out.bl 2 rfl) (fun h4x => ?_)
            clear hK K
            try simp only [Act.put, lay_out]
            generalize y3.alloc (.cells #[.int .i64 0, .int .i64 0, .int .i64 0] 34) = y4 at *
            refine wpAnyH_ready (rs := [10]) (by kernel_rfl) (by simp) (AllReadyH.cons rfl (fun K hK => ?_) AllReadyH.nil)
            rw [if_pos (by rfl)]
            refine wp_store_row 34 _ _ rfl (y3.heap.size) (wdV R) rfl rfl 34 _ (G4.out.bl 0 rfl) (by kernel_rfl) rfl (by kernel_rfl) ?_
            have G5 := hid (G4.out.row hM (wdV R))
            refine hK.out _ _ (G5.out.bl 2 rfl) (fun h5x => ?_)
            clear hK K
            try simp only [Act.put, lay_out]
            have G6 := hid G5.out.swap
            refine wpAnyH_ready (rs := [11]) (by kernel_rfl) (by simp) (AllReadyH.cons rfl (fun K hK => ?_) AllReadyH.nil)
            rw [if_pos (by rfl)]
            refine wp_store_row 34 _ _ rfl (y0.heap.size) (wdV R) rfl rfl 34 _ (G6.out.bl 0 rfl) (by kernel_rfl) rfl (by kernel_rfl) ?_
            have G7 := hid (G6.out.row hM (wdV R))
            refine hK.out _ _ (G7.out.bl 2 rfl) (fun h6x => ?_)
            clear hK K
            try simp only [Act.put, lay_out]
            refine wpAnyH_done (by kernel_rfl) ?_ _
            refine NoPanic.normal ?_
            clear h0 h1x h2x h3x h4x h5x h6x
            try simp only [Act.put, lay_out]
            go_wp2_with fail
            go_meet
            exact ⟨_, _, rfl, rfl, G7.out⟩
          · rw [if_pos (by rfl)]
            go_simp
            have G3 := hid (G2.out.new hM #[.int .i64 0, .int .i64 0, .int .i64 0] 34)
            refine hK.out _ _ (G3.out.bl 2 rfl) (fun h3x => ?_)
            clear hK K
            try simp only [Act.put, lay_out]
            generalize y2.alloc (.cells #[.int .i64 0, .int .i64 0, .int .i64 0] 34) = y3 at *
            refine wpAnyH_ready (rs := [7]) (by kernel_rfl) (by simp) (AllReadyH.cons rfl (fun K hK => ?_) AllReadyH.nil)
            rw [if_pos (by rfl)]
            go_simp
            go_at_call 9
            (with_reducible refine (HEB.out _ _ G3.out).mono ?_); rintro e y4 ⟨rfl, hz⟩
            have G4 := hid hz
            clear hz
            refine hK.out _ _ (G4.out.bl 2 rfl) (fun h4x => ?_)
            clear hK K
            try simp only [Act.put, lay_out]
            refine wpAnyH_ready (rs := [10]) (by kernel_rfl) (by simp) (AllReadyH.cons rfl (fun K hK => ?_) AllReadyH.nil)
            rw [if_pos (by rfl)]
            refine wp_store_row 34 _ _ rfl (y2.heap.size) (wdV R) rfl rfl 34 _ (G4.out.bl 0 rfl) (by kernel_rfl) rfl (by kernel_rfl) ?_
            have G5 := hid (G4.out.row hM (wdV R))
            refine hK.out _ _ (G5.out.bl 2 rfl) (fun h5x => ?_)
            clear hK K
            try simp only [Act.put, lay_out]
            have G6 := hid G5.out.swap
            refine wpAnyH_ready (rs := [11]) (by kernel_rfl) (by simp) (AllReadyH.cons rfl (fun K hK => ?_) AllReadyH.nil)
            rw [if_pos (by rfl)]
            refine wp_store_row 34 _ _ rfl (y0.heap.size) (wdV R) rfl rfl 34 _ (G6.out.bl 0 rfl) (by kernel_rfl) rfl (by kernel_rfl) ?_
            have G7 := hid (G6.out.row hM (wdV R))
            refine hK.out _ _ (G7.out.bl 2 rfl) (fun h6x => ?_)
            clear hK K
            try simp only [Act.put, lay_out]
            refine wpAnyH_done (by kernel_rfl) ?_ _
            refine NoPanic.normal ?_
            clear h0 h1x h2x h3x h4x h5x h6x
            try simp only [Act.put, lay_out]
            go_wp2_with fail
            go_meet
            exact ⟨_, _, rfl, rfl, G7.out⟩
        · rw [if_pos (by rfl)]
          go_simp
          have G2 := hid (G1.out.new hM #[.int .i64 0, .int .i64 0, .int .i64 0] 34)
          refine hK.out _ _ (G2.out.bl 2 rfl) (fun h2x => ?_)
          clear hK K
          try simp only [Act.put, lay_out]
          generalize y1.alloc (.cells #[.int .i64 0, .int .i64 0, .int .i64 0] 34) = y2 at *
          refine wpAnyH_ready (rs := [3]) (by kernel_rfl) (by simp) (AllReadyH.cons rfl (fun K hK => ?_) AllReadyH.nil)
          rw [if_pos (by rfl)]
          go_simp
          go_at_call 8
          (with_reducible refine (HEA.out _ _ G2.out).mono ?_); rintro e y3 ⟨rfl, hz⟩
          have G3 := hid hz
          clear hz
          refine hK.out _ _ (G3.out.bl 2 rfl) (fun h3x => ?_)
          clear hK K
          try simp only [Act.put, lay_out]
          refine wpAnyH_ready (rs := [7]) (by kernel_rfl) (by simp) (AllReadyH.cons rfl (fun K hK => ?_) AllReadyH.nil)
          rw [if_pos (by rfl)]
          go_simp
          go_at_call 9
          (with_reducible refine (HEB.out _ _ G3.out).mono ?_); rintro e y4 ⟨rfl, hz⟩
          have G4 := hid hz
          clear hz
          refine hK.out _ _ (G4.out.bl 2 rfl) (fun h4x => ?_)
          clear hK K
          try simp only [Act.put, lay_out]
          refine wpAnyH_ready (rs := [10]) (by kernel_rfl) (by simp) (AllReadyH.cons rfl (fun K hK => ?_) AllReadyH.nil)
          rw [if_pos (by rfl)]
          refine wp_store_row 34 _ _ rfl (y1.heap.size) (wdV R) rfl rfl 34 _ (G4.out.bl 0 rfl) (by kernel_rfl) rfl (by kernel_rfl) ?_
          have G5 := hid (G4.out.row hM (wdV R))
          refine hK.out _ _ (G5.out.bl 2 rfl) (fun h5x => ?_)
          clear hK K
          try simp only [Act.put, lay_out]
          have G6 := hid G5.out.swap
          refine wpAnyH_ready (rs := [11]) (by kernel_rfl) (by simp) (AllReadyH.cons rfl (fun K hK => ?_) AllReadyH.nil)
          rw [if_pos (by rfl)]
          refine wp_store_row 34 _ _ rfl (y0.heap.size) (wdV R) rfl rfl 34 _ (G6.out.bl 0 rfl) (by kernel_rfl) rfl (by kernel_rfl) ?_
          have G7 := hid (G6.out.row hM (wdV R))
          refine hK.out _ _ (G7.out.bl 2 rfl) (fun h6x => ?_)
          clear hK K
          try simp only [Act.put, lay_out]
          refine wpAnyH_done (by kernel_rfl) ?_ _
          refine NoPanic.normal ?_
          clear h0 h1x h2x h3x h4x h5x h6x
          try simp only [Act.put, lay_out]
          go_wp2_with fail
          go_meet
          exact ⟨_, _, rfl, rfl, G7.out⟩
    case rest =>
      obtain ⟨b12, b13, rfl, rfl, hH⟩ := hcut
      have H0 := hid hH
      clear hH H3 HEA HEB
      generalize hS1 : encS S0 x = S1 at *
      generalize hR1 : encR S0 = R1 at *
      clear hS1 hR1
      go_upto_region 9 with fail
      have H8 := hid ((H0.out.new hM #[.int .i64 0, .int .i64 0, .int .i64 0] 34).new hM #[.int .i64 0, .int .i64 0, .int .i64 0] 34)
      obtain ⟨b14, hb14⟩ : ∃ b14, wc.heap.size = b14 := ⟨_, rfl⟩
      have HZ : Hid ((wc.alloc (.cells #[.int .i64 0, .int .i64 0, .int .i64 0] 34)).heap.size = b14 + 1) := hid (by rw [sz_al, hb14])
      rw [HZ.out, hb14] at H8
      rw [hb14]
      generalize (wc.alloc (.cells #[.int .i64 0, .int .i64 0, .int .i64 0] 34)).alloc (.cells #[.int .i64 0, .int .i64 0, .int .i64 0] 34) = w8 at *
      clear hb14 HZ H0
      go_upto_if 51 with fail
      obtain ⟨R3, hR3⟩ : ∃ R3, frR S1 sm R1 = R3 := ⟨_, rfl⟩
      obtain ⟨S3, hS3⟩ : ∃ S3, frS S1 sm R1 = S3 := ⟨_, rfl⟩
      rw [hR3, hS3] at HVV
      rw [hS3] at HE3 HVS
      have HR3 := hid hR3
      have HS3 := hid hS3
      clear hR3 hS3
      go_cut [] from 52 to 67 (fun wx => Gy Pm W.heap.size (fun _ => False) W w2 wx p b S3 S3 [(b14 + 1, .cells (wdV R3) 34 (0, 0)), (b14, .cells (wdV R3) 34 (0, 0)), (b13, .cells (wdV R1) 34 (0, 0)), (b12, .cells (wdV R1) 34 (0, 0)), (b10, .cells (paC p b (.slice none 0 0) (.slice none 0 0)) 28 (0, 0))])
      case first =>
        cases sm
        · rw [HR3.out, HS3.out] at HFP
          rw [HS3.out, HR3.out] at HFY
          go_upto_region 11 with fail
          have G0 := hid (H8.out.self hM ((Below.refl _ w8).drew))
          refine wp_region_noPanic ?_
          refine wp_region_held_drew (S := fun w' => w'.heap[b10]? = some (.cells (paC p b (.slice none 0 0) (.slice none 0 0)) 28 (0, 0)) ∧ w'.heap[b12]? = some (.cells (wdV R1) 34 (0, 0)) ∧ w'.heap[b13]? = some (.cells (wdV R1) 34 (0, 0))) (by kernel_rfl) (⟨G0.out.bl 4 rfl, G0.out.bl 3 rfl, G0.out.bl 2 rfl⟩) (fun h0 => ?_)
          generalize w8.drew = y0 at *
          refine wpAnyH_take (i := 0) (v := .pointer (some ⟨b10, 0, none⟩)) rfl (by kernel_rfl) (by kernel_rfl) (by kernel_rfl) (fun _ _ _ h => h) (.inl ⟨by rfl, fun w hw => by clear hw; go_simp⟩) h0 ?_
          try simp only [Act.put, lay_out]
          refine wpAnyH_take (i := 1) (v := .pointer (some ⟨p, 0, none⟩)) rfl (by kernel_rfl) (by kernel_rfl) (by kernel_rfl) (fun _ _ _ h => h) (.inl ⟨by rfl, fun w' hw => by have hc := row_c (i := 0) (u := .pointer (some ⟨p, 0, none⟩)) hw.1 rfl; clear hw; go_simp⟩) h0 ?_
          try simp only [Act.put, lay_out]
          refine wpAnyH_take (i := 2) (v := .agg (wdV R1)) rfl (by kernel_rfl) (by kernel_rfl) (by kernel_rfl) (fun _ _ _ h => h) (yields_load_row (by rfl) 34 _ rfl b12 34 (wdV R1) _ rfl (fun w h => h.2.1) Tryd.underlying34 rfl (by kernel_rfl)) h0 ?_
          try simp only [Act.put, lay_out]
          refine wpAnyH_take (i := 4) (v := .pointer (some ⟨b10, 1, none⟩)) rfl (by kernel_rfl) (by kernel_rfl) (by kernel_rfl) (fun _ _ _ h => h) (.inl ⟨by rfl, fun w hw => by clear hw; go_simp⟩) h0 ?_
          try simp only [Act.put, lay_out]
          refine wpAnyH_take (i := 5) (v := .pointer (some ⟨b, 0, none⟩)) rfl (by kernel_rfl) (by kernel_rfl) (by kernel_rfl) (fun _ _ _ h => h) (.inl ⟨by rfl, fun w' hw => by have hc := row_c (i := 1) (u := .pointer (some ⟨b, 0, none⟩)) hw.1 rfl; clear hw; go_simp⟩) h0 ?_
          try simp only [Act.put, lay_out]
          refine wpAnyH_take (i := 6) (v := .agg (wdV R1)) rfl (by kernel_rfl) (by kernel_rfl) (by kernel_rfl) (fun _ _ _ h => h) (yields_load_row (by rfl) 34 _ rfl b13 34 (wdV R1) _ rfl (fun w h => h.2.2) Tryd.underlying34 rfl (by kernel_rfl)) h0 ?_
          try simp only [Act.put, lay_out]
          refine wpAnyH_ready (rs := [3]) (by kernel_rfl) (by simp) (AllReadyH.cons rfl (fun K hK => ?_) AllReadyH.nil)
          rw [if_pos (by rfl)]
          go_simp
          go_at_call 12
          (with_reducible refine (HFP.out _ _ G0.out).mono ?_); rintro e y1 ⟨rfl, hz⟩
          have G1 := hid hz
          clear hz
          refine hK.out _ _ (⟨G1.out.bl 4 rfl, G1.out.bl 3 rfl, G1.out.bl 2 rfl⟩) (fun h1x => ?_)
          clear hK K
          try simp only [Act.put, lay_out]
          refine wpAnyH_ready (rs := [7]) (by kernel_rfl) (by simp) (AllReadyH.cons rfl (fun K hK => ?_) AllReadyH.nil)
          rw [if_pos (by rfl)]
          go_simp
          go_at_call 13
          (with_reducible refine (HFY.out _ _ G1.out).mono ?_); rintro e y2 ⟨rfl, hz⟩
          have G2 := hid hz
          clear hz
          refine hK.out _ _ (⟨G2.out.bl 4 rfl, G2.out.bl 3 rfl, G2.out.bl 2 rfl⟩) (fun h2x => ?_)
          clear hK K
          try simp only [Act.put, lay_out]
          have G3 := hid G2.out.swap
          refine wpAnyH_ready (rs := [8]) (by kernel_rfl) (by simp) (AllReadyH.cons rfl (fun K hK => ?_) AllReadyH.nil)
          rw [if_pos (by rfl)]
          refine wp_store_row 34 _ _ rfl (b14) (wdV R3) rfl rfl 34 _ (G3.out.bl 0 rfl) (by kernel_rfl) rfl (by kernel_rfl) ?_
          have G4 := hid ((G3.out.row hM (wdV R3)).swap)
          refine hK.out _ _ (⟨G4.out.bl 4 rfl, G4.out.bl 3 rfl, G4.out.bl 2 rfl⟩) (fun h3x => ?_)
          clear hK K
          try simp only [Act.put, lay_out]
          refine wpAnyH_ready (rs := [9]) (by kernel_rfl) (by simp) (AllReadyH.cons rfl (fun K hK => ?_) AllReadyH.nil)
          rw [if_pos (by rfl)]
          refine wp_store_row 34 _ _ rfl (b14 + 1) (wdV R3) rfl rfl 34 _ (G4.out.bl 0 rfl) (by kernel_rfl) rfl (by kernel_rfl) ?_
          have G5 := hid (G4.out.row hM (wdV R3))
          refine hK.out _ _ (⟨G5.out.bl 4 rfl, G5.out.bl 3 rfl, G5.out.bl 2 rfl⟩) (fun h4x => ?_)
          clear hK K
          try simp only [Act.put, lay_out]
          refine wpAnyH_done (by kernel_rfl) ?_ _
          refine NoPanic.normal ?_
          clear h0 h1x h2x h3x h4x
          try simp only [Act.put, lay_out]
          go_wp2_with fail
          go_meet
          exact G5.out
        · rw [HR3.out, HS3.out] at HSP
          rw [HS3.out, HR3.out] at HSY
          go_upto_region 10 with fail
          have G0 := hid (H8.out.self hM ((Below.refl _ w8).drew))
          refine wp_region_noPanic ?_
          refine wp_region_held_drew (S := fun w' => w'.heap[b10]? = some (.cells (paC p b (.slice none 0 0) (.slice none 0 0)) 28 (0, 0)) ∧ w'.heap[b12]? = some (.cells (wdV R1) 34 (0, 0)) ∧ w'.heap[b13]? = some (.cells (wdV R1) 34 (0, 0))) (by kernel_rfl) (⟨G0.out.bl 4 rfl, G0.out.bl 3 rfl, G0.out.bl 2 rfl⟩) (fun h0 => ?_)
          generalize w8.drew = y0 at *
          refine wpAnyH_take (i := 0) (v := .pointer (some ⟨b10, 0, none⟩)) rfl (by kernel_rfl) (by kernel_rfl) (by kernel_rfl) (fun _ _ _ h => h) (.inl ⟨by rfl, fun w hw => by clear hw; go_simp⟩) h0 ?_
          try simp only [Act.put, lay_out]
          refine wpAnyH_take (i := 1) (v := .pointer (some ⟨p, 0, none⟩)) rfl (by kernel_rfl) (by kernel_rfl) (by kernel_rfl) (fun _ _ _ h => h) (.inl ⟨by rfl, fun w' hw => by have hc := row_c (i := 0) (u := .pointer (some ⟨p, 0, none⟩)) hw.1 rfl; clear hw; go_simp⟩) h0 ?_
          try simp only [Act.put, lay_out]
          refine wpAnyH_take (i := 2) (v := .agg (wdV R1)) rfl (by kernel_rfl) (by kernel_rfl) (by kernel_rfl) (fun _ _ _ h => h) (yields_load_row (by rfl) 34 _ rfl b12 34 (wdV R1) _ rfl (fun w h => h.2.1) Tryd.underlying34 rfl (by kernel_rfl)) h0 ?_
          try simp only [Act.put, lay_out]
          refine wpAnyH_take (i := 4) (v := .pointer (some ⟨b10, 1, none⟩)) rfl (by kernel_rfl) (by kernel_rfl) (by kernel_rfl) (fun _ _ _ h => h) (.inl ⟨by rfl, fun w hw => by clear hw; go_simp⟩) h0 ?_
          try simp only [Act.put, lay_out]
          refine wpAnyH_take (i := 5) (v := .pointer (some ⟨b, 0, none⟩)) rfl (by kernel_rfl) (by kernel_rfl) (by kernel_rfl) (fun _ _ _ h => h) (.inl ⟨by rfl, fun w' hw => by have hc := row_c (i := 1) (u := .pointer (some ⟨b, 0, none⟩)) hw.1 rfl; clear hw; go_simp⟩) h0 ?_
          try simp only [Act.put, lay_out]
          refine wpAnyH_take (i := 6) (v := .agg (wdV R1)) rfl (by kernel_rfl) (by kernel_rfl) (by kernel_rfl) (fun _ _ _ h => h) (yields_load_row (by rfl) 34 _ rfl b13 34 (wdV R1) _ rfl (fun w h => h.2.2) Tryd.underlying34 rfl (by kernel_rfl)) h0 ?_
          try simp only [Act.put, lay_out]
          refine wpAnyH_ready (rs := [3]) (by kernel_rfl) (by simp) (AllReadyH.cons rfl (fun K hK => ?_) AllReadyH.nil)
          rw [if_pos (by rfl)]
          go_simp
          go_at_call 10
          (with_reducible refine (HSP.out _ _ G0.out).mono ?_); rintro e y1 ⟨rfl, hz⟩
          have G1 := hid hz
          clear hz
          refine hK.out _ _ (⟨G1.out.bl 4 rfl, G1.out.bl 3 rfl, G1.out.bl 2 rfl⟩) (fun h1x => ?_)
          clear hK K
          try simp only [Act.put, lay_out]
          refine wpAnyH_ready (rs := [7]) (by kernel_rfl) (by simp) (AllReadyH.cons rfl (fun K hK => ?_) AllReadyH.nil)
          rw [if_pos (by rfl)]
          go_simp
          go_at_call 11
          (with_reducible refine (HSY.out _ _ G1.out).mono ?_); rintro e y2 ⟨rfl, hz⟩
          have G2 := hid hz
          clear hz
          refine hK.out _ _ (⟨G2.out.bl 4 rfl, G2.out.bl 3 rfl, G2.out.bl 2 rfl⟩) (fun h2x => ?_)
          clear hK K
          try simp only [Act.put, lay_out]
          have G3 := hid G2.out.swap
          refine wpAnyH_ready (rs := [8]) (by kernel_rfl) (by simp) (AllReadyH.cons rfl (fun K hK => ?_) AllReadyH.nil)
          rw [if_pos (by rfl)]
          refine wp_store_row 34 _ _ rfl (b14) (wdV R3) rfl rfl 34 _ (G3.out.bl 0 rfl) (by kernel_rfl) rfl (by kernel_rfl) ?_
          have G4 := hid ((G3.out.row hM (wdV R3)).swap)
          refine hK.out _ _ (⟨G4.out.bl 4 rfl, G4.out.bl 3 rfl, G4.out.bl 2 rfl⟩) (fun h3x => ?_)
          clear hK K
          try simp only [Act.put, lay_out]
          refine wpAnyH_ready (rs := [9]) (by kernel_rfl) (by simp) (AllReadyH.cons rfl (fun K hK => ?_) AllReadyH.nil)
          rw [if_pos (by rfl)]
          refine wp_store_row 34 _ _ rfl (b14 + 1) (wdV R3) rfl rfl 34 _ (G4.out.bl 0 rfl) (by kernel_rfl) rfl (by kernel_rfl) ?_
          have G5 := hid (G4.out.row hM (wdV R3))
          refine hK.out _ _ (⟨G5.out.bl 4 rfl, G5.out.bl 3 rfl, G5.out.bl 2 rfl⟩) (fun h4x => ?_)
          clear hK K
          try simp only [Act.put, lay_out]
          refine wpAnyH_done (by kernel_rfl) ?_ _
          refine NoPanic.normal ?_
          clear h0 h1x h2x h3x h4x
          try simp only [Act.put, lay_out]
          go_wp2_with fail
          go_meet
          exact G5.out
      case rest =>
        have H0 := hid hcut
        clear hcut H8 HSP HFP HSY HFY HR3 HS3
        obtain ⟨wd, hwd⟩ : ∃ wd, wc = wd := ⟨_, rfl⟩
        subst hwd
        go_wp2_with (refine step_load_row_want (by rfl) 34 _ rfl b12 34 (wdV R1) _ rfl (H0.out.bl 3 rfl) Tryd.underlying34 rfl (by kernel_rfl) ?_; refine Hid.out ?_)
        refine hid ?_
        try simp only [Act.put, lay_out]
        refine step_load_row_want (by rfl) 34 _ rfl b13 34 (wdV R1) _ rfl (H0.out.bl 2 rfl) Tryd.underlying34 rfl (by kernel_rfl) ?_
        try simp only [Act.put, lay_out]
        refine wpList_neWd (by rfl) (.tmp 68) (.tmp 69) rfl R1 rfl rfl ?_
        try simp only [Act.put, lay_out]
        go_wp2_with (refine step_load_row_want (by rfl) 34 _ rfl b14 34 (wdV R3) _ rfl (H0.out.bl 1 rfl) Tryd.underlying34 rfl (by kernel_rfl) ?_; refine Hid.out ?_)
        refine hid ?_
        try simp only [Act.put, lay_out]
        refine step_load_row_want (by rfl) 34 _ rfl (b14 + 1) 34 (wdV R3) _ rfl (H0.out.bl 0 rfl) Tryd.underlying34 rfl (by kernel_rfl) ?_
        try simp only [Act.put, lay_out]
        refine wpList_neWd (by rfl) (.tmp 72) (.tmp 73) rfl R3 rfl rfl ?_
        try simp only [Act.put, lay_out]
        go_wp2_with (refine step_load_row_want (by rfl) 28 _ rfl b10 28 (paC p b (.slice none 0 0) (.slice none 0 0)) _ rfl (H0.out.bl 4 rfl) Tryd.underlying28 rfl (by kernel_rfl) ?_; refine Hid.out ?_)
        refine hid ?_
        try simp only [Act.put, lay_out]
        go_upto_region 14 with (go_at_call 14; (with_reducible refine (HE3.out _ _ H0.out).mono ?_); rintro e w9 ⟨rfl, hb⟩; have H9 := hid hb; clear hb)
        have HP9 := hid (HPV.out.bz HL0.out H9.out.z)
        have HC7 : Hid (w9.cell? ⟨b, 7, none⟩ = some (.int .i64 (S3.e : Int))) := hid H9.out.z.c0.2.2.1
        by_cases he : S3.e = 0
        · rw [he] at HC7
          have HE0 := hid he
          clear he HE3
          have H10 := hid (H9.out.self hM ((Below.refl _ w9).drew))
          have HC8 : Hid (w9.drew.cell? ⟨b, 7, none⟩ = _) := hid (HC7.out)
          refine wp_region_noPanic ?_
          refine wp_region_held_drew (S := fun w' => w'.heap[b10]? = some (.cells (paC p b (.slice none 0 0) (.slice none 0 0)) 28 (0, 0)) ∧ w'.heap[b14]? = some (.cells (wdV R3) 34 (0, 0)) ∧ w'.cell? ⟨b, 7, none⟩ = some (.int .i64 0)) (by kernel_rfl) (⟨H10.out.bl 4 rfl, H10.out.bl 1 rfl, HC8.out⟩) (fun h0 => ?_)
          generalize w9.drew = y0 at *
          refine wpAnyH_take (i := 0) (v := .pointer (some ⟨b10, 1, none⟩)) rfl (by kernel_rfl) (by kernel_rfl) (by kernel_rfl) (fun _ _ _ h => h) (.inl ⟨by rfl, fun w hw => by clear hw; go_simp⟩) h0 ?_
          try simp only [Act.put, lay_out]
          refine wpAnyH_take (i := 1) (v := .pointer (some ⟨b, 0, none⟩)) rfl (by kernel_rfl) (by kernel_rfl) (by kernel_rfl) (fun _ _ _ h => h) (.inl ⟨by rfl, fun w' hw => by have hc := row_c (i := 1) (u := .pointer (some ⟨b, 0, none⟩)) hw.1 rfl; clear hw; go_simp⟩) h0 ?_
          try simp only [Act.put, lay_out]
          refine wpAnyH_take (i := 2) (v := .pointer (some ⟨b, 0, none⟩)) rfl (by kernel_rfl) (by kernel_rfl) (by kernel_rfl) (fun _ _ _ h => h) (.inl ⟨by rfl, fun w hw => by clear hw; go_simp⟩) h0 ?_
          try simp only [Act.put, lay_out]
          refine wpAnyH_take (i := 3) (v := .pointer (some ⟨b, 7, none⟩)) rfl (by kernel_rfl) (by kernel_rfl) (by kernel_rfl) (fun _ _ _ h => h) (.inl ⟨by rfl, fun w hw => by clear hw; go_simp⟩) h0 ?_
          try simp only [Act.put, lay_out]
          refine wpAnyH_take (i := 4) (v := .int .i64 0) rfl (by kernel_rfl) (by kernel_rfl) (by kernel_rfl) (fun _ _ _ h => h) (.inl ⟨by rfl, fun w' hw => by have hc := hw.2.2; clear hw; go_simp⟩) h0 ?_
          try simp only [Act.put, lay_out]
          refine wpAnyH_take (i := 5) (v := .bool false) rfl (by kernel_rfl) (by kernel_rfl) (by kernel_rfl) (fun _ _ _ h => h) (.inl ⟨by rfl, fun w hw => by clear hw; go_simp⟩) h0 ?_
          try simp only [Act.put, lay_out]
          refine wpAnyH_take (i := 6) (v := .bool false) rfl (by kernel_rfl) (by kernel_rfl) (by kernel_rfl) (fun _ _ _ h => h) (.inl ⟨by rfl, fun w hw => by clear hw; go_simp⟩) h0 ?_
          try simp only [Act.put, lay_out]
          refine wpAnyH_take (i := 7) (v := .pointer (some ⟨b10, 0, none⟩)) rfl (by kernel_rfl) (by kernel_rfl) (by kernel_rfl) (fun _ _ _ h => h) (.inl ⟨by rfl, fun w hw => by clear hw; go_simp⟩) h0 ?_
          try simp only [Act.put, lay_out]
          refine wpAnyH_take (i := 8) (v := .pointer (some ⟨p, 0, none⟩)) rfl (by kernel_rfl) (by kernel_rfl) (by kernel_rfl) (fun _ _ _ h => h) (.inl ⟨by rfl, fun w' hw => by have hc := row_c (i := 0) (u := .pointer (some ⟨p, 0, none⟩)) hw.1 rfl; clear hw; go_simp⟩) h0 ?_
          try simp only [Act.put, lay_out]
          refine wpAnyH_take (i := 10) (v := .agg (wdV R3)) rfl (by kernel_rfl) (by kernel_rfl) (by kernel_rfl) (fun _ _ _ h => h) (yields_load_row (by rfl) 34 _ rfl b14 34 (wdV R3) _ rfl (fun w h => h.2.1) Tryd.underlying34 rfl (by kernel_rfl)) h0 ?_
          try simp only [Act.put, lay_out]
          refine wpAnyH_take (i := 12) (v := .int .u64 (x : Int)) rfl (by kernel_rfl) (by kernel_rfl) (by kernel_rfl) (fun _ _ _ h => h) (.inl ⟨by rfl, fun w hw => by clear hw; go_simp⟩) h0 ?_
          try simp only [Act.put, lay_out]
          refine wpAnyH_ready (rs := [9]) (by kernel_rfl) (by simp) (AllReadyH.cons rfl (fun K hK => ?_) AllReadyH.nil)
          rw [if_pos (by rfl)]
          go_simp
          go_at_call 16
          (with_reducible refine (HVS.out _ _ H10.out).mono ?_); rintro e y1 ⟨⟨v, rfl, hv⟩, hb⟩
          have H11 := hid hb
          have V11 := hid hv
          have HC9 := hid (show y1.cell? ⟨b, 7, none⟩ = some (.int .i64 0) by have := H11.out.z.c0.2.2.1; rw [HE0.out] at this; exact this)
          clear hb hv
          refine hK.out _ _ (⟨H11.out.bl 4 rfl, H11.out.bl 1 rfl, HC9.out⟩) (fun h1x => ?_)
          clear hK K
          try simp only [Act.put, lay_out]
          refine wpAnyH_ready (rs := [11]) (by kernel_rfl) (by simp) (AllReadyH.cons rfl (fun K hK => ?_) AllReadyH.nil)
          rw [if_pos (by rfl)]
          go_simp
          go_at_call 15
          (with_reducible refine (HVV.out _ _ HE0.out V11.out).mono ?_); rintro e y2 ⟨rfl, hb⟩
          have H12 := hid (H11.out.self hM hb)
          have HC10 := hid (show y2.cell? ⟨b, 7, none⟩ = some (.int .i64 0) by have := H12.out.z.c0.2.2.1; rw [HE0.out] at this; exact this)
          clear hb
          refine hK.out _ _ (⟨H12.out.bl 4 rfl, H12.out.bl 1 rfl, HC10.out⟩) (fun h2x => ?_)
          clear hK K
          try simp only [Act.put, lay_out]
          refine wpAnyH_take (i := 13) (v := .bool true) rfl (by kernel_rfl) (by kernel_rfl) (by kernel_rfl) (fun _ _ _ h => h) (.inl ⟨by rfl, fun w hw => by clear hw; go_simp⟩) h2x ?_
          try simp only [Act.put, lay_out]
          refine wpAnyH_take (i := 14) (v := .bool true) rfl (by kernel_rfl) (by kernel_rfl) (by kernel_rfl) (fun _ _ _ h => h) (.inl ⟨by rfl, fun w hw => by clear hw; go_simp⟩) h2x ?_
          try simp only [Act.put, lay_out]
          refine wpAnyH_take (i := 15) (v := .bool true) rfl (by kernel_rfl) (by kernel_rfl) (by kernel_rfl) (fun _ _ _ h => h) (.inl ⟨by rfl, fun w hw => by clear hw; go_simp⟩) h2x ?_
          try simp only [Act.put, lay_out]
          have HP12 := hid (HPV.out.bz HL0.out H12.out.z)
          refine wpAnyH_ready (rs := [16]) (by kernel_rfl) (by simp) (AllReadyH.cons rfl (fun K hK => ?_) AllReadyH.nil)
          rw [if_pos (by rfl)]
          go_simp
          go_at_call 17
          (with_reducible refine (HAW.out _ HP12.out).mono ?_); rintro e y3 ⟨rfl, hb⟩
          have H13 := hid (H12.out.self hM hb)
          have HC11 := hid (show y3.cell? ⟨b, 7, none⟩ = some (.int .i64 0) by have := H13.out.z.c0.2.2.1; rw [HE0.out] at this; exact this)
          clear hb
          refine hK.out _ _ (⟨H13.out.bl 4 rfl, H13.out.bl 1 rfl, HC11.out⟩) (fun h3x => ?_)
          clear hK K
          try simp only [Act.put, lay_out]
          refine wpAnyH_take (i := 17) (v := .bool true) rfl (by kernel_rfl) (by kernel_rfl) (by kernel_rfl) (fun _ _ _ h => h) (.inl ⟨by rfl, fun w hw => by clear hw; go_simp⟩) h3x ?_
          try simp only [Act.put, lay_out]
          refine wpAnyH_take (i := 18) (v := .bool true) rfl (by kernel_rfl) (by kernel_rfl) (by kernel_rfl) (fun _ _ _ h => h) (.inl ⟨by rfl, fun w hw => by clear hw; go_simp⟩) h3x ?_
          try simp only [Act.put, lay_out]
          refine wpAnyH_done (by kernel_rfl) ?_ _
          refine NoPanic.normal ?_
          clear h0 h1x h2x h3x
          try simp only [Act.put, lay_out]
          go_wp2
          go_ret
          exact ⟨rfl, H13.out.fin.1.low⟩
        · have q : ((S3.e : Int) != 0) = true := by simp; omega
          clear he HE3 HVV HVS
          generalize S3.e = E at *
          have H10 := hid (H9.out.self hM ((Below.refl _ w9).drew))
          have HC8 : Hid (w9.drew.cell? ⟨b, 7, none⟩ = _) := hid (HC7.out)
          refine wp_region_noPanic ?_
          refine wp_region_held_drew (S := fun w' => w'.heap[b10]? = some (.cells (paC p b (.slice none 0 0) (.slice none 0 0)) 28 (0, 0)) ∧ w'.heap[b14]? = some (.cells (wdV R3) 34 (0, 0)) ∧ w'.cell? ⟨b, 7, none⟩ = some (.int .i64 (E : Int))) (by kernel_rfl) (⟨H10.out.bl 4 rfl, H10.out.bl 1 rfl, HC8.out⟩) (fun h0 => ?_)
          generalize w9.drew = y0 at *
          refine wpAnyH_take (i := 0) (v := .pointer (some ⟨b10, 1, none⟩)) rfl (by kernel_rfl) (by kernel_rfl) (by kernel_rfl) (fun _ _ _ h => h) (.inl ⟨by rfl, fun w hw => by clear hw; go_simp⟩) h0 ?_
          try simp only [Act.put, lay_out]
          refine wpAnyH_take (i := 1) (v := .pointer (some ⟨b, 0, none⟩)) rfl (by kernel_rfl) (by kernel_rfl) (by kernel_rfl) (fun _ _ _ h => h) (.inl ⟨by rfl, fun w' hw => by have hc := row_c (i := 1) (u := .pointer (some ⟨b, 0, none⟩)) hw.1 rfl; clear hw; go_simp⟩) h0 ?_
          try simp only [Act.put, lay_out]
          refine wpAnyH_take (i := 2) (v := .pointer (some ⟨b, 0, none⟩)) rfl (by kernel_rfl) (by kernel_rfl) (by kernel_rfl) (fun _ _ _ h => h) (.inl ⟨by rfl, fun w hw => by clear hw; go_simp⟩) h0 ?_
          try simp only [Act.put, lay_out]
          refine wpAnyH_take (i := 3) (v := .pointer (some ⟨b, 7, none⟩)) rfl (by kernel_rfl) (by kernel_rfl) (by kernel_rfl) (fun _ _ _ h => h) (.inl ⟨by rfl, fun w hw => by clear hw; go_simp⟩) h0 ?_
          try simp only [Act.put, lay_out]
          refine wpAnyH_take (i := 4) (v := .int .i64 (E : Int)) rfl (by kernel_rfl) (by kernel_rfl) (by kernel_rfl) (fun _ _ _ h => h) (.inl ⟨by rfl, fun w' hw => by have hc := hw.2.2; clear hw; go_simp⟩) h0 ?_
          try simp only [Act.put, lay_out]
          refine wpAnyH_take (i := 5) (v := .bool true) rfl (by kernel_rfl) (by kernel_rfl) (by kernel_rfl) (fun _ _ _ h => h) (.inl ⟨by rfl, fun w hw => by clear hw; go_simp⟩) h0 ?_
          try simp only [Act.put, lay_out]
          refine wpAnyH_take (i := 6) (v := .bool true) rfl (by kernel_rfl) (by kernel_rfl) (by kernel_rfl) (fun _ _ _ h => h) (.inl ⟨by rfl, fun w hw => by clear hw; go_simp⟩) h0 ?_
          try simp only [Act.put, lay_out]
          refine wpAnyH_take (i := 7) (v := undef) rfl (by kernel_rfl) (by kernel_rfl) (by kernel_rfl) (fun _ _ _ h => h) (.inr ⟨by rfl, by rfl⟩) h0 ?_
          try simp only [Act.put, lay_out]
          refine wpAnyH_take (i := 8) (v := undef) rfl (by kernel_rfl) (by kernel_rfl) (by kernel_rfl) (fun _ _ _ h => h) (.inr ⟨by rfl, by rfl⟩) h0 ?_
          try simp only [Act.put, lay_out]
          refine wpAnyH_take (i := 9) (v := undef) rfl (by kernel_rfl) (by kernel_rfl) (by kernel_rfl) (fun _ _ _ h => h) (.inr ⟨by rfl, by rfl⟩) h0 ?_
          try simp only [Act.put, lay_out]
          refine wpAnyH_take (i := 10) (v := undef) rfl (by kernel_rfl) (by kernel_rfl) (by kernel_rfl) (fun _ _ _ h => h) (.inr ⟨by rfl, by rfl⟩) h0 ?_
          try simp only [Act.put, lay_out]
          refine wpAnyH_take (i := 11) (v := undef) rfl (by kernel_rfl) (by kernel_rfl) (by kernel_rfl) (fun _ _ _ h => h) (.inr ⟨by rfl, by rfl⟩) h0 ?_
          try simp only [Act.put, lay_out]
          refine wpAnyH_take (i := 12) (v := undef) rfl (by kernel_rfl) (by kernel_rfl) (by kernel_rfl) (fun _ _ _ h => h) (.inr ⟨by rfl, by rfl⟩) h0 ?_
          try simp only [Act.put, lay_out]
          refine wpAnyH_take (i := 13) (v := undef) rfl (by kernel_rfl) (by kernel_rfl) (by kernel_rfl) (fun _ _ _ h => h) (.inr ⟨by rfl, by rfl⟩) h0 ?_
          try simp only [Act.put, lay_out]
          refine wpAnyH_take (i := 14) (v := .bool true) rfl (by kernel_rfl) (by kernel_rfl) (by kernel_rfl) (fun _ _ _ h => h) (.inl ⟨by rfl, fun w hw => by clear hw; go_simp⟩) h0 ?_
          try simp only [Act.put, lay_out]
          refine wpAnyH_take (i := 15) (v := .bool true) rfl (by kernel_rfl) (by kernel_rfl) (by kernel_rfl) (fun _ _ _ h => h) (.inl ⟨by rfl, fun w hw => by clear hw; go_simp⟩) h0 ?_
          try simp only [Act.put, lay_out]
          have HP10 := hid (HPV.out.bz HL0.out H10.out.z)
          refine wpAnyH_ready (rs := [16]) (by kernel_rfl) (by simp) (AllReadyH.cons rfl (fun K hK => ?_) AllReadyH.nil)
          rw [if_pos (by rfl)]
          go_simp
          go_at_call 17
          (with_reducible refine (HAW.out _ HP10.out).mono ?_); rintro e y3 ⟨rfl, hb⟩
          have H11 := hid (H10.out.self hM hb)
          have HC11 := hid (tcell_self HC8.out hb)
          clear hb
          refine hK.out _ _ (⟨H11.out.bl 4 rfl, H11.out.bl 1 rfl, HC11.out⟩) (fun h1x => ?_)
          clear hK K
          try simp only [Act.put, lay_out]
          refine wpAnyH_take (i := 17) (v := .bool true) rfl (by kernel_rfl) (by kernel_rfl) (by kernel_rfl) (fun _ _ _ h => h) (.inl ⟨by rfl, fun w hw => by clear hw; go_simp⟩) h1x ?_
          try simp only [Act.put, lay_out]
          refine wpAnyH_take (i := 18) (v := .bool true) rfl (by kernel_rfl) (by kernel_rfl) (by kernel_rfl) (fun _ _ _ h => h) (.inl ⟨by rfl, fun w hw => by clear hw; go_simp⟩) h1x ?_
          try simp only [Act.put, lay_out]
          refine wpAnyH_done (by kernel_rfl) ?_ _
          refine NoPanic.normal ?_
          clear h0 h1x
          try simp only [Act.put, lay_out]
          go_wp2
          go_ret
          exact ⟨rfl, H11.out.fin.1.low⟩
end Go.Proofs.YtinihebnajaejaaDoor
