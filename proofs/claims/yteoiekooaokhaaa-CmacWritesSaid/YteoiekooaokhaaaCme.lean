import Derived.Test.YteoiekooaokhaaaProg
import Derived.Test.YteoiekooaokhaaaCmd
/- tagOf, Sum. -/
namespace Go.Proofs.Yteoiekooaokhaaa
open Go.RowKit
set_option maxRecDepth 100000

/-- tagOf at its end: x what the blocks came to, in its variable; the last block's row and the mask. -/
structure Tz (w wr : World) (d b c cap R R1 : Nat) (Y : Nat → Nat → Nat) (x y m : Nat → Nat) (yv mv : Value) : Prop where
  base : Gc w d b c cap R R1 Y
  gc : Gc wr d b c cap R R1 Y
  low : Only b w wr
  var : At wr w.heap.size 16 39 x
  last : Rd .u8 wr yv (ns 16 y)
  mask : Rd .u8 wr mv (ns 16 m)
section
variable {w wr w1 : World} {d b c cap R R1 : Nat} {Y : Nat → Nat → Nat} {x y m : Nat → Nat} {yv mv : Value}
theorem Tz.self (h : Tz w wr d b c cap R R1 Y x y m yv mv) (hb : Below wr.heap.size wr w1) : Tz w w1 d b c cap R R1 Y x y m yv mv :=
  ⟨h.base, h.gc.self hb, h.low.trans (Only.of_below hb), h.var.self hb, h.last.self hb, h.mask.self hb⟩
theorem Tz.drew (h : Tz w wr d b c cap R R1 Y x y m yv mv) : Tz w wr.drew d b c cap R R1 Y x y m yv mv := h.self (Below.refl _ _).drew
end
/-- What is told at tagOf's end. -/
structure Te (w wr : World) (d b c cap R R1 : Nat) (Y : Nat → Nat → Nat) (g : Nat) (z : Nat → Nat) : Prop where
  gc : Gc wr d b c cap R R1 Y
  low : Only b w wr
  tag : At wr g 16 39 z
  new : w.heap.size ≤ g
theorem Te.row {w wr : World} {d b c cap R R1 g : Nat} {Y : Nat → Nat → Nat} {z z' : Nat → Nat} (h : Gc w d b c cap R R1 Y) (hg : Gc wr d b c cap R R1 Y) (o : Only b w wr) (ha : At wr g 16 39 z) (hn : w.heap.size ≤ g) : Te w (wr.setRow g (ba 16 z')) d b c cap R R1 Y g z' :=
  ⟨(h.row hg o hn _).1, (h.row hg o hn _).2, ha.row z', hn⟩
theorem at_asked {w w' : World} {b g : Nat} {z : Nat → Nat} (h : At w g 16 39 z) (o : Only b w w') (hg : g ≠ b) : At w' g 16 39 z := (o.block _ h.lt hg).trans h

set_option maxHeartbeats 6400000 in
theorem tagOf_short (d b c cap R R1 M e n : Nat) (Y : Nat → Nat → Nat) (s δ : Nat → Nat) (a : Option Addr) (w : World) (h : Gc w d b c cap R R1 Y) (hs : B16 s) (hδ : ∀ j, j < M → δ j < 256) (hM : M ≤ e) (hv : Kept b w (.slice a M e) (ns M δ)) (hn : M - 16 * bkN M = n) (hn2 : n < 16) :
    Calls Try.prog 29 #[.pointer (some ⟨d, 0, none⟩), .agg (ba 16 s), .slice a M e] w fun x w' => ∃ g, x = .returned (.slice (some ⟨g, 0, none⟩) 16 16) ∧ Te w w' d b c cap R R1 Y g (tagF Y R s M δ) := by
  have hlow : Below w.heap.size w (w.alloc (.cells (ba 16 s) 39)) := (Below.refl _ _).alloc (Nat.le_refl _) _
  have HA := hid (At.new w 16 39 s)
  have HLW := hid hlow
  have HG0 := hid h
  have hT := through_any d b c cap R R1 M e Y s δ a w (w.alloc (.cells (ba 16 s) 39)) (Only.of_below hlow) (h.self hlow) hs hδ hM hv
  rw [hn] at hT
  have HT := hid hT
  have HXB : Hid (B16 (cbF Y R s δ (bkN M))) := hid (cbF_b h.yb hs _ fun j hj => hδ j (Nat.lt_of_lt_of_le hj (bkN_le M)))
  have HLB : Hid (∀ j, j < n → (fun j => δ (16 * bkN M + j)) j < 256) := hid (fun j hj => hδ _ (by have := bkN_le M; omega))
  have HMB : Hid (B16 (m2F Y R)) := hid (m2F_b h.yb)
  have HZ : Hid (blkF Y R (xorF (cbF Y R s δ (bkN M)) (xorF (padF n (fun j => δ (16 * bkN M + j))) (m2F Y R))) = tagF Y R s M δ) := hid (by
    unfold tagF endF
    rw [hn, if_pos hn2])
  have HYB : Hid (B16 (padF n (fun j => δ (16 * bkN M + j)))) := hid (fun j _ => padF_b HLB.out j)
  have HLT := hid h.lt
  have hn3 : (n : Int) < 16 := by omega
  have HN2 := hid hn2
  clear h hs hδ hM hv hn hT hlow hn2
  generalize cbF Y R s δ (bkN M) = x at *
  generalize (fun j => δ (16 * bkN M + j)) = l at *
  generalize hy : padF n l = y at *
  have HY := hid hy
  clear hy
  generalize tagF Y R s M δ = z at *
  have HMM := hid (fun W (hW : Gc W d b c cap R R1 Y) => masks_any d b c cap R R1 Y W hW)
  generalize m2F Y R = m at *
  have HYM := hid (xorF_16 HYB.out HMB.out)
  go_enter Try.func29, Try.ntmps29
  go_wp2_with (first
    | (refine step_load_ba rfl 39 _ rfl w.heap.size 16 39 5 s rfl HA.out Try.underlying39 infoa ?_)
    | (go_at_call 39; (with_reducible refine HT.out.mono ?_); rintro q w2 ⟨a', rfl, hk, hg, ho⟩
       have HK2 := hid hk
       have HG2 := hid hg
       have HA2 := hid (at_asked HA.out ho (by have := HLT.out; omega))
       have HO2 := hid ((Only.of_below HLW.out).trans ho)
       clear hk hg ho)
    | (refine step_store_ba rfl 39 _ _ rfl w.heap.size 16 39 s x rfl rfl HA2.out infoa ?_
       have HA3 := hid (HA2.out.row x)
       have HG3 := hid (HG0.out.row HG2.out HO2.out (Nat.le_refl _) (ba 16 x))
       generalize w2.setRow w.heap.size (ba 16 x) = w3 at *)
    | (go_at_call 9; (with_reducible refine (HMM.out w3 HG3.out.1).mono ?_); rintro q w4 ⟨g1, c1, g2, c2, rfl, hm1, hm2, hl1, hl2, hg, ho⟩
       have HO4 := hid (HG3.out.2.trans ho)
       have HG4 := hid hg
       have HM4 := hid (hm2.rd c2 (by decide))
       have HA4 := hid (at_asked HA3.out ho (by have := HLT.out; omega))
       clear hm1 hm2 hl1 hl2 hg ho)
    | (go_at_call 47; (with_reducible refine (filled_any a' n l w4 HN2.out ((HK2.out.later HO4.out).rd)).mono ?_); rintro q w5 ⟨gy, cy, rfl, hown, hlow⟩
       rw [HY.out] at hown
       have HT5 : Hid (Tz w w5 d b c cap R R1 Y x y m (.slice (some ⟨gy, 0, none⟩) 16 cy) (.slice (some ⟨g2, 0, none⟩) 16 c2)) := hid ⟨HG0.out, HG4.out.self hlow, HO4.out.trans (Only.of_below hlow), HA4.out.self hlow, (wd_own hown HYB.out).1.rd cy (by decide), HM4.out.self hlow⟩
       clear hown hlow))
  have HT0 := hid HT5.out.drew
  refine wp_region_noPanic ?_
  refine wp_region_held_drew (S := fun w' => At w' w.heap.size 16 39 x) (by kernel_rfl) (HT0.out.var) (fun h0 => ?_)
  generalize w5.drew = wa at *
  refine wpAnyH_take (i := 0) (v := .pointer (some ⟨d, 0, none⟩)) rfl (by kernel_rfl) (by kernel_rfl) (by kernel_rfl) (fun _ _ _ h => h) (.inl ⟨by rfl, fun w hw => by clear hw; go_simp⟩) h0 ?_
  try simp only [Act.put, lay_out]
  refine wpAnyH_take (i := 1) (v := .agg (ba 16 x)) rfl (by kernel_rfl) (by kernel_rfl) (by kernel_rfl) (fun _ _ _ h => h) (yields_load_ba (by rfl) 39 _ rfl w.heap.size 16 39 5 x rfl (fun w h => h) Try.underlying39 infoa) h0 ?_
  try simp only [Act.put, lay_out]
  refine wpAnyH_take (i := 2) (v := .slice (some ⟨gy, 0, none⟩) 16 cy) rfl (by kernel_rfl) (by kernel_rfl) (by kernel_rfl) (fun _ _ _ h => h) (.inl ⟨by rfl, fun w hw => by clear hw; go_simp⟩) h0 ?_
  try simp only [Act.put, lay_out]
  refine wpAnyH_take (i := 3) (v := .slice (some ⟨g2, 0, none⟩) 16 c2) rfl (by kernel_rfl) (by kernel_rfl) (by kernel_rfl) (fun _ _ _ h => h) (.inl ⟨by rfl, fun w hw => by clear hw; go_simp⟩) h0 ?_
  try simp only [Act.put, lay_out]
  refine wpAnyH_ready (rs := [4, 6]) (by kernel_rfl) (by simp) (AllReadyH.cons rfl (fun K hK => ?_) (AllReadyH.cons rfl (fun K hK => ?_) AllReadyH.nil))
  · rw [if_pos (by rfl)]
    go_simp
    go_at_call 48
    (with_reducible refine (xor_16 (.slice (some ⟨gy, 0, none⟩) 16 cy) (.slice (some ⟨g2, 0, none⟩) 16 c2) y m wa HT0.out.last HT0.out.mask HYB.out HMB.out).mono ?_); rintro e wb ⟨gx, cx, rfl, hown, hlow⟩
    have HT1 := hid (HT0.out.self hlow)
    have HWHT1 := hid ((wd_own hown HYM.out).1.rd cx (by decide))
    clear hown hlow
    refine hK.out _ _ (HT1.out.var) (fun h1x => ?_)
    clear hK K
    try simp only [Act.put, lay_out]
    refine wpAnyH_ready (rs := [5, 6]) (by kernel_rfl) (by simp) (AllReadyH.cons rfl (fun K hK => ?_) (AllReadyH.cons rfl (fun K hK => ?_) AllReadyH.nil))
    · rw [if_pos (by rfl)]
      go_simp
      go_at_call 40
      (with_reducible refine (entered_any d b c cap R R1 Y x (xorF y m) _ wb HT1.out.gc HXB.out HYM.out HWHT1.out).mono ?_); rintro e wc ⟨rfl, hg, ho⟩
      have HG2 : Hid (Gc wc d b c cap R R1 Y ∧ Only b w wc ∧ At wc w.heap.size 16 39 x) := hid ⟨hg, HT1.out.low.trans ho, at_asked HT1.out.var ho (by have := HT1.out.base.lt; omega)⟩
      clear hg ho
      refine hK.out _ _ (HG2.out.2.2) (fun h2x => ?_)
      clear hK K
      try simp only [Act.put, lay_out]
      refine wpAnyH_ready (rs := [6]) (by kernel_rfl) (by simp) (AllReadyH.cons rfl (fun K hK => ?_) AllReadyH.nil)
      rw [if_pos (by rfl)]
      go_simp
      have HA3 := hid (at_zero wc)
      have hlow : Below wc.heap.size wc (wc.alloc (.cells z16 39)) := (Below.refl _ _).alloc (Nat.le_refl _) _
      have HG3 : Hid (Gc (wc.alloc (.cells z16 39)) d b c cap R R1 Y ∧ Only b w (wc.alloc (.cells z16 39)) ∧ At (wc.alloc (.cells z16 39)) w.heap.size 16 39 x) := hid ⟨HG2.out.1.self hlow, HG2.out.2.1.trans (Only.of_below hlow), HG2.out.2.2.alloc _⟩
      have HNA : Hid (w.heap.size < wc.heap.size) := hid HG2.out.2.2.lt
      clear hlow
      refine hK.out _ _ (HG3.out.2.2) (fun h3x => ?_)
      clear hK K
      try simp only [Act.put, lay_out]
      refine wpAnyH_ready (rs := [7]) (by kernel_rfl) (by simp) (AllReadyH.cons rfl (fun K hK => ?_) AllReadyH.nil)
      rw [if_pos (by rfl)]
      refine wp_store_row 39 (.tmp 10) (.tmp 34) rfl wc.heap.size (ba 16 (blkF Y R (xorF x (xorF y m)))) rfl rfl 39 _ HA3.out (by rw [ba_size]; exact infoa) (by rw [ba_size, ba_size]) (ba_one 16 _) ?_
      have HE := hid (Te.row (z' := blkF Y R (xorF x (xorF y m))) HT0.out.base HG3.out.1 HG3.out.2.1 HA3.out (by have := HG3.out.2.1.size; have := HNA.out; omega))
      refine hK.out _ _ (HG3.out.2.2.rowApart (by have := HNA.out; omega) _) (fun h4x => ?_)
      clear hK K
      try simp only [Act.put, lay_out]
      refine wpAnyH_done (by kernel_rfl) ?_ _
      refine NoPanic.normal ?_
      clear h0 h1x h2x h3x h4x
      try simp only [Act.put, lay_out]
      generalize (wc.alloc (.cells z16 39)).setRow wc.heap.size (ba 16 (blkF Y R (xorF x (xorF y m)))) = we at *
      rw [HZ.out] at HE
      go_wp2
      go_ret
      exact ⟨wc.heap.size, rfl, HE.out⟩
    · rw [if_pos (by rfl)]
      go_simp
      have HA3 := hid (at_zero wb)
      have hlow : Below wb.heap.size wb (wb.alloc (.cells z16 39)) := (Below.refl _ _).alloc (Nat.le_refl _) _
      have HT3 := hid (HT1.out.self hlow)
      have HW3 := hid (HWHT1.out.self hlow)
      have HNA : Hid (w.heap.size < wb.heap.size ∧ b < wb.heap.size) := hid ⟨HT1.out.var.lt, by have := HT1.out.gc.lt; omega⟩
      clear hlow
      refine hK.out _ _ (HT3.out.var) (fun h2x => ?_)
      clear hK K
      try simp only [Act.put, lay_out]
      refine wpAnyH_ready (rs := [5]) (by kernel_rfl) (by simp) (AllReadyH.cons rfl (fun K hK => ?_) AllReadyH.nil)
      rw [if_pos (by rfl)]
      go_simp
      go_at_call 40
      (with_reducible refine (entered_any d b c cap R R1 Y x (xorF y m) _ (wb.alloc (.cells z16 39)) HT3.out.gc HXB.out HYM.out HW3.out).mono ?_); rintro e wc ⟨rfl, hg, ho⟩
      have HG2 : Hid (Gc wc d b c cap R R1 Y ∧ Only b w wc ∧ At wc w.heap.size 16 39 x) := hid ⟨hg, HT3.out.low.trans ho, at_asked HT3.out.var ho (by have := HT3.out.base.lt; omega)⟩
      have HA4 := hid (at_asked HA3.out ho (by have := HNA.out; omega))
      clear hg ho
      refine hK.out _ _ (HG2.out.2.2) (fun h3x => ?_)
      clear hK K
      try simp only [Act.put, lay_out]
      refine wpAnyH_ready (rs := [7]) (by kernel_rfl) (by simp) (AllReadyH.cons rfl (fun K hK => ?_) AllReadyH.nil)
      rw [if_pos (by rfl)]
      refine wp_store_row 39 (.tmp 10) (.tmp 34) rfl wb.heap.size (ba 16 (blkF Y R (xorF x (xorF y m)))) rfl rfl 39 _ HA4.out (by rw [ba_size]; exact infoa) (by rw [ba_size, ba_size]) (ba_one 16 _) ?_
      have HE := hid (Te.row (z' := blkF Y R (xorF x (xorF y m))) HT0.out.base HG2.out.1 HG2.out.2.1 HA4.out (by have := HG2.out.2.1.size; have := HNA.out; omega))
      refine hK.out _ _ (HG2.out.2.2.rowApart (by have := HNA.out; omega) _) (fun h4x => ?_)
      clear hK K
      try simp only [Act.put, lay_out]
      refine wpAnyH_done (by kernel_rfl) ?_ _
      refine NoPanic.normal ?_
      clear h0 h1x h2x h3x h4x
      try simp only [Act.put, lay_out]
      generalize wc.setRow wb.heap.size (ba 16 (blkF Y R (xorF x (xorF y m)))) = we at *
      rw [HZ.out] at HE
      go_wp2
      go_ret
      exact ⟨wb.heap.size, rfl, HE.out⟩
  · rw [if_pos (by rfl)]
    go_simp
    have HA3 := hid (at_zero wa)
    have hlow : Below wa.heap.size wa (wa.alloc (.cells z16 39)) := (Below.refl _ _).alloc (Nat.le_refl _) _
    have HT3 := hid (HT0.out.self hlow)
    have HNA : Hid (w.heap.size < wa.heap.size ∧ b < wa.heap.size) := hid ⟨HT0.out.var.lt, by have := HT0.out.gc.lt; omega⟩
    clear hlow
    refine hK.out _ _ (HT3.out.var) (fun h1x => ?_)
    clear hK K
    try simp only [Act.put, lay_out]
    refine wpAnyH_ready (rs := [4]) (by kernel_rfl) (by simp) (AllReadyH.cons rfl (fun K hK => ?_) AllReadyH.nil)
    rw [if_pos (by rfl)]
    go_simp
    go_at_call 48
    (with_reducible refine (xor_16 (.slice (some ⟨gy, 0, none⟩) 16 cy) (.slice (some ⟨g2, 0, none⟩) 16 c2) y m (wa.alloc (.cells z16 39)) HT3.out.last HT3.out.mask HYB.out HMB.out).mono ?_); rintro e wb ⟨gx, cx, rfl, hown, hlow⟩
    have HT1 := hid (HT3.out.self hlow)
    have HWHT1 := hid ((wd_own hown HYM.out).1.rd cx (by decide))
    have HA4 := hid (HA3.out.self hlow)
    clear hown hlow
    refine hK.out _ _ (HT1.out.var) (fun h2x => ?_)
    clear hK K
    try simp only [Act.put, lay_out]
    refine wpAnyH_ready (rs := [5]) (by kernel_rfl) (by simp) (AllReadyH.cons rfl (fun K hK => ?_) AllReadyH.nil)
    rw [if_pos (by rfl)]
    go_simp
    go_at_call 40
    (with_reducible refine (entered_any d b c cap R R1 Y x (xorF y m) _ wb HT1.out.gc HXB.out HYM.out HWHT1.out).mono ?_); rintro e wc ⟨rfl, hg, ho⟩
    have HG2 : Hid (Gc wc d b c cap R R1 Y ∧ Only b w wc ∧ At wc w.heap.size 16 39 x) := hid ⟨hg, HT1.out.low.trans ho, at_asked HT1.out.var ho (by have := HT1.out.base.lt; omega)⟩
    have HA5 := hid (at_asked HA4.out ho (by have := HNA.out; omega))
    clear hg ho
    refine hK.out _ _ (HG2.out.2.2) (fun h3x => ?_)
    clear hK K
    try simp only [Act.put, lay_out]
    refine wpAnyH_ready (rs := [7]) (by kernel_rfl) (by simp) (AllReadyH.cons rfl (fun K hK => ?_) AllReadyH.nil)
    rw [if_pos (by rfl)]
    refine wp_store_row 39 (.tmp 10) (.tmp 34) rfl wa.heap.size (ba 16 (blkF Y R (xorF x (xorF y m)))) rfl rfl 39 _ HA5.out (by rw [ba_size]; exact infoa) (by rw [ba_size, ba_size]) (ba_one 16 _) ?_
    have HE := hid (Te.row (z' := blkF Y R (xorF x (xorF y m))) HT0.out.base HG2.out.1 HG2.out.2.1 HA5.out (by have := HG2.out.2.1.size; have := HNA.out; omega))
    refine hK.out _ _ (HG2.out.2.2.rowApart (by have := HNA.out; omega) _) (fun h4x => ?_)
    clear hK K
    try simp only [Act.put, lay_out]
    refine wpAnyH_done (by kernel_rfl) ?_ _
    refine NoPanic.normal ?_
    clear h0 h1x h2x h3x h4x
    try simp only [Act.put, lay_out]
    generalize wc.setRow wa.heap.size (ba 16 (blkF Y R (xorF x (xorF y m)))) = we at *
    rw [HZ.out] at HE
    go_wp2
    go_ret
    exact ⟨wa.heap.size, rfl, HE.out⟩

set_option maxHeartbeats 6400000 in
theorem tagOf_full (d b c cap R R1 M e : Nat) (Y : Nat → Nat → Nat) (s δ : Nat → Nat) (a : Option Addr) (w : World) (h : Gc w d b c cap R R1 Y) (hs : B16 s) (hδ : ∀ j, j < M → δ j < 256) (hM : M ≤ e) (hv : Kept b w (.slice a M e) (ns M δ)) (hn : M - 16 * bkN M = 16) :
    Calls Try.prog 29 #[.pointer (some ⟨d, 0, none⟩), .agg (ba 16 s), .slice a M e] w fun x w' => ∃ g, x = .returned (.slice (some ⟨g, 0, none⟩) 16 16) ∧ Te w w' d b c cap R R1 Y g (tagF Y R s M δ) := by
  have hlow : Below w.heap.size w (w.alloc (.cells (ba 16 s) 39)) := (Below.refl _ _).alloc (Nat.le_refl _) _
  have HA := hid (At.new w 16 39 s)
  have HLW := hid hlow
  have HG0 := hid h
  have hT := through_any d b c cap R R1 M e Y s δ a w (w.alloc (.cells (ba 16 s) 39)) (Only.of_below hlow) (h.self hlow) hs hδ hM hv
  rw [hn] at hT
  have HT := hid hT
  have HXB : Hid (B16 (cbF Y R s δ (bkN M))) := hid (cbF_b h.yb hs _ fun j hj => hδ j (Nat.lt_of_lt_of_le hj (bkN_le M)))
  have HLB : Hid (∀ j, j < 16 → (fun j => δ (16 * bkN M + j)) j < 256) := hid (fun j hj => hδ _ (by have := bkN_le M; omega))
  have HMB : Hid (B16 (m1F Y R)) := hid (m1F_b h.yb)
  have HZ : Hid (blkF Y R (xorF (cbF Y R s δ (bkN M)) (xorF ((fun j => δ (16 * bkN M + j))) (m1F Y R))) = tagF Y R s M δ) := hid (by
    unfold tagF endF
    rw [hn, if_neg (by decide)])
  have HYB : Hid (B16 (fun j => δ (16 * bkN M + j))) := hid HLB.out
  have HLT := hid h.lt
  clear h hs hδ hM hv hn hT hlow
  generalize cbF Y R s δ (bkN M) = x at *
  generalize (fun j => δ (16 * bkN M + j)) = l at *
  generalize hy : l = y at *
  clear hy
  generalize tagF Y R s M δ = z at *
  have HMM := hid (fun W (hW : Gc W d b c cap R R1 Y) => masks_any d b c cap R R1 Y W hW)
  generalize m1F Y R = m at *
  have HYM := hid (xorF_16 HYB.out HMB.out)
  go_enter Try.func29, Try.ntmps29
  go_wp2_with (first
    | (refine step_load_ba rfl 39 _ rfl w.heap.size 16 39 5 s rfl HA.out Try.underlying39 infoa ?_)
    | (go_at_call 39; (with_reducible refine HT.out.mono ?_); rintro q w2 ⟨a', rfl, hk, hg, ho⟩
       have HK2 := hid hk
       have HG2 := hid hg
       have HA2 := hid (at_asked HA.out ho (by have := HLT.out; omega))
       have HO2 := hid ((Only.of_below HLW.out).trans ho)
       clear hk hg ho)
    | (refine step_store_ba rfl 39 _ _ rfl w.heap.size 16 39 s x rfl rfl HA2.out infoa ?_
       have HA3 := hid (HA2.out.row x)
       have HG3 := hid (HG0.out.row HG2.out HO2.out (Nat.le_refl _) (ba 16 x))
       generalize w2.setRow w.heap.size (ba 16 x) = w3 at *)
    | (go_at_call 9; (with_reducible refine (HMM.out w3 HG3.out.1).mono ?_); rintro q w4 ⟨g1, c1, g2, c2, rfl, hm1, hm2, hl1, hl2, hg, ho⟩
       have HO4 := hid (HG3.out.2.trans ho)
       have HG4 := hid hg
       have HM4 := hid (hm1.rd c1 (by decide))
       have HA4 := hid (at_asked HA3.out ho (by have := HLT.out; omega))
       have HT5 : Hid (Tz w w4 d b c cap R R1 Y x y m (.slice a' 16 16) (.slice (some ⟨g1, 0, none⟩) 16 c1)) := hid ⟨HG0.out, HG4.out, HO4.out, HA4.out, (HK2.out.later HO4.out).rd, HM4.out⟩
       clear hm1 hm2 hl1 hl2 hg ho)
    )
  have HT0 := hid HT5.out.drew
  refine wp_region_noPanic ?_
  refine wp_region_held_drew (S := fun w' => At w' w.heap.size 16 39 x) (by kernel_rfl) (HT0.out.var) (fun h0 => ?_)
  generalize w4.drew = wa at *
  refine wpAnyH_take (i := 0) (v := .pointer (some ⟨d, 0, none⟩)) rfl (by kernel_rfl) (by kernel_rfl) (by kernel_rfl) (fun _ _ _ h => h) (.inl ⟨by rfl, fun w hw => by clear hw; go_simp⟩) h0 ?_
  try simp only [Act.put, lay_out]
  refine wpAnyH_take (i := 1) (v := .agg (ba 16 x)) rfl (by kernel_rfl) (by kernel_rfl) (by kernel_rfl) (fun _ _ _ h => h) (yields_load_ba (by rfl) 39 _ rfl w.heap.size 16 39 5 x rfl (fun w h => h) Try.underlying39 infoa) h0 ?_
  try simp only [Act.put, lay_out]
  refine wpAnyH_take (i := 2) (v := .slice a' 16 16) rfl (by kernel_rfl) (by kernel_rfl) (by kernel_rfl) (fun _ _ _ h => h) (.inl ⟨by rfl, fun w hw => by clear hw; go_simp⟩) h0 ?_
  try simp only [Act.put, lay_out]
  refine wpAnyH_take (i := 3) (v := .slice (some ⟨g1, 0, none⟩) 16 c1) rfl (by kernel_rfl) (by kernel_rfl) (by kernel_rfl) (fun _ _ _ h => h) (.inl ⟨by rfl, fun w hw => by clear hw; go_simp⟩) h0 ?_
  try simp only [Act.put, lay_out]
  refine wpAnyH_ready (rs := [4, 6]) (by kernel_rfl) (by simp) (AllReadyH.cons rfl (fun K hK => ?_) (AllReadyH.cons rfl (fun K hK => ?_) AllReadyH.nil))
  · rw [if_pos (by rfl)]
    go_simp
    go_at_call 48
    (with_reducible refine (xor_16 (.slice a' 16 16) (.slice (some ⟨g1, 0, none⟩) 16 c1) y m wa HT0.out.last HT0.out.mask HYB.out HMB.out).mono ?_); rintro e wb ⟨gx, cx, rfl, hown, hlow⟩
    have HT1 := hid (HT0.out.self hlow)
    have HWHT1 := hid ((wd_own hown HYM.out).1.rd cx (by decide))
    clear hown hlow
    refine hK.out _ _ (HT1.out.var) (fun h1x => ?_)
    clear hK K
    try simp only [Act.put, lay_out]
    refine wpAnyH_ready (rs := [5, 6]) (by kernel_rfl) (by simp) (AllReadyH.cons rfl (fun K hK => ?_) (AllReadyH.cons rfl (fun K hK => ?_) AllReadyH.nil))
    · rw [if_pos (by rfl)]
      go_simp
      go_at_call 40
      (with_reducible refine (entered_any d b c cap R R1 Y x (xorF y m) _ wb HT1.out.gc HXB.out HYM.out HWHT1.out).mono ?_); rintro e wc ⟨rfl, hg, ho⟩
      have HG2 : Hid (Gc wc d b c cap R R1 Y ∧ Only b w wc ∧ At wc w.heap.size 16 39 x) := hid ⟨hg, HT1.out.low.trans ho, at_asked HT1.out.var ho (by have := HT1.out.base.lt; omega)⟩
      clear hg ho
      refine hK.out _ _ (HG2.out.2.2) (fun h2x => ?_)
      clear hK K
      try simp only [Act.put, lay_out]
      refine wpAnyH_ready (rs := [6]) (by kernel_rfl) (by simp) (AllReadyH.cons rfl (fun K hK => ?_) AllReadyH.nil)
      rw [if_pos (by rfl)]
      go_simp
      have HA3 := hid (at_zero wc)
      have hlow : Below wc.heap.size wc (wc.alloc (.cells z16 39)) := (Below.refl _ _).alloc (Nat.le_refl _) _
      have HG3 : Hid (Gc (wc.alloc (.cells z16 39)) d b c cap R R1 Y ∧ Only b w (wc.alloc (.cells z16 39)) ∧ At (wc.alloc (.cells z16 39)) w.heap.size 16 39 x) := hid ⟨HG2.out.1.self hlow, HG2.out.2.1.trans (Only.of_below hlow), HG2.out.2.2.alloc _⟩
      have HNA : Hid (w.heap.size < wc.heap.size) := hid HG2.out.2.2.lt
      clear hlow
      refine hK.out _ _ (HG3.out.2.2) (fun h3x => ?_)
      clear hK K
      try simp only [Act.put, lay_out]
      refine wpAnyH_ready (rs := [7]) (by kernel_rfl) (by simp) (AllReadyH.cons rfl (fun K hK => ?_) AllReadyH.nil)
      rw [if_pos (by rfl)]
      refine wp_store_row 39 (.tmp 10) (.tmp 34) rfl wc.heap.size (ba 16 (blkF Y R (xorF x (xorF y m)))) rfl rfl 39 _ HA3.out (by rw [ba_size]; exact infoa) (by rw [ba_size, ba_size]) (ba_one 16 _) ?_
      have HE := hid (Te.row (z' := blkF Y R (xorF x (xorF y m))) HT0.out.base HG3.out.1 HG3.out.2.1 HA3.out (by have := HG3.out.2.1.size; have := HNA.out; omega))
      refine hK.out _ _ (HG3.out.2.2.rowApart (by have := HNA.out; omega) _) (fun h4x => ?_)
      clear hK K
      try simp only [Act.put, lay_out]
      refine wpAnyH_done (by kernel_rfl) ?_ _
      refine NoPanic.normal ?_
      clear h0 h1x h2x h3x h4x
      try simp only [Act.put, lay_out]
      generalize (wc.alloc (.cells z16 39)).setRow wc.heap.size (ba 16 (blkF Y R (xorF x (xorF y m)))) = we at *
      rw [HZ.out] at HE
      go_wp2
      go_ret
      exact ⟨wc.heap.size, rfl, HE.out⟩
    · rw [if_pos (by rfl)]
      go_simp
      have HA3 := hid (at_zero wb)
      have hlow : Below wb.heap.size wb (wb.alloc (.cells z16 39)) := (Below.refl _ _).alloc (Nat.le_refl _) _
      have HT3 := hid (HT1.out.self hlow)
      have HW3 := hid (HWHT1.out.self hlow)
      have HNA : Hid (w.heap.size < wb.heap.size ∧ b < wb.heap.size) := hid ⟨HT1.out.var.lt, by have := HT1.out.gc.lt; omega⟩
      clear hlow
      refine hK.out _ _ (HT3.out.var) (fun h2x => ?_)
      clear hK K
      try simp only [Act.put, lay_out]
      refine wpAnyH_ready (rs := [5]) (by kernel_rfl) (by simp) (AllReadyH.cons rfl (fun K hK => ?_) AllReadyH.nil)
      rw [if_pos (by rfl)]
      go_simp
      go_at_call 40
      (with_reducible refine (entered_any d b c cap R R1 Y x (xorF y m) _ (wb.alloc (.cells z16 39)) HT3.out.gc HXB.out HYM.out HW3.out).mono ?_); rintro e wc ⟨rfl, hg, ho⟩
      have HG2 : Hid (Gc wc d b c cap R R1 Y ∧ Only b w wc ∧ At wc w.heap.size 16 39 x) := hid ⟨hg, HT3.out.low.trans ho, at_asked HT3.out.var ho (by have := HT3.out.base.lt; omega)⟩
      have HA4 := hid (at_asked HA3.out ho (by have := HNA.out; omega))
      clear hg ho
      refine hK.out _ _ (HG2.out.2.2) (fun h3x => ?_)
      clear hK K
      try simp only [Act.put, lay_out]
      refine wpAnyH_ready (rs := [7]) (by kernel_rfl) (by simp) (AllReadyH.cons rfl (fun K hK => ?_) AllReadyH.nil)
      rw [if_pos (by rfl)]
      refine wp_store_row 39 (.tmp 10) (.tmp 34) rfl wb.heap.size (ba 16 (blkF Y R (xorF x (xorF y m)))) rfl rfl 39 _ HA4.out (by rw [ba_size]; exact infoa) (by rw [ba_size, ba_size]) (ba_one 16 _) ?_
      have HE := hid (Te.row (z' := blkF Y R (xorF x (xorF y m))) HT0.out.base HG2.out.1 HG2.out.2.1 HA4.out (by have := HG2.out.2.1.size; have := HNA.out; omega))
      refine hK.out _ _ (HG2.out.2.2.rowApart (by have := HNA.out; omega) _) (fun h4x => ?_)
      clear hK K
      try simp only [Act.put, lay_out]
      refine wpAnyH_done (by kernel_rfl) ?_ _
      refine NoPanic.normal ?_
      clear h0 h1x h2x h3x h4x
      try simp only [Act.put, lay_out]
      generalize wc.setRow wb.heap.size (ba 16 (blkF Y R (xorF x (xorF y m)))) = we at *
      rw [HZ.out] at HE
      go_wp2
      go_ret
      exact ⟨wb.heap.size, rfl, HE.out⟩
  · rw [if_pos (by rfl)]
    go_simp
    have HA3 := hid (at_zero wa)
    have hlow : Below wa.heap.size wa (wa.alloc (.cells z16 39)) := (Below.refl _ _).alloc (Nat.le_refl _) _
    have HT3 := hid (HT0.out.self hlow)
    have HNA : Hid (w.heap.size < wa.heap.size ∧ b < wa.heap.size) := hid ⟨HT0.out.var.lt, by have := HT0.out.gc.lt; omega⟩
    clear hlow
    refine hK.out _ _ (HT3.out.var) (fun h1x => ?_)
    clear hK K
    try simp only [Act.put, lay_out]
    refine wpAnyH_ready (rs := [4]) (by kernel_rfl) (by simp) (AllReadyH.cons rfl (fun K hK => ?_) AllReadyH.nil)
    rw [if_pos (by rfl)]
    go_simp
    go_at_call 48
    (with_reducible refine (xor_16 (.slice a' 16 16) (.slice (some ⟨g1, 0, none⟩) 16 c1) y m (wa.alloc (.cells z16 39)) HT3.out.last HT3.out.mask HYB.out HMB.out).mono ?_); rintro e wb ⟨gx, cx, rfl, hown, hlow⟩
    have HT1 := hid (HT3.out.self hlow)
    have HWHT1 := hid ((wd_own hown HYM.out).1.rd cx (by decide))
    have HA4 := hid (HA3.out.self hlow)
    clear hown hlow
    refine hK.out _ _ (HT1.out.var) (fun h2x => ?_)
    clear hK K
    try simp only [Act.put, lay_out]
    refine wpAnyH_ready (rs := [5]) (by kernel_rfl) (by simp) (AllReadyH.cons rfl (fun K hK => ?_) AllReadyH.nil)
    rw [if_pos (by rfl)]
    go_simp
    go_at_call 40
    (with_reducible refine (entered_any d b c cap R R1 Y x (xorF y m) _ wb HT1.out.gc HXB.out HYM.out HWHT1.out).mono ?_); rintro e wc ⟨rfl, hg, ho⟩
    have HG2 : Hid (Gc wc d b c cap R R1 Y ∧ Only b w wc ∧ At wc w.heap.size 16 39 x) := hid ⟨hg, HT1.out.low.trans ho, at_asked HT1.out.var ho (by have := HT1.out.base.lt; omega)⟩
    have HA5 := hid (at_asked HA4.out ho (by have := HNA.out; omega))
    clear hg ho
    refine hK.out _ _ (HG2.out.2.2) (fun h3x => ?_)
    clear hK K
    try simp only [Act.put, lay_out]
    refine wpAnyH_ready (rs := [7]) (by kernel_rfl) (by simp) (AllReadyH.cons rfl (fun K hK => ?_) AllReadyH.nil)
    rw [if_pos (by rfl)]
    refine wp_store_row 39 (.tmp 10) (.tmp 34) rfl wa.heap.size (ba 16 (blkF Y R (xorF x (xorF y m)))) rfl rfl 39 _ HA5.out (by rw [ba_size]; exact infoa) (by rw [ba_size, ba_size]) (ba_one 16 _) ?_
    have HE := hid (Te.row (z' := blkF Y R (xorF x (xorF y m))) HT0.out.base HG2.out.1 HG2.out.2.1 HA5.out (by have := HG2.out.2.1.size; have := HNA.out; omega))
    refine hK.out _ _ (HG2.out.2.2.rowApart (by have := HNA.out; omega) _) (fun h4x => ?_)
    clear hK K
    try simp only [Act.put, lay_out]
    refine wpAnyH_done (by kernel_rfl) ?_ _
    refine NoPanic.normal ?_
    clear h0 h1x h2x h3x h4x
    try simp only [Act.put, lay_out]
    generalize wc.setRow wa.heap.size (ba 16 (blkF Y R (xorF x (xorF y m)))) = we at *
    rw [HZ.out] at HE
    go_wp2
    go_ret
    exact ⟨wa.heap.size, rfl, HE.out⟩
theorem tagOf_any (d b c cap R R1 M e : Nat) (Y : Nat → Nat → Nat) (s δ : Nat → Nat) (a : Option Addr) (w : World) (h : Gc w d b c cap R R1 Y) (hs : B16 s) (hδ : ∀ j, j < M → δ j < 256) (hM : M ≤ e) (hv : Kept b w (.slice a M e) (ns M δ)) :
    Calls Try.prog 29 #[.pointer (some ⟨d, 0, none⟩), .agg (ba 16 s), .slice a M e] w fun x w' => ∃ g, x = .returned (.slice (some ⟨g, 0, none⟩) 16 16) ∧ Te w w' d b c cap R R1 Y g (tagF Y R s M δ) := by
  by_cases hn : M - 16 * bkN M = 16
  · exact tagOf_full d b c cap R R1 M e Y s δ a w h hs hδ hM hv hn
  · exact tagOf_short d b c cap R R1 M e _ Y s δ a w h hs hδ hM hv rfl (by have := bkN_rest M; omega)
theorem tagOf_zero (d b c cap R R1 M e : Nat) (Y : Nat → Nat → Nat) (δ : Nat → Nat) (a : Option Addr) (w : World) (h : Gc w d b c cap R R1 Y) (hδ : ∀ j, j < M → δ j < 256) (hM : M ≤ e) (hv : Kept b w (.slice a M e) (ns M δ)) :
    Calls Try.prog 29 #[.pointer (some ⟨d, 0, none⟩), .agg z16, .slice a M e] w fun x w' => ∃ g, x = .returned (.slice (some ⟨g, 0, none⟩) 16 16) ∧ Te w w' d b c cap R R1 Y g (tagF Y R (fun _ => 0) M δ) :=
  tagOf_any d b c cap R R1 M e Y (fun _ => 0) δ a w h B16.zero hδ hM hv
theorem msum_any (d b c cap R R1 M e : Nat) (Y : Nat → Nat → Nat) (δ : Nat → Nat) (a : Option Addr) (w : World) (h : Gc w d b c cap R R1 Y) (hδ : ∀ j, j < M → δ j < 256) (hM : M ≤ e) (hv : Kept b w (.slice a M e) (ns M δ)) :
    Calls Try.prog 12 #[.pointer (some ⟨d, 0, none⟩), .slice a M e] w fun x w' => ∃ g, x = .returned (.slice (some ⟨g, 0, none⟩) 16 16) ∧ Te w w' d b c cap R R1 Y g (tagF Y R (fun _ => 0) M δ) := by
  have HT := hid (tagOf_zero d b c cap R R1 M e Y δ a w h hδ hM hv)
  clear h hδ hM hv
  go_enter Try.func12, Try.ntmps12
  go_wp2_with (first
    | (go_at_call 29; (with_reducible refine HT.out.mono ?_); rintro q w2 ⟨g, rfl, ht⟩; have HE := hid ht; clear ht))
  go_ret
  exact ⟨g, rfl, HE.out⟩
end Go.Proofs.Yteoiekooaokhaaa
