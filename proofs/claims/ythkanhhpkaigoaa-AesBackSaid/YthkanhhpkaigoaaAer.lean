import Derived.Test.YthkanhhpkaigoaaProg
import Derived.Test.YthkanhhpkaigoaaAex
import Derived.Test.YthkanhhpkaigoaaAey
namespace Go.Proofs.Ythkanhhpkaigoaa
open Go.RowKit

theorem B16.all {f : Nat → Nat} (h : B16 f) : ∀ j, j < 16 → f j < 256 := h
theorem row_any (f : Nat → Nat) (w : World) : Calls Try.prog 21 #[.agg (ba 16 f)] w fun e w' => e = .returned (.slice (some ⟨w.heap.size, 0, none⟩) 16 16) ∧ At w' w.heap.size 16 23 f ∧ Below w.heap.size w w' := by
  have HA := hid (At.new w 16 23 f)
  go_enter Try.func21, Try.ntmps21
  go_wp2
  go_ret
  exact ⟨rfl, HA.out, (Below.refl _ _).alloc (Nat.le_refl _) _⟩

/-- The law's key and blocks. -/
structure LD (w wr : World) (k a b : Nat → Nat) : Prop where
  key : At wr w.heap.size 32 33 k
  fa : At wr (w.heap.size + 1) 16 23 a
  fb : At wr (w.heap.size + 2) 16 23 b
  low : Below w.heap.size w wr
theorem LD.start (w : World) (k a b : Nat → Nat) : LD w (((w.alloc (.cells (ba 32 k) 33)).alloc (.cells (ba 16 a) 23)).alloc (.cells (ba 16 b) 23)) k a b := by
  have h1 := At.new w 32 33 k
  have h2 := At.new (w.alloc (.cells (ba 32 k) 33)) 16 23 a
  have h3 := At.new ((w.alloc (.cells (ba 32 k) 33)).alloc (.cells (ba 16 a) 23)) 16 23 b
  rw [World.size_alloc] at h2
  rw [World.size_alloc, World.size_alloc] at h3
  exact ⟨(h1.alloc _).alloc _, h2.alloc _, h3, (((Below.refl _ _).alloc (Nat.le_refl _) _).alloc (by simp) _).alloc (by simp; omega) _⟩
section
variable {w wr w1 : World} {k a b X : Nat → Nat} {d bx c cap R1 n : Nat} {Y : Nat → Nat → Nat}
theorem LD.self (h : LD w wr k a b) (hl : Below wr.heap.size wr w1) : LD w w1 k a b := ⟨h.key.self hl, h.fa.self hl, h.fb.self hl, h.low.trans (hl.mono h.low.size)⟩
theorem LD.drew (h : LD w wr k a b) : LD w wr.drew k a b := ⟨h.key.drew, h.fa.drew, h.fb.drew, h.low.drew⟩
/-- .. and the cipher. -/
structure LE (w wr : World) (k a b : Nat → Nat) (d bx c cap R1 : Nat) (Y : Nat → Nat → Nat) : Prop extends LD w wr k a b where
  ci : Ci wr d bx c cap R1 Y
  hb : w.heap.size + 2 < bx
theorem LE.self (h : LE w wr k a b d bx c cap R1 Y) (hl : Below wr.heap.size wr w1) : LE w w1 k a b d bx c cap R1 Y := ⟨h.toLD.self hl, h.ci.self hl, h.hb⟩
theorem LE.drew (h : LE w wr k a b d bx c cap R1 Y) : LE w wr.drew k a b d bx c cap R1 Y := ⟨h.toLD.drew, h.ci.drew, h.hb⟩
theorem LE.asked (h : LE w wr k a b d bx c cap R1 Y) (hci : Ci w1 d bx c cap R1 Y) (o : Only bx wr w1) : LE w w1 k a b d bx c cap R1 Y := by
  have hb := h.hb
  exact ⟨⟨(o.block _ h.key.lt (by omega)).trans h.key, (o.block _ h.fa.lt (by omega)).trans h.fa, (o.block _ h.fb.lt (by omega)).trans h.fb, h.low.trans (o.below (by omega) h.low.size)⟩, hci, hb⟩
/-- .. and the block that was turned three times. -/
structure LX (w wr : World) (k a b : Nat → Nat) (d bx c cap R1 : Nat) (Y : Nat → Nat → Nat) (n : Nat) (X : Nat → Nat) : Prop extends LE w wr k a b d bx c cap R1 Y where
  fx : At wr n 16 23 X
  nx : n ≠ bx
theorem LX.self (h : LX w wr k a b d bx c cap R1 Y n X) (hl : Below wr.heap.size wr w1) : LX w w1 k a b d bx c cap R1 Y n X := ⟨h.toLE.self hl, h.fx.self hl, h.nx⟩
theorem LX.drew (h : LX w wr k a b d bx c cap R1 Y n X) : LX w wr.drew k a b d bx c cap R1 Y n X := ⟨h.toLE.drew, h.fx.drew, h.nx⟩
theorem LE.laid (h : LE w wr k a b d bx c cap R1 Y) (X : Nat → Nat) : LX w ((wr.alloc (.cells (ba 16 (fun _ => 0)) 23)).setRow wr.heap.size (ba 16 X)) k a b d bx c cap R1 Y wr.heap.size X := by
  have hl : Below wr.heap.size wr ((wr.alloc (.cells (ba 16 (fun _ => 0)) 23)).setRow wr.heap.size (ba 16 X)) := below_setRow ((Below.refl _ _).alloc (Nat.le_refl _) _) (Nat.le_refl _) _
  exact ⟨h.self hl, (At.new wr 16 23 _).row X, Nat.ne_of_gt h.ci.box.lt⟩
end

set_option maxRecDepth 100000 in
set_option maxHeartbeats 6400000 in
theorem back_at (k a b : Nat → Nat) (m L R R1 : Nat) (Y : Nat → Nat → Nat) (w : World) (ha : B16 a) (hb : B16 b) (hm : m < 256) (hL : 16 + 8 * (m % 3) = L) (hR : R1 = R + 1 ∧ 0 < R ∧ R ≤ 1000) (hYB : YB Y R)
    (hN : ∀ w', At w' w.heap.size 32 33 k → NewOk (.slice (some ⟨w.heap.size, 0, none⟩) L 32) R1 Y w') :
    Calls Try.prog 4 #[.agg (ba 32 k), .int .u8 (m : Int), .agg (ba 16 a), .agg (ba 16 b)] w fun e w' => e = .returned (.bool true) ∧ Below w.heap.size w w' := by
  have HS := hid (LD.start w k a b)
  have HA := hid ha
  have HB := hid hb
  have HRR := hid hR
  have HBA := hid (blkF_b hYB ha)
  have HUA := hid (unbF_b hYB ha)
  have E1 := hid (unb_blk hYB ha)
  have E2 := hid (blk_unb hYB ha)
  have E3 : Hid (Eq16 (mxC (mxB a)) a) := hid (col4 ha)
  have E4 := hid (back_row a)
  have E5 := hid (col_add ha hb)
  obtain ⟨q, hq⟩ := eq16_bool a b
  have E7 := hid hq
  have E6 := hid ((blk_inj hYB ha hb).trans hq)
  have HNN := hid (fun w' h => by have := hN w' h; unfold NewOk at this; exact this)
  obtain ⟨r, hr⟩ : ∃ r, m % 3 = r := ⟨_, rfl⟩
  obtain ⟨p, hp⟩ : ∃ p, 8 * r = p := ⟨_, rfl⟩
  have e1 : (m : Int) % 3 = (r : Int) := by omega
  have w1 : IntKind.i64.wrap (r : Int) = r := by rw [IntKind.wrap_i64]; omega
  have e2 : 8 * (r : Int) = (p : Int) := by omega
  have w2 : IntKind.i64.wrap (p : Int) = p := by rw [IntKind.wrap_i64]; omega
  have e3 : 16 + (p : Int) = (L : Int) := by omega
  have w3 : IntKind.i64.wrap (L : Int) = L := by rw [IntKind.wrap_i64]; omega
  have l0 : (0 : Int) ≤ (L : Int) := by omega
  have l1 : (L : Int) ≤ 32 := by omega
  have l2 : L ≤ 32 := by omega
  have wm : IntKind.i64.wrap (m : Int) = m := by rw [IntKind.wrap_i64]; omega
  have m0 : (0 : Int) ≤ (m : Int) := by omega
  have m1 : (m : Int) < 256 := by omega
  clear ha hb hm hL hR hYB hN hq hr hp
  go_enter Try.func4, Try.ntmps4
  go_wp2_with (first
    | (go_at_call 13; (with_reducible refine (HNN.out _ HS.out.key).mono ?_); rintro e w3 ⟨d, bx, c, cap, rfl, hci, hbx, hlow⟩; have HN : Hid (LE w w3 k a b d bx c cap R1 Y) := hid ⟨HS.out.self hlow, hci, Nat.lt_of_lt_of_le HS.out.fb.lt hbx⟩; clear hci hbx hlow))
  refine wp_region_noPanic ?_
  have HL := hid HN.out.drew
  refine wp_region_held_drew (S := fun w' => At w' (w.heap.size + 1) 16 23 a) (by kernel_rfl) (HL.out.fa) (fun h0 => ?_)
  generalize w3.drew = w4 at *
  refine wpAnyH_take (i := 0) (v := .int .i64 0) rfl (by kernel_rfl) (by kernel_rfl) (by kernel_rfl) (fun _ _ _ h => h) (.inl ⟨by rfl, fun w hw => by clear hw; go_simp⟩) h0 ?_
  try simp only [Act.put, lay_out]
  refine wpAnyH_take (i := 1) (v := .bool false) rfl (by kernel_rfl) (by kernel_rfl) (by kernel_rfl) (fun _ _ _ h => h) (.inl ⟨by rfl, fun w hw => by clear hw; go_simp⟩) h0 ?_
  try simp only [Act.put, lay_out]
  refine wpAnyH_take (i := 2) (v := .bool false) rfl (by kernel_rfl) (by kernel_rfl) (by kernel_rfl) (fun _ _ _ h => h) (.inl ⟨by rfl, fun w hw => by clear hw; go_simp⟩) h0 ?_
  try simp only [Act.put, lay_out]
  refine wpAnyH_take (i := 3) (v := .pointer (some ⟨d, 0, none⟩)) rfl (by kernel_rfl) (by kernel_rfl) (by kernel_rfl) (fun _ _ _ h => h) (.inl ⟨by rfl, fun w hw => by clear hw; go_simp⟩) h0 ?_
  try simp only [Act.put, lay_out]
  refine wpAnyH_take (i := 4) (v := .bool false) rfl (by kernel_rfl) (by kernel_rfl) (by kernel_rfl) (fun _ _ _ h => h) (.inl ⟨by rfl, fun w hw => by clear hw; go_simp⟩) h0 ?_
  try simp only [Act.put, lay_out]
  refine wpAnyH_take (i := 5) (v := .bool false) rfl (by kernel_rfl) (by kernel_rfl) (by kernel_rfl) (fun _ _ _ h => h) (.inl ⟨by rfl, fun w hw => by clear hw; go_simp⟩) h0 ?_
  try simp only [Act.put, lay_out]
  refine wpAnyH_take (i := 6) (v := .bool false) rfl (by kernel_rfl) (by kernel_rfl) (by kernel_rfl) (fun _ _ _ h => h) (.inl ⟨by rfl, fun w hw => by clear hw; go_simp⟩) h0 ?_
  try simp only [Act.put, lay_out]
  refine wpAnyH_take (i := 7) (v := .pointer (some ⟨d, 0, none⟩)) rfl (by kernel_rfl) (by kernel_rfl) (by kernel_rfl) (fun _ _ _ h => h) (.inl ⟨by rfl, fun w hw => by clear hw; go_simp⟩) h0 ?_
  try simp only [Act.put, lay_out]
  refine wpAnyH_take (i := 8) (v := .pointer (some ⟨d, 0, none⟩)) rfl (by kernel_rfl) (by kernel_rfl) (by kernel_rfl) (fun _ _ _ h => h) (.inl ⟨by rfl, fun w hw => by clear hw; go_simp⟩) h0 ?_
  try simp only [Act.put, lay_out]
  refine wpAnyH_take (i := 9) (v := .agg (ba 16 a)) rfl (by kernel_rfl) (by kernel_rfl) (by kernel_rfl) (fun _ _ _ h => h) (yields_load_ba (by rfl) 23 _ rfl (w.heap.size + 1) 16 23 5 a rfl (fun w h => h) Try.underlying23 infoa) h0 ?_
  try simp only [Act.put, lay_out]
  refine wpAnyH_take (i := 12) (v := .agg (ba 16 a)) rfl (by kernel_rfl) (by kernel_rfl) (by kernel_rfl) (fun _ _ _ h => h) (yields_load_ba (by rfl) 23 _ rfl (w.heap.size + 1) 16 23 5 a rfl (fun w h => h) Try.underlying23 infoa) h0 ?_
  try simp only [Act.put, lay_out]
  refine wpAnyH_ready (rs := [10]) (by kernel_rfl) (by simp) (AllReadyH.cons rfl (fun K hK => ?_) AllReadyH.nil)
  rw [if_pos (by rfl)]
  go_simp
  go_at_call 14
  (with_reducible refine (block_any d bx c cap R R1 Y a _ HRR.out.1 HRR.out.2.1 HRR.out.2.2 HA.out HL.out.ci).mono ?_); rintro e wa1 ⟨rfl, hci, ho⟩
  have HQ1 := hid (HL.out.asked hci ho)
  refine hK.out _ _ (HQ1.out.fa) (fun h1x => ?_)
  clear hK K
  try simp only [Act.put, lay_out]
  refine wpAnyH_ready (rs := [11]) (by kernel_rfl) (by simp) (AllReadyH.cons rfl (fun K hK => ?_) AllReadyH.nil)
  rw [if_pos (by rfl)]
  go_simp
  go_at_call 15
  (with_reducible refine (unblock_any d bx c cap R R1 Y (blkF Y R a) _ HRR.out.1 HRR.out.2.1 HRR.out.2.2 HBA.out HQ1.out.ci).mono ?_); rintro e wa2 ⟨rfl, hci, ho⟩
  have HQ2 := hid (HQ1.out.asked hci ho)
  refine hK.out _ _ (HQ2.out.fa) (fun h2x => ?_)
  clear hK K
  try simp only [Act.put, lay_out]
  refine wpAnyH_take (i := 13) (v := .bool false) rfl (by kernel_rfl) (by kernel_rfl) (by kernel_rfl) (fun _ _ _ h => h) (.inl ⟨by rfl, fun w _ => exec_ne16 (.tmp 33) (.tmp 34) rfl (f := (unbF Y R (blkF Y R a))) (g := a) (q := true) rfl rfl ⟨fun _ => rfl, fun _ => E1.out⟩⟩) h2x ?_
  try simp only [Act.put, lay_out]
  refine wpAnyH_take (i := 14) (v := .bool false) rfl (by kernel_rfl) (by kernel_rfl) (by kernel_rfl) (fun _ _ _ h => h) (.inl ⟨by rfl, fun w hw => by clear hw; go_simp⟩) h2x ?_
  try simp only [Act.put, lay_out]
  refine wpAnyH_take (i := 15) (v := .bool false) rfl (by kernel_rfl) (by kernel_rfl) (by kernel_rfl) (fun _ _ _ h => h) (.inl ⟨by rfl, fun w hw => by clear hw; go_simp⟩) h2x ?_
  try simp only [Act.put, lay_out]
  refine wpAnyH_take (i := 16) (v := .pointer (some ⟨d, 0, none⟩)) rfl (by kernel_rfl) (by kernel_rfl) (by kernel_rfl) (fun _ _ _ h => h) (.inl ⟨by rfl, fun w hw => by clear hw; go_simp⟩) h2x ?_
  try simp only [Act.put, lay_out]
  refine wpAnyH_take (i := 17) (v := .pointer (some ⟨d, 0, none⟩)) rfl (by kernel_rfl) (by kernel_rfl) (by kernel_rfl) (fun _ _ _ h => h) (.inl ⟨by rfl, fun w hw => by clear hw; go_simp⟩) h2x ?_
  try simp only [Act.put, lay_out]
  refine wpAnyH_take (i := 18) (v := .agg (ba 16 a)) rfl (by kernel_rfl) (by kernel_rfl) (by kernel_rfl) (fun _ _ _ h => h) (yields_load_ba (by rfl) 23 _ rfl (w.heap.size + 1) 16 23 5 a rfl (fun w h => h) Try.underlying23 infoa) h2x ?_
  try simp only [Act.put, lay_out]
  refine wpAnyH_take (i := 21) (v := .agg (ba 16 a)) rfl (by kernel_rfl) (by kernel_rfl) (by kernel_rfl) (fun _ _ _ h => h) (yields_load_ba (by rfl) 23 _ rfl (w.heap.size + 1) 16 23 5 a rfl (fun w h => h) Try.underlying23 infoa) h2x ?_
  try simp only [Act.put, lay_out]
  refine wpAnyH_ready (rs := [19]) (by kernel_rfl) (by simp) (AllReadyH.cons rfl (fun K hK => ?_) AllReadyH.nil)
  rw [if_pos (by rfl)]
  go_simp
  go_at_call 15
  (with_reducible refine (unblock_any d bx c cap R R1 Y a _ HRR.out.1 HRR.out.2.1 HRR.out.2.2 HA.out HQ2.out.ci).mono ?_); rintro e wa3 ⟨rfl, hci, ho⟩
  have HQ3 := hid (HQ2.out.asked hci ho)
  refine hK.out _ _ (HQ3.out.fa) (fun h3x => ?_)
  clear hK K
  try simp only [Act.put, lay_out]
  refine wpAnyH_ready (rs := [20]) (by kernel_rfl) (by simp) (AllReadyH.cons rfl (fun K hK => ?_) AllReadyH.nil)
  rw [if_pos (by rfl)]
  go_simp
  go_at_call 14
  (with_reducible refine (block_any d bx c cap R R1 Y (unbF Y R a) _ HRR.out.1 HRR.out.2.1 HRR.out.2.2 HUA.out HQ3.out.ci).mono ?_); rintro e wa4 ⟨rfl, hci, ho⟩
  have HQ4 := hid (HQ3.out.asked hci ho)
  refine hK.out _ _ (HQ4.out.fa) (fun h4x => ?_)
  clear hK K
  try simp only [Act.put, lay_out]
  refine wpAnyH_take (i := 22) (v := .bool false) rfl (by kernel_rfl) (by kernel_rfl) (by kernel_rfl) (fun _ _ _ h => h) (.inl ⟨by rfl, fun w _ => exec_ne16 (.tmp 42) (.tmp 43) rfl (f := (blkF Y R (unbF Y R a))) (g := a) (q := true) rfl rfl ⟨fun _ => rfl, fun _ => E2.out⟩⟩) h4x ?_
  try simp only [Act.put, lay_out]
  refine wpAnyH_take (i := 23) (v := .bool false) rfl (by kernel_rfl) (by kernel_rfl) (by kernel_rfl) (fun _ _ _ h => h) (.inl ⟨by rfl, fun w hw => by clear hw; go_simp⟩) h4x ?_
  try simp only [Act.put, lay_out]
  refine wpAnyH_done (by kernel_rfl) ?_ _
  refine NoPanic.normal ?_
  clear h0 h1x h2x h3x h4x
  try simp only [Act.put, lay_out]
  go_wp2_with (first
    | (refine step_load_ba rfl 23 (.tmp 6) rfl (w.heap.size + 1) 16 23 5 a rfl HQ4.out.fa Try.underlying23 infoa ?_)
    | (go_at_call 7; (with_reducible refine (columns_any16 a _ HA.out).mono ?_); rintro e wb1 ⟨rfl, hlow⟩; have HT1 := hid (HQ4.out.self hlow); clear hlow)
    | (go_at_call 7; (with_reducible refine (columns_any16 (mxC a) _ (mxC_b HA.out)).mono ?_); rintro e wb2 ⟨rfl, hlow⟩; have HT2 := hid (HT1.out.self hlow); clear hlow)
    | (go_at_call 7; (with_reducible refine (columns_any16 (mxC (mxC a)) _ (mxC_b (mxC_b HA.out))).mono ?_); rintro e wb3 ⟨rfl, hlow⟩; have HT3 := hid (HT2.out.self hlow); clear hlow; have HX : Hid (LX w ((wb3.alloc (.cells #[.int .u8 0, .int .u8 0, .int .u8 0, .int .u8 0, .int .u8 0, .int .u8 0, .int .u8 0, .int .u8 0, .int .u8 0, .int .u8 0, .int .u8 0, .int .u8 0, .int .u8 0, .int .u8 0, .int .u8 0, .int .u8 0] 23)).setRow wb3.heap.size (ba 16 (mxB a))) k a b d bx c cap R1 Y wb3.heap.size (mxB a)) := hid (HT3.out.laid (mxB a)))
    | (refine step_store_ba rfl 23 (.tmp 11) (.tmp 49) rfl wb3.heap.size 16 23 (fun _ => 0) (mxB a) rfl rfl (At.new wb3 16 23 (fun _ => 0)) infoa ?_; generalize (wb3.alloc (.cells #[.int .u8 0, .int .u8 0, .int .u8 0, .int .u8 0, .int .u8 0, .int .u8 0, .int .u8 0, .int .u8 0, .int .u8 0, .int .u8 0, .int .u8 0, .int .u8 0, .int .u8 0, .int .u8 0, .int .u8 0, .int .u8 0] 23)).setRow wb3.heap.size (ba 16 (mxB a)) = wb4 at *; generalize wb3.heap.size = n at *))
  refine wp_region_noPanic ?_
  have HM := hid HX.out.drew
  refine wp_region_held_drew (S := fun w' => At w' (w.heap.size + 1) 16 23 a ∧ At w' n 16 23 (mxB a)) (by kernel_rfl) (⟨HM.out.fa, HM.out.fx⟩) (fun h0 => ?_)
  generalize wb4.drew = w5 at *
  refine wpAnyH_take (i := 0) (v := .agg (ba 16 a)) rfl (by kernel_rfl) (by kernel_rfl) (by kernel_rfl) (fun _ _ _ h => h) (yields_load_ba (by rfl) 23 _ rfl (w.heap.size + 1) 16 23 5 a rfl (fun w h => h.1) Try.underlying23 infoa) h0 ?_
  try simp only [Act.put, lay_out]
  refine wpAnyH_take (i := 2) (v := .agg (ba 16 (mxB a))) rfl (by kernel_rfl) (by kernel_rfl) (by kernel_rfl) (fun _ _ _ h => h) (yields_load_ba (by rfl) 23 _ rfl n 16 23 5 (mxB a) rfl (fun w h => h.2) Try.underlying23 infoa) h0 ?_
  try simp only [Act.put, lay_out]
  refine wpAnyH_ready (rs := [1]) (by kernel_rfl) (by simp) (AllReadyH.cons rfl (fun K hK => ?_) AllReadyH.nil)
  rw [if_pos (by rfl)]
  go_simp
  go_at_call 11
  (with_reducible refine (backColumns_any a _ HA.out).mono ?_); rintro e wc1 ⟨rfl, hlow⟩
  have HQ1 := hid (HM.out.self hlow)
  refine hK.out _ _ (⟨HQ1.out.fa, HQ1.out.fx⟩) (fun h1x => ?_)
  clear hK K
  try simp only [Act.put, lay_out]
  refine wpAnyH_take (i := 3) (v := .bool false) rfl (by kernel_rfl) (by kernel_rfl) (by kernel_rfl) (fun _ _ _ h => h) (.inl ⟨by rfl, fun w _ => exec_ne16 (.tmp 51) (.tmp 52) rfl (f := (mxB a)) (g := (mxB a)) (q := true) rfl rfl ⟨fun _ => rfl, fun _ => Eq16.refl _⟩⟩) h1x ?_
  try simp only [Act.put, lay_out]
  refine wpAnyH_take (i := 4) (v := .bool false) rfl (by kernel_rfl) (by kernel_rfl) (by kernel_rfl) (fun _ _ _ h => h) (.inl ⟨by rfl, fun w hw => by clear hw; go_simp⟩) h1x ?_
  try simp only [Act.put, lay_out]
  refine wpAnyH_take (i := 5) (v := .agg (ba 16 (mxB a))) rfl (by kernel_rfl) (by kernel_rfl) (by kernel_rfl) (fun _ _ _ h => h) (yields_load_ba (by rfl) 23 _ rfl n 16 23 5 (mxB a) rfl (fun w h => h.2) Try.underlying23 infoa) h1x ?_
  try simp only [Act.put, lay_out]
  refine wpAnyH_take (i := 7) (v := .agg (ba 16 a)) rfl (by kernel_rfl) (by kernel_rfl) (by kernel_rfl) (fun _ _ _ h => h) (yields_load_ba (by rfl) 23 _ rfl (w.heap.size + 1) 16 23 5 a rfl (fun w h => h.1) Try.underlying23 infoa) h1x ?_
  try simp only [Act.put, lay_out]
  refine wpAnyH_ready (rs := [6]) (by kernel_rfl) (by simp) (AllReadyH.cons rfl (fun K hK => ?_) AllReadyH.nil)
  rw [if_pos (by rfl)]
  go_simp
  go_at_call 7
  (with_reducible refine (columns_any16 (mxB a) _ (mxB_b HA.out)).mono ?_); rintro e wc2 ⟨rfl, hlow⟩
  have HQ2 := hid (HQ1.out.self hlow)
  refine hK.out _ _ (⟨HQ2.out.fa, HQ2.out.fx⟩) (fun h2x => ?_)
  clear hK K
  try simp only [Act.put, lay_out]
  refine wpAnyH_take (i := 8) (v := .bool false) rfl (by kernel_rfl) (by kernel_rfl) (by kernel_rfl) (fun _ _ _ h => h) (.inl ⟨by rfl, fun w _ => exec_ne16 (.tmp 56) (.tmp 57) rfl (f := (mxC (mxB a))) (g := a) (q := true) rfl rfl ⟨fun _ => rfl, fun _ => E3.out⟩⟩) h2x ?_
  try simp only [Act.put, lay_out]
  refine wpAnyH_take (i := 9) (v := .bool false) rfl (by kernel_rfl) (by kernel_rfl) (by kernel_rfl) (fun _ _ _ h => h) (.inl ⟨by rfl, fun w hw => by clear hw; go_simp⟩) h2x ?_
  try simp only [Act.put, lay_out]
  refine wpAnyH_take (i := 10) (v := .bool false) rfl (by kernel_rfl) (by kernel_rfl) (by kernel_rfl) (fun _ _ _ h => h) (.inl ⟨by rfl, fun w hw => by clear hw; go_simp⟩) h2x ?_
  try simp only [Act.put, lay_out]
  refine wpAnyH_take (i := 11) (v := .agg (ba 16 a)) rfl (by kernel_rfl) (by kernel_rfl) (by kernel_rfl) (fun _ _ _ h => h) (yields_load_ba (by rfl) 23 _ rfl (w.heap.size + 1) 16 23 5 a rfl (fun w h => h.1) Try.underlying23 infoa) h2x ?_
  try simp only [Act.put, lay_out]
  refine wpAnyH_take (i := 14) (v := .agg (ba 16 a)) rfl (by kernel_rfl) (by kernel_rfl) (by kernel_rfl) (fun _ _ _ h => h) (yields_load_ba (by rfl) 23 _ rfl (w.heap.size + 1) 16 23 5 a rfl (fun w h => h.1) Try.underlying23 infoa) h2x ?_
  try simp only [Act.put, lay_out]
  refine wpAnyH_ready (rs := [12]) (by kernel_rfl) (by simp) (AllReadyH.cons rfl (fun K hK => ?_) AllReadyH.nil)
  rw [if_pos (by rfl)]
  go_simp
  go_at_call 5
  (with_reducible refine (rows_any a _).mono ?_); rintro e wc3 ⟨rfl, hlow⟩
  have HQ3 := hid (HQ2.out.self hlow)
  refine hK.out _ _ (⟨HQ3.out.fa, HQ3.out.fx⟩) (fun h3x => ?_)
  clear hK K
  try simp only [Act.put, lay_out]
  refine wpAnyH_ready (rs := [13]) (by kernel_rfl) (by simp) (AllReadyH.cons rfl (fun K hK => ?_) AllReadyH.nil)
  rw [if_pos (by rfl)]
  go_simp
  go_at_call 9
  (with_reducible refine (backRows_any (shR a) _).mono ?_); rintro e wc4 ⟨rfl, hlow⟩
  have HQ4 := hid (HQ3.out.self hlow)
  refine hK.out _ _ (⟨HQ4.out.fa, HQ4.out.fx⟩) (fun h4x => ?_)
  clear hK K
  try simp only [Act.put, lay_out]
  refine wpAnyH_take (i := 15) (v := .bool false) rfl (by kernel_rfl) (by kernel_rfl) (by kernel_rfl) (fun _ _ _ h => h) (.inl ⟨by rfl, fun w _ => exec_ne16 (.tmp 63) (.tmp 64) rfl (f := (shB (shR a))) (g := a) (q := true) rfl rfl ⟨fun _ => rfl, fun _ => E4.out⟩⟩) h4x ?_
  try simp only [Act.put, lay_out]
  refine wpAnyH_take (i := 16) (v := .bool false) rfl (by kernel_rfl) (by kernel_rfl) (by kernel_rfl) (fun _ _ _ h => h) (.inl ⟨by rfl, fun w hw => by clear hw; go_simp⟩) h4x ?_
  try simp only [Act.put, lay_out]
  refine wpAnyH_done (by kernel_rfl) ?_ _
  refine NoPanic.normal ?_
  clear h0 h1x h2x h3x h4x
  try simp only [Act.put, lay_out]
  go_wp2
  refine wp_region_noPanic ?_
  have HO := hid HQ4.out.drew
  refine wp_region_held_drew (S := fun w' => At w' (w.heap.size + 1) 16 23 a ∧ At w' (w.heap.size + 2) 16 23 b) (by kernel_rfl) (⟨HO.out.fa, HO.out.fb⟩) (fun h0 => ?_)
  generalize wc4.drew = w6 at *
  refine wpAnyH_take (i := 0) (v := .agg (ba 16 a)) rfl (by kernel_rfl) (by kernel_rfl) (by kernel_rfl) (fun _ _ _ h => h) (yields_load_ba (by rfl) 23 _ rfl (w.heap.size + 1) 16 23 5 a rfl (fun w h => h.1) Try.underlying23 infoa) h0 ?_
  try simp only [Act.put, lay_out]
  refine wpAnyH_take (i := 1) (v := .slice (some ⟨w.heap.size + 2, 0, none⟩) 16 16) rfl (by kernel_rfl) (by kernel_rfl) (by kernel_rfl) (fun _ _ _ h => h) (.inl ⟨by rfl, fun w hw => by clear hw; go_simp⟩) h0 ?_
  try simp only [Act.put, lay_out]
  refine wpAnyH_take (i := 4) (v := .agg (ba 16 a)) rfl (by kernel_rfl) (by kernel_rfl) (by kernel_rfl) (fun _ _ _ h => h) (yields_load_ba (by rfl) 23 _ rfl (w.heap.size + 1) 16 23 5 a rfl (fun w h => h.1) Try.underlying23 infoa) h0 ?_
  try simp only [Act.put, lay_out]
  refine wpAnyH_take (i := 6) (v := .agg (ba 16 b)) rfl (by kernel_rfl) (by kernel_rfl) (by kernel_rfl) (fun _ _ _ h => h) (yields_load_ba (by rfl) 23 _ rfl (w.heap.size + 2) 16 23 5 b rfl (fun w h => h.2) Try.underlying23 infoa) h0 ?_
  try simp only [Act.put, lay_out]
  refine wpAnyH_ready (rs := [2]) (by kernel_rfl) (by simp) (AllReadyH.cons rfl (fun K hK => ?_) AllReadyH.nil)
  rw [if_pos (by rfl)]
  go_simp
  go_at_call 20
  (with_reducible refine (refadd_any a b (w.heap.size + 2) 0 16 _ HA.out (Wd.of_at HO.out.fb HB.out.all)).mono ?_); rintro e wd1 ⟨rfl, hlow⟩
  have HQ1 := hid (HO.out.self hlow)
  refine hK.out _ _ (⟨HQ1.out.fa, HQ1.out.fb⟩) (fun h1x => ?_)
  clear hK K
  try simp only [Act.put, lay_out]
  refine wpAnyH_ready (rs := [3]) (by kernel_rfl) (by simp) (AllReadyH.cons rfl (fun K hK => ?_) AllReadyH.nil)
  rw [if_pos (by rfl)]
  go_simp
  go_at_call 7
  (with_reducible refine (columns_any16 (addF a b) _ (addF_b HA.out HB.out)).mono ?_); rintro e wd2 ⟨rfl, hlow⟩
  have HQ2 := hid (HQ1.out.self hlow)
  refine hK.out _ _ (⟨HQ2.out.fa, HQ2.out.fb⟩) (fun h2x => ?_)
  clear hK K
  try simp only [Act.put, lay_out]
  refine wpAnyH_ready (rs := [5]) (by kernel_rfl) (by simp) (AllReadyH.cons rfl (fun K hK => ?_) AllReadyH.nil)
  rw [if_pos (by rfl)]
  go_simp
  go_at_call 7
  (with_reducible refine (columns_any16 a _ HA.out).mono ?_); rintro e wd3 ⟨rfl, hlow⟩
  have HQ3 := hid (HQ2.out.self hlow)
  refine hK.out _ _ (⟨HQ3.out.fa, HQ3.out.fb⟩) (fun h3x => ?_)
  clear hK K
  try simp only [Act.put, lay_out]
  refine wpAnyH_ready (rs := [7]) (by kernel_rfl) (by simp) (AllReadyH.cons rfl (fun K hK => ?_) AllReadyH.nil)
  rw [if_pos (by rfl)]
  go_simp
  go_at_call 7
  (with_reducible refine (columns_any16 b _ HB.out).mono ?_); rintro e wd4 ⟨rfl, hlow⟩
  have HQ4 := hid (HQ3.out.self hlow)
  refine hK.out _ _ (⟨HQ4.out.fa, HQ4.out.fb⟩) (fun h4x => ?_)
  clear hK K
  try simp only [Act.put, lay_out]
  refine wpAnyH_ready (rs := [8]) (by kernel_rfl) (by simp) (AllReadyH.cons rfl (fun K hK => ?_) AllReadyH.nil)
  rw [if_pos (by rfl)]
  go_simp
  go_at_call 21
  (with_reducible refine (row_any (mxC b) _).mono ?_); rintro e wd5 ⟨rfl, hat, hlow⟩
  have HQ5 := hid (HQ4.out.self hlow)
  refine hK.out _ _ (⟨HQ5.out.fa, HQ5.out.fb⟩) (fun h5x => ?_)
  clear hK K
  try simp only [Act.put, lay_out]
  refine wpAnyH_ready (rs := [9]) (by kernel_rfl) (by simp) (AllReadyH.cons rfl (fun K hK => ?_) AllReadyH.nil)
  rw [if_pos (by rfl)]
  go_simp
  go_at_call 20
  (with_reducible refine (refadd_any (mxC a) (mxC b) _ 0 16 _ (mxC_b HA.out) (Wd.of_at hat (mxC_b HB.out).all)).mono ?_); rintro e wd6 ⟨rfl, hlow⟩
  have HQ6 := hid (HQ5.out.self hlow)
  refine hK.out _ _ (⟨HQ6.out.fa, HQ6.out.fb⟩) (fun h6x => ?_)
  clear hK K
  try simp only [Act.put, lay_out]
  refine wpAnyH_take (i := 10) (v := .bool true) rfl (by kernel_rfl) (by kernel_rfl) (by kernel_rfl) (fun _ _ _ h => h) (.inl ⟨by rfl, fun w _ => exec_eq16 (.tmp 70) (.tmp 76) rfl (f := (mxC (addF a b))) (g := (addF (mxC a) (mxC b))) (q := true) rfl rfl ⟨fun _ => rfl, fun _ => E5.out⟩⟩) h6x ?_
  try simp only [Act.put, lay_out]
  refine wpAnyH_take (i := 11) (v := .bool true) rfl (by kernel_rfl) (by kernel_rfl) (by kernel_rfl) (fun _ _ _ h => h) (.inl ⟨by rfl, fun w hw => by clear hw; go_simp⟩) h6x ?_
  try simp only [Act.put, lay_out]
  refine wpAnyH_take (i := 12) (v := .pointer (some ⟨d, 0, none⟩)) rfl (by kernel_rfl) (by kernel_rfl) (by kernel_rfl) (fun _ _ _ h => h) (.inl ⟨by rfl, fun w hw => by clear hw; go_simp⟩) h6x ?_
  try simp only [Act.put, lay_out]
  refine wpAnyH_take (i := 13) (v := .agg (ba 16 a)) rfl (by kernel_rfl) (by kernel_rfl) (by kernel_rfl) (fun _ _ _ h => h) (yields_load_ba (by rfl) 23 _ rfl (w.heap.size + 1) 16 23 5 a rfl (fun w h => h.1) Try.underlying23 infoa) h6x ?_
  try simp only [Act.put, lay_out]
  refine wpAnyH_take (i := 15) (v := .pointer (some ⟨d, 0, none⟩)) rfl (by kernel_rfl) (by kernel_rfl) (by kernel_rfl) (fun _ _ _ h => h) (.inl ⟨by rfl, fun w hw => by clear hw; go_simp⟩) h6x ?_
  try simp only [Act.put, lay_out]
  refine wpAnyH_take (i := 16) (v := .agg (ba 16 b)) rfl (by kernel_rfl) (by kernel_rfl) (by kernel_rfl) (fun _ _ _ h => h) (yields_load_ba (by rfl) 23 _ rfl (w.heap.size + 2) 16 23 5 b rfl (fun w h => h.2) Try.underlying23 infoa) h6x ?_
  try simp only [Act.put, lay_out]
  refine wpAnyH_take (i := 19) (v := .agg (ba 16 a)) rfl (by kernel_rfl) (by kernel_rfl) (by kernel_rfl) (fun _ _ _ h => h) (yields_load_ba (by rfl) 23 _ rfl (w.heap.size + 1) 16 23 5 a rfl (fun w h => h.1) Try.underlying23 infoa) h6x ?_
  try simp only [Act.put, lay_out]
  refine wpAnyH_take (i := 20) (v := .agg (ba 16 b)) rfl (by kernel_rfl) (by kernel_rfl) (by kernel_rfl) (fun _ _ _ h => h) (yields_load_ba (by rfl) 23 _ rfl (w.heap.size + 2) 16 23 5 b rfl (fun w h => h.2) Try.underlying23 infoa) h6x ?_
  try simp only [Act.put, lay_out]
  refine wpAnyH_take (i := 21) (v := .bool q) rfl (by kernel_rfl) (by kernel_rfl) (by kernel_rfl) (fun _ _ _ h => h) (.inl ⟨by rfl, fun w _ => exec_eq16 (.tmp 86) (.tmp 87) rfl (f := a) (g := b) (q := q) rfl rfl E7.out⟩) h6x ?_
  try simp only [Act.put, lay_out]
  refine wpAnyH_ready (rs := [14]) (by kernel_rfl) (by simp) (AllReadyH.cons rfl (fun K hK => ?_) AllReadyH.nil)
  rw [if_pos (by rfl)]
  go_simp
  go_at_call 14
  (with_reducible refine (block_any d bx c cap R R1 Y a _ HRR.out.1 HRR.out.2.1 HRR.out.2.2 HA.out HQ6.out.ci).mono ?_); rintro e wd7 ⟨rfl, hci, ho⟩
  have HQ7 := hid (HQ6.out.toLE.asked hci ho)
  refine hK.out _ _ (⟨HQ7.out.fa, HQ7.out.fb⟩) (fun h7x => ?_)
  clear hK K
  try simp only [Act.put, lay_out]
  refine wpAnyH_ready (rs := [17]) (by kernel_rfl) (by simp) (AllReadyH.cons rfl (fun K hK => ?_) AllReadyH.nil)
  rw [if_pos (by rfl)]
  go_simp
  go_at_call 14
  (with_reducible refine (block_any d bx c cap R R1 Y b _ HRR.out.1 HRR.out.2.1 HRR.out.2.2 HB.out HQ7.out.ci).mono ?_); rintro e wd8 ⟨rfl, hci, ho⟩
  have HQ8 := hid (HQ7.out.asked hci ho)
  refine hK.out _ _ (⟨HQ8.out.fa, HQ8.out.fb⟩) (fun h8x => ?_)
  clear hK K
  try simp only [Act.put, lay_out]
  refine wpAnyH_take (i := 18) (v := .bool q) rfl (by kernel_rfl) (by kernel_rfl) (by kernel_rfl) (fun _ _ _ h => h) (.inl ⟨by rfl, fun w _ => exec_eq16 (.tmp 81) (.tmp 84) rfl (f := (blkF Y R a)) (g := (blkF Y R b)) (q := q) rfl rfl E6.out⟩) h8x ?_
  try simp only [Act.put, lay_out]
  refine wpAnyH_take (i := 22) (v := .bool true) rfl (by kernel_rfl) (by kernel_rfl) (by kernel_rfl) (fun _ _ _ h => h) (.inl ⟨by rfl, fun w hw => by clear hw; cases q <;> go_simp⟩) h8x ?_
  try simp only [Act.put, lay_out]
  refine wpAnyH_take (i := 23) (v := .bool true) rfl (by kernel_rfl) (by kernel_rfl) (by kernel_rfl) (fun _ _ _ h => h) (.inl ⟨by rfl, fun w hw => by clear hw; go_simp⟩) h8x ?_
  try simp only [Act.put, lay_out]
  refine wpAnyH_take (i := 24) (v := .bool true) rfl (by kernel_rfl) (by kernel_rfl) (by kernel_rfl) (fun _ _ _ h => h) (.inl ⟨by rfl, fun w hw => by clear hw; go_simp⟩) h8x ?_
  try simp only [Act.put, lay_out]
  refine wpAnyH_ready (rs := [25]) (by kernel_rfl) (by simp) (AllReadyH.cons rfl (fun K hK => ?_) AllReadyH.nil)
  rw [if_pos (by rfl)]
  go_simp
  go_at_call 17
  (with_reducible refine (aesAwake_any _).mono ?_); rintro e wd9 ⟨rfl, hlow⟩
  have HQ9 := hid (HQ8.out.self hlow)
  refine hK.out _ _ (⟨HQ9.out.fa, HQ9.out.fb⟩) (fun h9x => ?_)
  clear hK K
  try simp only [Act.put, lay_out]
  refine wpAnyH_take (i := 26) (v := .bool true) rfl (by kernel_rfl) (by kernel_rfl) (by kernel_rfl) (fun _ _ _ h => h) (.inl ⟨by rfl, fun w hw => by clear hw; go_simp⟩) h9x ?_
  try simp only [Act.put, lay_out]
  refine wpAnyH_take (i := 27) (v := .bool true) rfl (by kernel_rfl) (by kernel_rfl) (by kernel_rfl) (fun _ _ _ h => h) (.inl ⟨by rfl, fun w hw => by clear hw; go_simp⟩) h9x ?_
  try simp only [Act.put, lay_out]
  refine wpAnyH_done (by kernel_rfl) ?_ _
  refine NoPanic.normal ?_
  clear h0 h1x h2x h3x h4x h5x h6x h7x h8x h9x
  try simp only [Act.put, lay_out]
  go_wp2
  go_ret
  exact ⟨rfl, HQ9.out.low⟩
end Go.Proofs.Ythkanhhpkaigoaa
