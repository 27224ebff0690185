import Derived.Test.YtffoinnllihdeaaProg
import Derived.Test.YtffoinnllihdeaaWif
import Derived.Deep.CutRange
import Derived.Deep.CutBlock
/- Wire: an act of both machines. -/
namespace Go.Proofs.Ytffoinnllihdeaa
open Go.RowKit
set_option maxRecDepth 100000
abbrev acC (a : Act8) : Array Value := #[.int .i64 a.K, .int .i64 a.o.K, .int .i64 a.o.D, .int .i64 a.o.A, .int .i64 a.o.B, .int .i64 a.o.E, .int .u64 (a.o.C : Int), .int .u64 (a.X : Int)]
/-- Both machines, and the boxes of an act and of its op. -/
structure Lz (Pm : World → Nat → Ms → (Nat → Prop) → Prop) (lo : Nat) (X : Nat → Prop) (W : World) (n : Nat) (a : Act8) (wx : World) (p b : Nat) (S1 S2 : Ms) : Prop where
  z : Bz Pm lo X W wx p b S1 S2
  act : wx.heap[n]? = some (.cells (acC a) 45 (0, 0))
  op : wx.heap[n + 1]? = some (.cells (opCs a.o) 43 (0, 0))
  hx : X n ∧ X (n + 1)
section
variable {Pm : World → Nat → Ms → (Nat → Prop) → Prop} {lo n : Nat} {X : Nat → Prop} {W wx wy : World} {a : Act8} {p b : Nat} {S1 S2 S1' S2' : Ms}
theorem Lz.on {p' : Nat} (h : Lz Pm lo X W n a wx p b S1 S2) (hz : Bz Pm lo X W wy p' b S1' S2') (hs : ∀ k, X k → wy.heap[k]? = wx.heap[k]?) : Lz Pm lo X W n a wy p' b S1' S2' :=
  ⟨hz, (hs _ h.hx.1).trans h.act, (hs _ h.hx.2).trans h.op, h.hx⟩
theorem Lz.self (hM : Mach Pm) (h : Lz Pm lo X W n a wx p b S1 S2) (hb : Below wx.heap.size wx wy) : Lz Pm lo X W n a wy p b S1 S2 :=
  ⟨h.z.self hM hb, (hb.block _ (Array.getElem?_eq_some_iff.1 h.act).1).trans h.act, (hb.block _ (Array.getElem?_eq_some_iff.1 h.op).1).trans h.op, h.hx⟩
theorem Lz.drew (hM : Mach Pm) (h : Lz Pm lo X W n a wx p b S1 S2) : Lz Pm lo X W n a wx.drew p b S1 S2 := h.self hM ((Below.refl _ _).drew)
end
set_option maxHeartbeats 6400000 in
theorem ldoes_0 {Pm : World → Nat → Ms → (Nat → Prop) → Prop} (hM : Mach Pm) {lo : Nat} {X : Nat → Prop} {W w : World} {p b k : Nat} {S : Ms} (a : Act8) (h : Bz Pm lo X W w p b S S) (hq : Bq k S) (hk : k ≤ 100000) (ha : acwf a) (hK : a.K = 0) :
    Calls Try.prog 13 #[.pointer (some ⟨p, 0, none⟩), .pointer (some ⟨b, 0, none⟩), .agg (acC a)] w fun e w' => e = .returned (.bool true) ∧ Bz Pm lo X W w' p b (S.actS a) (S.actS a) ∧ Below lo W w' := by
  have e5 : S.actS a = S.doS a.o a.X := by unfold Ms.actS Ms.opA Ms.wdA; simp [hK]
  rw [e5]
  clear e5
  have HB : Hid (Below w.heap.size w ((w.alloc (.cells (acC a) 45)).alloc (.cells (opCs a.o) 43))) := hid (((Below.refl _ _).alloc (Nat.le_refl _) _).alloc (by simp) _)
  have n1 : ((w.alloc (.cells (acC a) 45)).alloc (.cells (opCs a.o) 43)).heap[w.heap.size]? = some (.cells (acC a) 45 (0, 0)) := (heap_alloc_old _ _ (by simp)).trans (heap_alloc_new _ _)
  have n2 : ((w.alloc (.cells (acC a) 45)).alloc (.cells (opCs a.o) 43)).heap[w.heap.size + 1]? = some (.cells (opCs a.o) 43 (0, 0)) := by have := heap_alloc_new (w.alloc (.cells (acC a) 45)) (.cells (opCs a.o) 43); simpa using this
  have n3 : ((w.alloc (.cells (acC a) 45)).alloc (.cells (opCs a.o) 43)).heap.size = w.heap.size + 2 := by simp
  obtain ⟨w2, hw2⟩ : ∃ w2, (w.alloc (.cells (acC a) 45)).alloc (.cells (opCs a.o) 43) = w2 := ⟨_, rfl⟩
  rw [hw2] at HB n1 n2 n3
  have HW2 := hid hw2
  have Z : Hid (Lz Pm lo (fun k => X k ∨ w.heap.size ≤ k ∧ k < w2.heap.size) W w.heap.size a w2 p b S S) := hid ⟨h.more hM HB.out, n1, n2, .inr ⟨Nat.le_refl _, by omega⟩, .inr ⟨by omega, by omega⟩⟩
  have HA := hid ha
  have HQ := hid hq
  have HK2 := hid hk
  have HK : Hid (k ≤ 1000000) := hid (by omega)
  have HX : Hid (a.X < 2 ^ 64) := hid (by have := ha.2.2; omega)
  have HO : Hid (opwf a.o) := hid ha.2.1
  clear h hq hk ha hw2 n1 n2 n3
  go_enter Try.func13, Try.ntmps13
  go_upto_region 2 with fail
  rw [HW2.out]
  have c0 := row_c (i := 0) (u := .int .i64 a.K) Z.out.act rfl
  rw [hK] at c0
  clear hK
  go_wp2_with fail
  have Z0 := hid (Z.out.drew hM)
  refine wp_region_noPanic ?_
  refine wp_region_held_drew (S := fun w' => w'.heap[w.heap.size]? = some (.cells (acC a) 45 (0, 0)) ∧ w'.heap[w.heap.size + 1]? = some (.cells (opCs a.o) 43 (0, 0))) (by kernel_rfl) (⟨Z0.out.act, Z0.out.op⟩) (fun h0 => ?_)
  generalize w2.drew = y1 at *
  refine wpAnyH_take (i := 0) (v := .pointer (some ⟨p, 0, none⟩)) rfl (by kernel_rfl) (by kernel_rfl) (by kernel_rfl) (fun _ _ _ h => h) (.inl ⟨by rfl, fun w hw => by clear hw; go_simp⟩) h0 ?_
  try simp only [Act.put, lay_out]
  refine wpAnyH_take (i := 1) (v := .agg (opCs a.o)) rfl (by kernel_rfl) (by kernel_rfl) (by kernel_rfl) (fun _ _ _ h => h) (yields_load_row (by rfl) 43 _ rfl (w.heap.size + 1) 43 (opCs a.o) _ rfl (fun w h => h.2) Try.underlying43 rfl (by kernel_rfl)) h0 ?_
  try simp only [Act.put, lay_out]
  refine wpAnyH_take (i := 2) (v := .pointer (some ⟨w.heap.size, 7, none⟩)) rfl (by kernel_rfl) (by kernel_rfl) (by kernel_rfl) (fun _ _ _ h => h) (.inl ⟨by rfl, fun w hw => by clear hw; go_simp⟩) h0 ?_
  try simp only [Act.put, lay_out]
  refine wpAnyH_take (i := 3) (v := .int .u64 (a.X : Int)) rfl (by kernel_rfl) (by kernel_rfl) (by kernel_rfl) (fun _ _ _ h => h) (.inl ⟨by rfl, fun w' hw => by have hc := row_c (i := 7) (u := .int .u64 (a.X : Int)) hw.1 rfl; clear hw; go_simp⟩) h0 ?_
  try simp only [Act.put, lay_out]
  refine wpAnyH_take (i := 5) (v := .pointer (some ⟨b, 0, none⟩)) rfl (by kernel_rfl) (by kernel_rfl) (by kernel_rfl) (fun _ _ _ h => h) (.inl ⟨by rfl, fun w hw => by clear hw; go_simp⟩) h0 ?_
  try simp only [Act.put, lay_out]
  refine wpAnyH_take (i := 6) (v := .agg (opCs a.o)) rfl (by kernel_rfl) (by kernel_rfl) (by kernel_rfl) (fun _ _ _ h => h) (yields_load_row (by rfl) 43 _ rfl (w.heap.size + 1) 43 (opCs a.o) _ rfl (fun w h => h.2) Try.underlying43 rfl (by kernel_rfl)) h0 ?_
  try simp only [Act.put, lay_out]
  refine wpAnyH_take (i := 7) (v := .pointer (some ⟨w.heap.size, 7, none⟩)) rfl (by kernel_rfl) (by kernel_rfl) (by kernel_rfl) (fun _ _ _ h => h) (.inl ⟨by rfl, fun w hw => by clear hw; go_simp⟩) h0 ?_
  try simp only [Act.put, lay_out]
  refine wpAnyH_take (i := 8) (v := .int .u64 (a.X : Int)) rfl (by kernel_rfl) (by kernel_rfl) (by kernel_rfl) (fun _ _ _ h => h) (.inl ⟨by rfl, fun w' hw => by have hc := row_c (i := 7) (u := .int .u64 (a.X : Int)) hw.1 rfl; clear hw; go_simp⟩) h0 ?_
  try simp only [Act.put, lay_out]
  refine wpAnyH_ready (rs := [4]) (by kernel_rfl) (by simp) (AllReadyH.cons rfl (fun K hK => ?_) AllReadyH.nil)
  rw [if_pos (by rfl)]
  go_simp
  go_at_call 17
  (with_reducible refine (zdo_ hM a.o a.X Z0.out.z HQ.out HK.out HO.out HX.out).mono ?_); rintro e w3 ⟨rfl, hz, hs⟩
  have Z1 := hid (Z0.out.on hz hs)
  clear hz hs
  refine hK.out _ _ (⟨Z1.out.act, Z1.out.op⟩) (fun h1x => ?_)
  clear hK K
  try simp only [Act.put, lay_out]
  refine wpAnyH_ready (rs := [9]) (by kernel_rfl) (by simp) (AllReadyH.cons rfl (fun K hK => ?_) AllReadyH.nil)
  rw [if_pos (by rfl)]
  go_simp
  go_at_call 35
  (with_reducible refine (ydo hM a.o a.X Z1.out.z HQ.out HK2.out HO.out HX.out).mono ?_); rintro e w5 ⟨rfl, hz, hs⟩
  have Z3 := hid (Z1.out.on hz hs)
  clear hz hs
  refine hK.out _ _ (⟨Z3.out.act, Z3.out.op⟩) (fun h2x => ?_)
  clear hK K
  try simp only [Act.put, lay_out]
  refine wpAnyH_take (i := 10) (v := .bool true) rfl (by kernel_rfl) (by kernel_rfl) (by kernel_rfl) (fun _ _ _ h => h) (.inl ⟨by rfl, fun w hw => by clear hw; go_simp⟩) h2x ?_
  try simp only [Act.put, lay_out]
  refine wpAnyH_take (i := 11) (v := .bool true) rfl (by kernel_rfl) (by kernel_rfl) (by kernel_rfl) (fun _ _ _ h => h) (.inl ⟨by rfl, fun w hw => by clear hw; go_simp⟩) h2x ?_
  try simp only [Act.put, lay_out]
  refine wpAnyH_done (by kernel_rfl) ?_ _
  refine NoPanic.normal ?_
  clear h0 h1x h2x
  try simp only [Act.put, lay_out]
  go_wp2
  go_ret
  exact ⟨rfl, Z3.out.z.less (fun _ h => .inl h), Z3.out.z.low⟩
set_option maxHeartbeats 6400000 in
theorem ldoes_1 {Pm : World → Nat → Ms → (Nat → Prop) → Prop} (hM : Mach Pm) {lo : Nat} {X : Nat → Prop} {W w : World} {p b k : Nat} {S : Ms} (a : Act8) (h : Bz Pm lo X W w p b S S) (hq : Bq k S) (hk : k ≤ 100000) (ha : acwf a) (hK : a.K = 1) :
    Calls Try.prog 13 #[.pointer (some ⟨p, 0, none⟩), .pointer (some ⟨b, 0, none⟩), .agg (acC a)] w fun e w' => e = .returned (.bool true) ∧ Bz Pm lo X W w' p b (S.actS a) (S.actS a) ∧ Below lo W w' := by
  have e5 : S.actS a = S.doS ⟨1, a.o.D, -1, -1, -1, 0⟩ 0 := by unfold Ms.actS Ms.opA Ms.wdA; simp [hK]
  rw [e5]
  clear e5
  have HB : Hid (Below w.heap.size w ((w.alloc (.cells (acC a) 45)).alloc (.cells (opCs a.o) 43))) := hid (((Below.refl _ _).alloc (Nat.le_refl _) _).alloc (by simp) _)
  have n1 : ((w.alloc (.cells (acC a) 45)).alloc (.cells (opCs a.o) 43)).heap[w.heap.size]? = some (.cells (acC a) 45 (0, 0)) := (heap_alloc_old _ _ (by simp)).trans (heap_alloc_new _ _)
  have n2 : ((w.alloc (.cells (acC a) 45)).alloc (.cells (opCs a.o) 43)).heap[w.heap.size + 1]? = some (.cells (opCs a.o) 43 (0, 0)) := by have := heap_alloc_new (w.alloc (.cells (acC a) 45)) (.cells (opCs a.o) 43); simpa using this
  have n3 : ((w.alloc (.cells (acC a) 45)).alloc (.cells (opCs a.o) 43)).heap.size = w.heap.size + 2 := by simp
  obtain ⟨w2, hw2⟩ : ∃ w2, (w.alloc (.cells (acC a) 45)).alloc (.cells (opCs a.o) 43) = w2 := ⟨_, rfl⟩
  rw [hw2] at HB n1 n2 n3
  have HW2 := hid hw2
  have Z : Hid (Lz Pm lo (fun k => X k ∨ w.heap.size ≤ k ∧ k < w2.heap.size) W w.heap.size a w2 p b S S) := hid ⟨h.more hM HB.out, n1, n2, .inr ⟨Nat.le_refl _, by omega⟩, .inr ⟨by omega, by omega⟩⟩
  have HA := hid ha
  have HQ := hid hq
  have HK2 := hid hk
  have HK : Hid (k ≤ 1000000) := hid (by omega)
  have HX : Hid (a.X < 2 ^ 64) := hid (by have := ha.2.2; omega)
  have HO : Hid (opwf ⟨1, a.o.D, -1, -1, -1, 0⟩) := hid (by have := opA_wf hq (by omega : k ≤ 1000000) ha; unfold Ms.opA at this; simpa [hK] using this)
  clear h hq hk ha hw2 n1 n2 n3
  go_enter Try.func13, Try.ntmps13
  go_upto_region 2 with fail
  rw [HW2.out]
  have c0 := row_c (i := 0) (u := .int .i64 a.K) Z.out.act rfl
  rw [hK] at c0
  clear hK
  go_wp2_with fail
  have Z0 := hid (Z.out.drew hM)
  refine wp_region_noPanic ?_
  refine wp_region_held_drew (S := fun w' => w'.heap[w.heap.size]? = some (.cells (acC a) 45 (0, 0)) ∧ w'.heap[w.heap.size + 1]? = some (.cells (opCs a.o) 43 (0, 0))) (by kernel_rfl) (⟨Z0.out.act, Z0.out.op⟩) (fun h0 => ?_)
  generalize w2.drew = y1 at *
  refine wpAnyH_take (i := 0) (v := .pointer (some ⟨p, 0, none⟩)) rfl (by kernel_rfl) (by kernel_rfl) (by kernel_rfl) (fun _ _ _ h => h) (.inl ⟨by rfl, fun w hw => by clear hw; go_simp⟩) h0 ?_
  try simp only [Act.put, lay_out]
  refine wpAnyH_take (i := 1) (v := .pointer (some ⟨w.heap.size + 1, 1, none⟩)) rfl (by kernel_rfl) (by kernel_rfl) (by kernel_rfl) (fun _ _ _ h => h) (.inl ⟨by rfl, fun w hw => by clear hw; go_simp⟩) h0 ?_
  try simp only [Act.put, lay_out]
  refine wpAnyH_take (i := 2) (v := .int .i64 a.o.D) rfl (by kernel_rfl) (by kernel_rfl) (by kernel_rfl) (fun _ _ _ h => h) (.inl ⟨by rfl, fun w' hw => by have hc := row_c (i := 1) (u := .int .i64 a.o.D) hw.2 rfl; clear hw; go_simp⟩) h0 ?_
  try simp only [Act.put, lay_out]
  refine wpAnyH_take (i := 4) (v := .pointer (some ⟨b, 0, none⟩)) rfl (by kernel_rfl) (by kernel_rfl) (by kernel_rfl) (fun _ _ _ h => h) (.inl ⟨by rfl, fun w hw => by clear hw; go_simp⟩) h0 ?_
  try simp only [Act.put, lay_out]
  refine wpAnyH_take (i := 5) (v := .pointer (some ⟨w.heap.size + 1, 1, none⟩)) rfl (by kernel_rfl) (by kernel_rfl) (by kernel_rfl) (fun _ _ _ h => h) (.inl ⟨by rfl, fun w hw => by clear hw; go_simp⟩) h0 ?_
  try simp only [Act.put, lay_out]
  refine wpAnyH_take (i := 6) (v := .int .i64 a.o.D) rfl (by kernel_rfl) (by kernel_rfl) (by kernel_rfl) (fun _ _ _ h => h) (.inl ⟨by rfl, fun w' hw => by have hc := row_c (i := 1) (u := .int .i64 a.o.D) hw.2 rfl; clear hw; go_simp⟩) h0 ?_
  try simp only [Act.put, lay_out]
  refine wpAnyH_ready (rs := [3]) (by kernel_rfl) (by simp) (AllReadyH.cons rfl (fun K hK => ?_) AllReadyH.nil)
  rw [if_pos (by rfl)]
  go_simp
  go_at_call 27
  (with_reducible refine (zrand hM a.o.D Z0.out.z HQ.out HK.out HO.out).mono ?_); rintro e w3 ⟨rfl, hz, hs⟩
  have Z1 := hid (Z0.out.on hz hs)
  clear hz hs
  refine hK.out _ _ (⟨Z1.out.act, Z1.out.op⟩) (fun h1x => ?_)
  clear hK K
  try simp only [Act.put, lay_out]
  refine wpAnyH_ready (rs := [7]) (by kernel_rfl) (by simp) (AllReadyH.cons rfl (fun K hK => ?_) AllReadyH.nil)
  rw [if_pos (by rfl)]
  go_simp
  go_at_call 36
  (with_reducible refine (dop0_any 1 a.o.D (-1) (-1) _).mono ?_); rintro e w4 ⟨rfl, hb⟩
  have Z2 := hid (Z1.out.self hM hb)
  clear hb
  refine hK.out _ _ (⟨Z2.out.act, Z2.out.op⟩) (fun h2x => ?_)
  clear hK K
  try simp only [Act.put, lay_out]
  refine wpAnyH_ready (rs := [8]) (by kernel_rfl) (by simp) (AllReadyH.cons rfl (fun K hK => ?_) AllReadyH.nil)
  rw [if_pos (by rfl)]
  go_simp
  go_at_call 35
  (with_reducible refine (ydo0 hM ⟨1, a.o.D, -1, -1, -1, 0⟩ Z2.out.z HQ.out HK2.out HO.out).mono ?_); rintro e w5 ⟨rfl, hz, hs⟩
  have Z3 := hid (Z2.out.on hz hs)
  clear hz hs
  refine hK.out _ _ (⟨Z3.out.act, Z3.out.op⟩) (fun h3x => ?_)
  clear hK K
  try simp only [Act.put, lay_out]
  refine wpAnyH_take (i := 9) (v := .bool true) rfl (by kernel_rfl) (by kernel_rfl) (by kernel_rfl) (fun _ _ _ h => h) (.inl ⟨by rfl, fun w hw => by clear hw; go_simp⟩) h3x ?_
  try simp only [Act.put, lay_out]
  refine wpAnyH_take (i := 10) (v := .bool true) rfl (by kernel_rfl) (by kernel_rfl) (by kernel_rfl) (fun _ _ _ h => h) (.inl ⟨by rfl, fun w hw => by clear hw; go_simp⟩) h3x ?_
  try simp only [Act.put, lay_out]
  refine wpAnyH_done (by kernel_rfl) ?_ _
  refine NoPanic.normal ?_
  clear h0 h1x h2x h3x
  try simp only [Act.put, lay_out]
  go_wp2
  go_ret
  exact ⟨rfl, Z3.out.z.less (fun _ h => .inl h), Z3.out.z.low⟩
set_option maxHeartbeats 6400000 in
theorem ldoes_2 {Pm : World → Nat → Ms → (Nat → Prop) → Prop} (hM : Mach Pm) {lo : Nat} {X : Nat → Prop} {W w : World} {p b k : Nat} {S : Ms} (a : Act8) (h : Bz Pm lo X W w p b S S) (hq : Bq k S) (hk : k ≤ 100000) (ha : acwf a) (hK : a.K = 2) :
    Calls Try.prog 13 #[.pointer (some ⟨p, 0, none⟩), .pointer (some ⟨b, 0, none⟩), .agg (acC a)] w fun e w' => e = .returned (.bool true) ∧ Bz Pm lo X W w' p b (S.actS a) (S.actS a) ∧ Below lo W w' := by
  have e5 : S.actS a = S.doS ⟨2, 0, a.o.A, a.o.B, -1, S.words⟩ a.X := by unfold Ms.actS Ms.opA Ms.wdA; simp [hK]
  rw [e5]
  clear e5
  have HB : Hid (Below w.heap.size w ((w.alloc (.cells (acC a) 45)).alloc (.cells (opCs a.o) 43))) := hid (((Below.refl _ _).alloc (Nat.le_refl _) _).alloc (by simp) _)
  have n1 : ((w.alloc (.cells (acC a) 45)).alloc (.cells (opCs a.o) 43)).heap[w.heap.size]? = some (.cells (acC a) 45 (0, 0)) := (heap_alloc_old _ _ (by simp)).trans (heap_alloc_new _ _)
  have n2 : ((w.alloc (.cells (acC a) 45)).alloc (.cells (opCs a.o) 43)).heap[w.heap.size + 1]? = some (.cells (opCs a.o) 43 (0, 0)) := by have := heap_alloc_new (w.alloc (.cells (acC a) 45)) (.cells (opCs a.o) 43); simpa using this
  have n3 : ((w.alloc (.cells (acC a) 45)).alloc (.cells (opCs a.o) 43)).heap.size = w.heap.size + 2 := by simp
  obtain ⟨w2, hw2⟩ : ∃ w2, (w.alloc (.cells (acC a) 45)).alloc (.cells (opCs a.o) 43) = w2 := ⟨_, rfl⟩
  rw [hw2] at HB n1 n2 n3
  have HW2 := hid hw2
  have Z : Hid (Lz Pm lo (fun k => X k ∨ w.heap.size ≤ k ∧ k < w2.heap.size) W w.heap.size a w2 p b S S) := hid ⟨h.more hM HB.out, n1, n2, .inr ⟨Nat.le_refl _, by omega⟩, .inr ⟨by omega, by omega⟩⟩
  have HA := hid ha
  have HQ := hid hq
  have HK2 := hid hk
  have HK : Hid (k ≤ 1000000) := hid (by omega)
  have HX : Hid (a.X < 2 ^ 64) := hid (by have := ha.2.2; omega)
  have HO : Hid (opwf ⟨2, 0, a.o.A, a.o.B, -1, S.words⟩) := hid (by have := opA_wf hq (by omega : k ≤ 1000000) ha; unfold Ms.opA at this; simpa [hK] using this)
  have HWR : Hid (IntKind.u64.wrap (S.words : Int) = (S.words : Int)) := hid (by have := hq.words; rw [IntKind.wrap_u64]; omega)
  clear h hq hk ha hw2 n1 n2 n3
  go_enter Try.func13, Try.ntmps13
  go_upto_region 2 with fail
  rw [HW2.out]
  have c0 := row_c (i := 0) (u := .int .i64 a.K) Z.out.act rfl
  rw [hK] at c0
  clear hK
  go_wp2_with fail
  have Z0 := hid (Z.out.drew hM)
  refine wp_region_noPanic ?_
  refine wp_region_held_drew (S := fun w' => w'.heap[w.heap.size]? = some (.cells (acC a) 45 (0, 0)) ∧ w'.heap[w.heap.size + 1]? = some (.cells (opCs a.o) 43 (0, 0))) (by kernel_rfl) (⟨Z0.out.act, Z0.out.op⟩) (fun h0 => ?_)
  generalize w2.drew = y1 at *
  refine wpAnyH_take (i := 0) (v := .pointer (some ⟨p, 0, none⟩)) rfl (by kernel_rfl) (by kernel_rfl) (by kernel_rfl) (fun _ _ _ h => h) (.inl ⟨by rfl, fun w hw => by clear hw; go_simp⟩) h0 ?_
  try simp only [Act.put, lay_out]
  refine wpAnyH_take (i := 1) (v := .pointer (some ⟨w.heap.size, 7, none⟩)) rfl (by kernel_rfl) (by kernel_rfl) (by kernel_rfl) (fun _ _ _ h => h) (.inl ⟨by rfl, fun w hw => by clear hw; go_simp⟩) h0 ?_
  try simp only [Act.put, lay_out]
  refine wpAnyH_take (i := 2) (v := .int .u64 (a.X : Int)) rfl (by kernel_rfl) (by kernel_rfl) (by kernel_rfl) (fun _ _ _ h => h) (.inl ⟨by rfl, fun w' hw => by have hc := row_c (i := 7) (u := .int .u64 (a.X : Int)) hw.1 rfl; clear hw; go_simp⟩) h0 ?_
  try simp only [Act.put, lay_out]
  refine wpAnyH_take (i := 3) (v := .pointer (some ⟨w.heap.size + 1, 2, none⟩)) rfl (by kernel_rfl) (by kernel_rfl) (by kernel_rfl) (fun _ _ _ h => h) (.inl ⟨by rfl, fun w hw => by clear hw; go_simp⟩) h0 ?_
  try simp only [Act.put, lay_out]
  refine wpAnyH_take (i := 4) (v := .int .i64 a.o.A) rfl (by kernel_rfl) (by kernel_rfl) (by kernel_rfl) (fun _ _ _ h => h) (.inl ⟨by rfl, fun w' hw => by have hc := row_c (i := 2) (u := .int .i64 a.o.A) hw.2 rfl; clear hw; go_simp⟩) h0 ?_
  try simp only [Act.put, lay_out]
  refine wpAnyH_take (i := 5) (v := .pointer (some ⟨w.heap.size + 1, 3, none⟩)) rfl (by kernel_rfl) (by kernel_rfl) (by kernel_rfl) (fun _ _ _ h => h) (.inl ⟨by rfl, fun w hw => by clear hw; go_simp⟩) h0 ?_
  try simp only [Act.put, lay_out]
  refine wpAnyH_take (i := 6) (v := .int .i64 a.o.B) rfl (by kernel_rfl) (by kernel_rfl) (by kernel_rfl) (fun _ _ _ h => h) (.inl ⟨by rfl, fun w' hw => by have hc := row_c (i := 3) (u := .int .i64 a.o.B) hw.2 rfl; clear hw; go_simp⟩) h0 ?_
  try simp only [Act.put, lay_out]
  refine wpAnyH_take (i := 8) (v := .pointer (some ⟨b, 0, none⟩)) rfl (by kernel_rfl) (by kernel_rfl) (by kernel_rfl) (fun _ _ _ h => h) (.inl ⟨by rfl, fun w hw => by clear hw; go_simp⟩) h0 ?_
  try simp only [Act.put, lay_out]
  refine wpAnyH_take (i := 9) (v := .pointer (some ⟨w.heap.size + 1, 2, none⟩)) rfl (by kernel_rfl) (by kernel_rfl) (by kernel_rfl) (fun _ _ _ h => h) (.inl ⟨by rfl, fun w hw => by clear hw; go_simp⟩) h0 ?_
  try simp only [Act.put, lay_out]
  refine wpAnyH_take (i := 10) (v := .int .i64 a.o.A) rfl (by kernel_rfl) (by kernel_rfl) (by kernel_rfl) (fun _ _ _ h => h) (.inl ⟨by rfl, fun w' hw => by have hc := row_c (i := 2) (u := .int .i64 a.o.A) hw.2 rfl; clear hw; go_simp⟩) h0 ?_
  try simp only [Act.put, lay_out]
  refine wpAnyH_take (i := 11) (v := .pointer (some ⟨w.heap.size + 1, 3, none⟩)) rfl (by kernel_rfl) (by kernel_rfl) (by kernel_rfl) (fun _ _ _ h => h) (.inl ⟨by rfl, fun w hw => by clear hw; go_simp⟩) h0 ?_
  try simp only [Act.put, lay_out]
  refine wpAnyH_take (i := 12) (v := .int .i64 a.o.B) rfl (by kernel_rfl) (by kernel_rfl) (by kernel_rfl) (fun _ _ _ h => h) (.inl ⟨by rfl, fun w' hw => by have hc := row_c (i := 3) (u := .int .i64 a.o.B) hw.2 rfl; clear hw; go_simp⟩) h0 ?_
  try simp only [Act.put, lay_out]
  refine wpAnyH_take (i := 13) (v := .pointer (some ⟨b, 0, none⟩)) rfl (by kernel_rfl) (by kernel_rfl) (by kernel_rfl) (fun _ _ _ h => h) (.inl ⟨by rfl, fun w hw => by clear hw; go_simp⟩) h0 ?_
  try simp only [Act.put, lay_out]
  refine wpAnyH_take (i := 14) (v := .pointer (some ⟨b, 0, none⟩)) rfl (by kernel_rfl) (by kernel_rfl) (by kernel_rfl) (fun _ _ _ h => h) (.inl ⟨by rfl, fun w hw => by clear hw; go_simp⟩) h0 ?_
  try simp only [Act.put, lay_out]
  refine wpAnyH_take (i := 15) (v := .pointer (some ⟨b, 2, none⟩)) rfl (by kernel_rfl) (by kernel_rfl) (by kernel_rfl) (fun _ _ _ h => h) (.inl ⟨by rfl, fun w hw => by clear hw; go_simp⟩) h0 ?_
  try simp only [Act.put, lay_out]
  refine wpAnyH_take (i := 19) (v := .pointer (some ⟨w.heap.size, 7, none⟩)) rfl (by kernel_rfl) (by kernel_rfl) (by kernel_rfl) (fun _ _ _ h => h) (.inl ⟨by rfl, fun w hw => by clear hw; go_simp⟩) h0 ?_
  try simp only [Act.put, lay_out]
  refine wpAnyH_take (i := 20) (v := .int .u64 (a.X : Int)) rfl (by kernel_rfl) (by kernel_rfl) (by kernel_rfl) (fun _ _ _ h => h) (.inl ⟨by rfl, fun w' hw => by have hc := row_c (i := 7) (u := .int .u64 (a.X : Int)) hw.1 rfl; clear hw; go_simp⟩) h0 ?_
  try simp only [Act.put, lay_out]
  refine wpAnyH_ready (rs := [7, 16]) (by kernel_rfl) (by simp) (AllReadyH.cons rfl (fun K hK => ?_) (AllReadyH.cons rfl (fun K hK => ?_) AllReadyH.nil))
  · rw [if_pos (by rfl)]
    go_simp
    go_at_call 16
    (with_reducible refine (zkey hM a.X a.o.A a.o.B Z0.out.z HQ.out HK.out HO.out HX.out).mono ?_); rintro e w3 ⟨rfl, hz, hs⟩
    have Z1 := hid (Z0.out.on hz hs)
    clear hz hs
    refine hK.out _ _ (⟨Z1.out.act, Z1.out.op⟩) (fun h1x => ?_)
    clear hK K
    try simp only [Act.put, lay_out]
    refine wpAnyH_ready (rs := [16]) (by kernel_rfl) (by simp) (AllReadyH.cons rfl (fun K hK => ?_) AllReadyH.nil)
    rw [if_pos (by rfl)]
    have hc := Z1.out.z.words
    go_simp
    clear hc
    refine hK.out _ _ (⟨Z1.out.act, Z1.out.op⟩) (fun h2x => ?_)
    clear hK K
    try simp only [Act.put, lay_out]
    refine wpAnyH_take (i := 17) (v := .int .u64 (S.words : Int)) rfl (by kernel_rfl) (by kernel_rfl) (by kernel_rfl) (fun _ _ _ h => h) (.inl ⟨by rfl, fun w' hw => by clear hw; have hwr := HWR.out; go_simp⟩) h2x ?_
    try simp only [Act.put, lay_out]
    refine wpAnyH_ready (rs := [18]) (by kernel_rfl) (by simp) (AllReadyH.cons rfl (fun K hK => ?_) AllReadyH.nil)
    rw [if_pos (by rfl)]
    go_simp
    go_at_call 36
    (with_reducible refine (dopc_any 2 0 a.o.A a.o.B S.words _).mono ?_); rintro e w4 ⟨rfl, hb⟩
    have Z2 := hid (Z1.out.self hM hb)
    clear hb
    refine hK.out _ _ (⟨Z2.out.act, Z2.out.op⟩) (fun h3x => ?_)
    clear hK K
    try simp only [Act.put, lay_out]
    refine wpAnyH_ready (rs := [21]) (by kernel_rfl) (by simp) (AllReadyH.cons rfl (fun K hK => ?_) AllReadyH.nil)
    rw [if_pos (by rfl)]
    go_simp
    go_at_call 35
    (with_reducible refine (ydo hM ⟨2, 0, a.o.A, a.o.B, -1, S.words⟩ a.X Z2.out.z HQ.out HK2.out HO.out HX.out).mono ?_); rintro e w5 ⟨rfl, hz, hs⟩
    have Z3 := hid (Z2.out.on hz hs)
    clear hz hs
    refine hK.out _ _ (⟨Z3.out.act, Z3.out.op⟩) (fun h4x => ?_)
    clear hK K
    try simp only [Act.put, lay_out]
    refine wpAnyH_take (i := 22) (v := .bool true) rfl (by kernel_rfl) (by kernel_rfl) (by kernel_rfl) (fun _ _ _ h => h) (.inl ⟨by rfl, fun w hw => by clear hw; go_simp⟩) h4x ?_
    try simp only [Act.put, lay_out]
    refine wpAnyH_take (i := 23) (v := .bool true) rfl (by kernel_rfl) (by kernel_rfl) (by kernel_rfl) (fun _ _ _ h => h) (.inl ⟨by rfl, fun w hw => by clear hw; go_simp⟩) h4x ?_
    try simp only [Act.put, lay_out]
    refine wpAnyH_done (by kernel_rfl) ?_ _
    refine NoPanic.normal ?_
    clear h0 h1x h2x h3x h4x
    try simp only [Act.put, lay_out]
    go_wp2
    go_ret
    exact ⟨rfl, Z3.out.z.less (fun _ h => .inl h), Z3.out.z.low⟩
  · rw [if_pos (by rfl)]
    have hc := Z0.out.z.words
    go_simp
    clear hc
    refine hK.out _ _ (⟨Z0.out.act, Z0.out.op⟩) (fun h1x => ?_)
    clear hK K
    try simp only [Act.put, lay_out]
    refine wpAnyH_take (i := 17) (v := .int .u64 (S.words : Int)) rfl (by kernel_rfl) (by kernel_rfl) (by kernel_rfl) (fun _ _ _ h => h) (.inl ⟨by rfl, fun w' hw => by clear hw; have hwr := HWR.out; go_simp⟩) h1x ?_
    try simp only [Act.put, lay_out]
    refine wpAnyH_ready (rs := [7]) (by kernel_rfl) (by simp) (AllReadyH.cons rfl (fun K hK => ?_) AllReadyH.nil)
    rw [if_pos (by rfl)]
    go_simp
    go_at_call 16
    (with_reducible refine (zkey hM a.X a.o.A a.o.B Z0.out.z HQ.out HK.out HO.out HX.out).mono ?_); rintro e w3 ⟨rfl, hz, hs⟩
    have Z1 := hid (Z0.out.on hz hs)
    clear hz hs
    refine hK.out _ _ (⟨Z1.out.act, Z1.out.op⟩) (fun h2x => ?_)
    clear hK K
    try simp only [Act.put, lay_out]
    refine wpAnyH_ready (rs := [18]) (by kernel_rfl) (by simp) (AllReadyH.cons rfl (fun K hK => ?_) AllReadyH.nil)
    rw [if_pos (by rfl)]
    go_simp
    go_at_call 36
    (with_reducible refine (dopc_any 2 0 a.o.A a.o.B S.words _).mono ?_); rintro e w4 ⟨rfl, hb⟩
    have Z2 := hid (Z1.out.self hM hb)
    clear hb
    refine hK.out _ _ (⟨Z2.out.act, Z2.out.op⟩) (fun h3x => ?_)
    clear hK K
    try simp only [Act.put, lay_out]
    refine wpAnyH_ready (rs := [21]) (by kernel_rfl) (by simp) (AllReadyH.cons rfl (fun K hK => ?_) AllReadyH.nil)
    rw [if_pos (by rfl)]
    go_simp
    go_at_call 35
    (with_reducible refine (ydo hM ⟨2, 0, a.o.A, a.o.B, -1, S.words⟩ a.X Z2.out.z HQ.out HK2.out HO.out HX.out).mono ?_); rintro e w5 ⟨rfl, hz, hs⟩
    have Z3 := hid (Z2.out.on hz hs)
    clear hz hs
    refine hK.out _ _ (⟨Z3.out.act, Z3.out.op⟩) (fun h4x => ?_)
    clear hK K
    try simp only [Act.put, lay_out]
    refine wpAnyH_take (i := 22) (v := .bool true) rfl (by kernel_rfl) (by kernel_rfl) (by kernel_rfl) (fun _ _ _ h => h) (.inl ⟨by rfl, fun w hw => by clear hw; go_simp⟩) h4x ?_
    try simp only [Act.put, lay_out]
    refine wpAnyH_take (i := 23) (v := .bool true) rfl (by kernel_rfl) (by kernel_rfl) (by kernel_rfl) (fun _ _ _ h => h) (.inl ⟨by rfl, fun w hw => by clear hw; go_simp⟩) h4x ?_
    try simp only [Act.put, lay_out]
    refine wpAnyH_done (by kernel_rfl) ?_ _
    refine NoPanic.normal ?_
    clear h0 h1x h2x h3x h4x
    try simp only [Act.put, lay_out]
    go_wp2
    go_ret
    exact ⟨rfl, Z3.out.z.less (fun _ h => .inl h), Z3.out.z.low⟩
set_option maxHeartbeats 6400000 in
theorem ldoes_3 {Pm : World → Nat → Ms → (Nat → Prop) → Prop} (hM : Mach Pm) {lo : Nat} {X : Nat → Prop} {W w : World} {p b k : Nat} {S : Ms} (a : Act8) (h : Bz Pm lo X W w p b S S) (hq : Bq k S) (hk : k ≤ 100000) (ha : acwf a) (hK : a.K = 3) :
    Calls Try.prog 13 #[.pointer (some ⟨p, 0, none⟩), .pointer (some ⟨b, 0, none⟩), .agg (acC a)] w fun e w' => e = .returned (.bool true) ∧ Bz Pm lo X W w' p b (S.actS a) (S.actS a) ∧ Below lo W w' := by
  have e5 : S.actS a = S.doS ⟨3, a.o.D, -1, -1, -1, a.o.C⟩ 0 := by unfold Ms.actS Ms.opA Ms.wdA; simp [hK]
  rw [e5]
  clear e5
  have HB : Hid (Below w.heap.size w ((w.alloc (.cells (acC a) 45)).alloc (.cells (opCs a.o) 43))) := hid (((Below.refl _ _).alloc (Nat.le_refl _) _).alloc (by simp) _)
  have n1 : ((w.alloc (.cells (acC a) 45)).alloc (.cells (opCs a.o) 43)).heap[w.heap.size]? = some (.cells (acC a) 45 (0, 0)) := (heap_alloc_old _ _ (by simp)).trans (heap_alloc_new _ _)
  have n2 : ((w.alloc (.cells (acC a) 45)).alloc (.cells (opCs a.o) 43)).heap[w.heap.size + 1]? = some (.cells (opCs a.o) 43 (0, 0)) := by have := heap_alloc_new (w.alloc (.cells (acC a) 45)) (.cells (opCs a.o) 43); simpa using this
  have n3 : ((w.alloc (.cells (acC a) 45)).alloc (.cells (opCs a.o) 43)).heap.size = w.heap.size + 2 := by simp
  obtain ⟨w2, hw2⟩ : ∃ w2, (w.alloc (.cells (acC a) 45)).alloc (.cells (opCs a.o) 43) = w2 := ⟨_, rfl⟩
  rw [hw2] at HB n1 n2 n3
  have HW2 := hid hw2
  have Z : Hid (Lz Pm lo (fun k => X k ∨ w.heap.size ≤ k ∧ k < w2.heap.size) W w.heap.size a w2 p b S S) := hid ⟨h.more hM HB.out, n1, n2, .inr ⟨Nat.le_refl _, by omega⟩, .inr ⟨by omega, by omega⟩⟩
  have HA := hid ha
  have HQ := hid hq
  have HK2 := hid hk
  have HK : Hid (k ≤ 1000000) := hid (by omega)
  have HX : Hid (a.X < 2 ^ 64) := hid (by have := ha.2.2; omega)
  have HO : Hid (opwf ⟨3, a.o.D, -1, -1, -1, a.o.C⟩) := hid (by have := opA_wf hq (by omega : k ≤ 1000000) ha; unfold Ms.opA at this; simpa [hK] using this)
  clear h hq hk ha hw2 n1 n2 n3
  go_enter Try.func13, Try.ntmps13
  go_upto_region 2 with fail
  rw [HW2.out]
  have c0 := row_c (i := 0) (u := .int .i64 a.K) Z.out.act rfl
  rw [hK] at c0
  clear hK
  go_wp2_with fail
  have Z0 := hid (Z.out.drew hM)
  refine wp_region_noPanic ?_
  refine wp_region_held_drew (S := fun w' => w'.heap[w.heap.size]? = some (.cells (acC a) 45 (0, 0)) ∧ w'.heap[w.heap.size + 1]? = some (.cells (opCs a.o) 43 (0, 0))) (by kernel_rfl) (⟨Z0.out.act, Z0.out.op⟩) (fun h0 => ?_)
  generalize w2.drew = y1 at *
  refine wpAnyH_take (i := 0) (v := .pointer (some ⟨p, 0, none⟩)) rfl (by kernel_rfl) (by kernel_rfl) (by kernel_rfl) (fun _ _ _ h => h) (.inl ⟨by rfl, fun w hw => by clear hw; go_simp⟩) h0 ?_
  try simp only [Act.put, lay_out]
  refine wpAnyH_take (i := 1) (v := .pointer (some ⟨w.heap.size + 1, 1, none⟩)) rfl (by kernel_rfl) (by kernel_rfl) (by kernel_rfl) (fun _ _ _ h => h) (.inl ⟨by rfl, fun w hw => by clear hw; go_simp⟩) h0 ?_
  try simp only [Act.put, lay_out]
  refine wpAnyH_take (i := 2) (v := .int .i64 a.o.D) rfl (by kernel_rfl) (by kernel_rfl) (by kernel_rfl) (fun _ _ _ h => h) (.inl ⟨by rfl, fun w' hw => by have hc := row_c (i := 1) (u := .int .i64 a.o.D) hw.2 rfl; clear hw; go_simp⟩) h0 ?_
  try simp only [Act.put, lay_out]
  refine wpAnyH_take (i := 3) (v := .pointer (some ⟨w.heap.size + 1, 5, none⟩)) rfl (by kernel_rfl) (by kernel_rfl) (by kernel_rfl) (fun _ _ _ h => h) (.inl ⟨by rfl, fun w hw => by clear hw; go_simp⟩) h0 ?_
  try simp only [Act.put, lay_out]
  refine wpAnyH_take (i := 4) (v := .int .u64 (a.o.C : Int)) rfl (by kernel_rfl) (by kernel_rfl) (by kernel_rfl) (fun _ _ _ h => h) (.inl ⟨by rfl, fun w' hw => by have hc := row_c (i := 5) (u := .int .u64 (a.o.C : Int)) hw.2 rfl; clear hw; go_simp⟩) h0 ?_
  try simp only [Act.put, lay_out]
  refine wpAnyH_take (i := 6) (v := .pointer (some ⟨b, 0, none⟩)) rfl (by kernel_rfl) (by kernel_rfl) (by kernel_rfl) (fun _ _ _ h => h) (.inl ⟨by rfl, fun w hw => by clear hw; go_simp⟩) h0 ?_
  try simp only [Act.put, lay_out]
  refine wpAnyH_take (i := 7) (v := .pointer (some ⟨w.heap.size + 1, 1, none⟩)) rfl (by kernel_rfl) (by kernel_rfl) (by kernel_rfl) (fun _ _ _ h => h) (.inl ⟨by rfl, fun w hw => by clear hw; go_simp⟩) h0 ?_
  try simp only [Act.put, lay_out]
  refine wpAnyH_take (i := 8) (v := .int .i64 a.o.D) rfl (by kernel_rfl) (by kernel_rfl) (by kernel_rfl) (fun _ _ _ h => h) (.inl ⟨by rfl, fun w' hw => by have hc := row_c (i := 1) (u := .int .i64 a.o.D) hw.2 rfl; clear hw; go_simp⟩) h0 ?_
  try simp only [Act.put, lay_out]
  refine wpAnyH_take (i := 9) (v := .pointer (some ⟨w.heap.size + 1, 5, none⟩)) rfl (by kernel_rfl) (by kernel_rfl) (by kernel_rfl) (fun _ _ _ h => h) (.inl ⟨by rfl, fun w hw => by clear hw; go_simp⟩) h0 ?_
  try simp only [Act.put, lay_out]
  refine wpAnyH_take (i := 10) (v := .int .u64 (a.o.C : Int)) rfl (by kernel_rfl) (by kernel_rfl) (by kernel_rfl) (fun _ _ _ h => h) (.inl ⟨by rfl, fun w' hw => by have hc := row_c (i := 5) (u := .int .u64 (a.o.C : Int)) hw.2 rfl; clear hw; go_simp⟩) h0 ?_
  try simp only [Act.put, lay_out]
  refine wpAnyH_ready (rs := [5]) (by kernel_rfl) (by simp) (AllReadyH.cons rfl (fun K hK => ?_) AllReadyH.nil)
  rw [if_pos (by rfl)]
  go_simp
  go_at_call 31
  (with_reducible refine (zconst_ hM a.o.D a.o.C Z0.out.z HQ.out HK.out HO.out).mono ?_); rintro e w3 ⟨rfl, hz, hs⟩
  have Z1 := hid (Z0.out.on hz hs)
  clear hz hs
  refine hK.out _ _ (⟨Z1.out.act, Z1.out.op⟩) (fun h1x => ?_)
  clear hK K
  try simp only [Act.put, lay_out]
  refine wpAnyH_ready (rs := [11]) (by kernel_rfl) (by simp) (AllReadyH.cons rfl (fun K hK => ?_) AllReadyH.nil)
  rw [if_pos (by rfl)]
  go_simp
  go_at_call 36
  (with_reducible refine (dopc_any 3 a.o.D (-1) (-1) a.o.C _).mono ?_); rintro e w4 ⟨rfl, hb⟩
  have Z2 := hid (Z1.out.self hM hb)
  clear hb
  refine hK.out _ _ (⟨Z2.out.act, Z2.out.op⟩) (fun h2x => ?_)
  clear hK K
  try simp only [Act.put, lay_out]
  refine wpAnyH_ready (rs := [12]) (by kernel_rfl) (by simp) (AllReadyH.cons rfl (fun K hK => ?_) AllReadyH.nil)
  rw [if_pos (by rfl)]
  go_simp
  go_at_call 35
  (with_reducible refine (ydo0 hM ⟨3, a.o.D, -1, -1, -1, a.o.C⟩ Z2.out.z HQ.out HK2.out HO.out).mono ?_); rintro e w5 ⟨rfl, hz, hs⟩
  have Z3 := hid (Z2.out.on hz hs)
  clear hz hs
  refine hK.out _ _ (⟨Z3.out.act, Z3.out.op⟩) (fun h3x => ?_)
  clear hK K
  try simp only [Act.put, lay_out]
  refine wpAnyH_take (i := 13) (v := .bool true) rfl (by kernel_rfl) (by kernel_rfl) (by kernel_rfl) (fun _ _ _ h => h) (.inl ⟨by rfl, fun w hw => by clear hw; go_simp⟩) h3x ?_
  try simp only [Act.put, lay_out]
  refine wpAnyH_take (i := 14) (v := .bool true) rfl (by kernel_rfl) (by kernel_rfl) (by kernel_rfl) (fun _ _ _ h => h) (.inl ⟨by rfl, fun w hw => by clear hw; go_simp⟩) h3x ?_
  try simp only [Act.put, lay_out]
  refine wpAnyH_done (by kernel_rfl) ?_ _
  refine NoPanic.normal ?_
  clear h0 h1x h2x h3x
  try simp only [Act.put, lay_out]
  go_wp2
  go_ret
  exact ⟨rfl, Z3.out.z.less (fun _ h => .inl h), Z3.out.z.low⟩
set_option maxHeartbeats 6400000 in
theorem ldoes_4 {Pm : World → Nat → Ms → (Nat → Prop) → Prop} (hM : Mach Pm) {lo : Nat} {X : Nat → Prop} {W w : World} {p b k : Nat} {S : Ms} (a : Act8) (h : Bz Pm lo X W w p b S S) (hq : Bq k S) (hk : k ≤ 100000) (ha : acwf a) (hK : a.K = 4) :
    Calls Try.prog 13 #[.pointer (some ⟨p, 0, none⟩), .pointer (some ⟨b, 0, none⟩), .agg (acC a)] w fun e w' => e = .returned (.bool true) ∧ Bz Pm lo X W w' p b (S.actS a) (S.actS a) ∧ Below lo W w' := by
  have e5 : S.actS a = S.doS ⟨4, a.o.D, -1, -1, -1, a.o.C⟩ 0 := by unfold Ms.actS Ms.opA Ms.wdA; simp [hK]
  rw [e5]
  clear e5
  have HB : Hid (Below w.heap.size w ((w.alloc (.cells (acC a) 45)).alloc (.cells (opCs a.o) 43))) := hid (((Below.refl _ _).alloc (Nat.le_refl _) _).alloc (by simp) _)
  have n1 : ((w.alloc (.cells (acC a) 45)).alloc (.cells (opCs a.o) 43)).heap[w.heap.size]? = some (.cells (acC a) 45 (0, 0)) := (heap_alloc_old _ _ (by simp)).trans (heap_alloc_new _ _)
  have n2 : ((w.alloc (.cells (acC a) 45)).alloc (.cells (opCs a.o) 43)).heap[w.heap.size + 1]? = some (.cells (opCs a.o) 43 (0, 0)) := by have := heap_alloc_new (w.alloc (.cells (acC a) 45)) (.cells (opCs a.o) 43); simpa using this
  have n3 : ((w.alloc (.cells (acC a) 45)).alloc (.cells (opCs a.o) 43)).heap.size = w.heap.size + 2 := by simp
  obtain ⟨w2, hw2⟩ : ∃ w2, (w.alloc (.cells (acC a) 45)).alloc (.cells (opCs a.o) 43) = w2 := ⟨_, rfl⟩
  rw [hw2] at HB n1 n2 n3
  have HW2 := hid hw2
  have Z : Hid (Lz Pm lo (fun k => X k ∨ w.heap.size ≤ k ∧ k < w2.heap.size) W w.heap.size a w2 p b S S) := hid ⟨h.more hM HB.out, n1, n2, .inr ⟨Nat.le_refl _, by omega⟩, .inr ⟨by omega, by omega⟩⟩
  have HA := hid ha
  have HQ := hid hq
  have HK2 := hid hk
  have HK : Hid (k ≤ 1000000) := hid (by omega)
  have HX : Hid (a.X < 2 ^ 64) := hid (by have := ha.2.2; omega)
  have HO : Hid (opwf ⟨4, a.o.D, -1, -1, -1, a.o.C⟩) := hid (by have := opA_wf hq (by omega : k ≤ 1000000) ha; unfold Ms.opA at this; simpa [hK] using this)
  clear h hq hk ha hw2 n1 n2 n3
  go_enter Try.func13, Try.ntmps13
  go_upto_region 2 with fail
  rw [HW2.out]
  have c0 := row_c (i := 0) (u := .int .i64 a.K) Z.out.act rfl
  rw [hK] at c0
  clear hK
  go_wp2_with fail
  have Z0 := hid (Z.out.drew hM)
  refine wp_region_noPanic ?_
  refine wp_region_held_drew (S := fun w' => w'.heap[w.heap.size]? = some (.cells (acC a) 45 (0, 0)) ∧ w'.heap[w.heap.size + 1]? = some (.cells (opCs a.o) 43 (0, 0))) (by kernel_rfl) (⟨Z0.out.act, Z0.out.op⟩) (fun h0 => ?_)
  generalize w2.drew = y1 at *
  refine wpAnyH_take (i := 0) (v := .pointer (some ⟨p, 0, none⟩)) rfl (by kernel_rfl) (by kernel_rfl) (by kernel_rfl) (fun _ _ _ h => h) (.inl ⟨by rfl, fun w hw => by clear hw; go_simp⟩) h0 ?_
  try simp only [Act.put, lay_out]
  refine wpAnyH_take (i := 1) (v := .pointer (some ⟨w.heap.size + 1, 1, none⟩)) rfl (by kernel_rfl) (by kernel_rfl) (by kernel_rfl) (fun _ _ _ h => h) (.inl ⟨by rfl, fun w hw => by clear hw; go_simp⟩) h0 ?_
  try simp only [Act.put, lay_out]
  refine wpAnyH_take (i := 2) (v := .int .i64 a.o.D) rfl (by kernel_rfl) (by kernel_rfl) (by kernel_rfl) (fun _ _ _ h => h) (.inl ⟨by rfl, fun w' hw => by have hc := row_c (i := 1) (u := .int .i64 a.o.D) hw.2 rfl; clear hw; go_simp⟩) h0 ?_
  try simp only [Act.put, lay_out]
  refine wpAnyH_take (i := 3) (v := .pointer (some ⟨w.heap.size + 1, 5, none⟩)) rfl (by kernel_rfl) (by kernel_rfl) (by kernel_rfl) (fun _ _ _ h => h) (.inl ⟨by rfl, fun w hw => by clear hw; go_simp⟩) h0 ?_
  try simp only [Act.put, lay_out]
  refine wpAnyH_take (i := 4) (v := .int .u64 (a.o.C : Int)) rfl (by kernel_rfl) (by kernel_rfl) (by kernel_rfl) (fun _ _ _ h => h) (.inl ⟨by rfl, fun w' hw => by have hc := row_c (i := 5) (u := .int .u64 (a.o.C : Int)) hw.2 rfl; clear hw; go_simp⟩) h0 ?_
  try simp only [Act.put, lay_out]
  refine wpAnyH_take (i := 6) (v := .pointer (some ⟨b, 0, none⟩)) rfl (by kernel_rfl) (by kernel_rfl) (by kernel_rfl) (fun _ _ _ h => h) (.inl ⟨by rfl, fun w hw => by clear hw; go_simp⟩) h0 ?_
  try simp only [Act.put, lay_out]
  refine wpAnyH_take (i := 7) (v := .pointer (some ⟨w.heap.size + 1, 1, none⟩)) rfl (by kernel_rfl) (by kernel_rfl) (by kernel_rfl) (fun _ _ _ h => h) (.inl ⟨by rfl, fun w hw => by clear hw; go_simp⟩) h0 ?_
  try simp only [Act.put, lay_out]
  refine wpAnyH_take (i := 8) (v := .int .i64 a.o.D) rfl (by kernel_rfl) (by kernel_rfl) (by kernel_rfl) (fun _ _ _ h => h) (.inl ⟨by rfl, fun w' hw => by have hc := row_c (i := 1) (u := .int .i64 a.o.D) hw.2 rfl; clear hw; go_simp⟩) h0 ?_
  try simp only [Act.put, lay_out]
  refine wpAnyH_take (i := 9) (v := .pointer (some ⟨w.heap.size + 1, 5, none⟩)) rfl (by kernel_rfl) (by kernel_rfl) (by kernel_rfl) (fun _ _ _ h => h) (.inl ⟨by rfl, fun w hw => by clear hw; go_simp⟩) h0 ?_
  try simp only [Act.put, lay_out]
  refine wpAnyH_take (i := 10) (v := .int .u64 (a.o.C : Int)) rfl (by kernel_rfl) (by kernel_rfl) (by kernel_rfl) (fun _ _ _ h => h) (.inl ⟨by rfl, fun w' hw => by have hc := row_c (i := 5) (u := .int .u64 (a.o.C : Int)) hw.2 rfl; clear hw; go_simp⟩) h0 ?_
  try simp only [Act.put, lay_out]
  refine wpAnyH_ready (rs := [5]) (by kernel_rfl) (by simp) (AllReadyH.cons rfl (fun K hK => ?_) AllReadyH.nil)
  rw [if_pos (by rfl)]
  go_simp
  go_at_call 37
  (with_reducible refine (ztold hM a.o.D a.o.C Z0.out.z HQ.out HK.out HO.out).mono ?_); rintro e w3 ⟨rfl, hz, hs⟩
  have Z1 := hid (Z0.out.on hz hs)
  clear hz hs
  refine hK.out _ _ (⟨Z1.out.act, Z1.out.op⟩) (fun h1x => ?_)
  clear hK K
  try simp only [Act.put, lay_out]
  refine wpAnyH_ready (rs := [11]) (by kernel_rfl) (by simp) (AllReadyH.cons rfl (fun K hK => ?_) AllReadyH.nil)
  rw [if_pos (by rfl)]
  go_simp
  go_at_call 36
  (with_reducible refine (dopc_any 4 a.o.D (-1) (-1) a.o.C _).mono ?_); rintro e w4 ⟨rfl, hb⟩
  have Z2 := hid (Z1.out.self hM hb)
  clear hb
  refine hK.out _ _ (⟨Z2.out.act, Z2.out.op⟩) (fun h2x => ?_)
  clear hK K
  try simp only [Act.put, lay_out]
  refine wpAnyH_ready (rs := [12]) (by kernel_rfl) (by simp) (AllReadyH.cons rfl (fun K hK => ?_) AllReadyH.nil)
  rw [if_pos (by rfl)]
  go_simp
  go_at_call 35
  (with_reducible refine (ydo0 hM ⟨4, a.o.D, -1, -1, -1, a.o.C⟩ Z2.out.z HQ.out HK2.out HO.out).mono ?_); rintro e w5 ⟨rfl, hz, hs⟩
  have Z3 := hid (Z2.out.on hz hs)
  clear hz hs
  refine hK.out _ _ (⟨Z3.out.act, Z3.out.op⟩) (fun h3x => ?_)
  clear hK K
  try simp only [Act.put, lay_out]
  refine wpAnyH_take (i := 13) (v := .bool true) rfl (by kernel_rfl) (by kernel_rfl) (by kernel_rfl) (fun _ _ _ h => h) (.inl ⟨by rfl, fun w hw => by clear hw; go_simp⟩) h3x ?_
  try simp only [Act.put, lay_out]
  refine wpAnyH_take (i := 14) (v := .bool true) rfl (by kernel_rfl) (by kernel_rfl) (by kernel_rfl) (fun _ _ _ h => h) (.inl ⟨by rfl, fun w hw => by clear hw; go_simp⟩) h3x ?_
  try simp only [Act.put, lay_out]
  refine wpAnyH_done (by kernel_rfl) ?_ _
  refine NoPanic.normal ?_
  clear h0 h1x h2x h3x
  try simp only [Act.put, lay_out]
  go_wp2
  go_ret
  exact ⟨rfl, Z3.out.z.less (fun _ h => .inl h), Z3.out.z.low⟩
set_option maxHeartbeats 6400000 in
theorem ldoes_5 {Pm : World → Nat → Ms → (Nat → Prop) → Prop} (hM : Mach Pm) {lo : Nat} {X : Nat → Prop} {W w : World} {p b k : Nat} {S : Ms} (a : Act8) (h : Bz Pm lo X W w p b S S) (hq : Bq k S) (hk : k ≤ 100000) (ha : acwf a) (hK : a.K = 5) :
    Calls Try.prog 13 #[.pointer (some ⟨p, 0, none⟩), .pointer (some ⟨b, 0, none⟩), .agg (acC a)] w fun e w' => e = .returned (.bool true) ∧ Bz Pm lo X W w' p b (S.actS a) (S.actS a) ∧ Below lo W w' := by
  have e5 : S.actS a = S.doS ⟨a.o.K, a.o.D, a.o.A, a.o.B, -1, 0⟩ 0 := by unfold Ms.actS Ms.opA Ms.wdA; simp [hK]
  rw [e5]
  clear e5
  have HB : Hid (Below w.heap.size w ((w.alloc (.cells (acC a) 45)).alloc (.cells (opCs a.o) 43))) := hid (((Below.refl _ _).alloc (Nat.le_refl _) _).alloc (by simp) _)
  have n1 : ((w.alloc (.cells (acC a) 45)).alloc (.cells (opCs a.o) 43)).heap[w.heap.size]? = some (.cells (acC a) 45 (0, 0)) := (heap_alloc_old _ _ (by simp)).trans (heap_alloc_new _ _)
  have n2 : ((w.alloc (.cells (acC a) 45)).alloc (.cells (opCs a.o) 43)).heap[w.heap.size + 1]? = some (.cells (opCs a.o) 43 (0, 0)) := by have := heap_alloc_new (w.alloc (.cells (acC a) 45)) (.cells (opCs a.o) 43); simpa using this
  have n3 : ((w.alloc (.cells (acC a) 45)).alloc (.cells (opCs a.o) 43)).heap.size = w.heap.size + 2 := by simp
  obtain ⟨w2, hw2⟩ : ∃ w2, (w.alloc (.cells (acC a) 45)).alloc (.cells (opCs a.o) 43) = w2 := ⟨_, rfl⟩
  rw [hw2] at HB n1 n2 n3
  have HW2 := hid hw2
  have Z : Hid (Lz Pm lo (fun k => X k ∨ w.heap.size ≤ k ∧ k < w2.heap.size) W w.heap.size a w2 p b S S) := hid ⟨h.more hM HB.out, n1, n2, .inr ⟨Nat.le_refl _, by omega⟩, .inr ⟨by omega, by omega⟩⟩
  have HA := hid ha
  have HQ := hid hq
  have HK2 := hid hk
  have HK : Hid (k ≤ 1000000) := hid (by omega)
  have HX : Hid (a.X < 2 ^ 64) := hid (by have := ha.2.2; omega)
  have HO : Hid (opwf ⟨a.o.K, a.o.D, a.o.A, a.o.B, -1, 0⟩) := hid (by have := opA_wf hq (by omega : k ≤ 1000000) ha; unfold Ms.opA at this; simpa [hK] using this)
  clear h hq hk ha hw2 n1 n2 n3
  go_enter Try.func13, Try.ntmps13
  go_upto_region 2 with fail
  rw [HW2.out]
  have c0 := row_c (i := 0) (u := .int .i64 a.K) Z.out.act rfl
  rw [hK] at c0
  clear hK
  go_wp2_with fail
  have Z0 := hid (Z.out.drew hM)
  refine wp_region_noPanic ?_
  refine wp_region_held_drew (S := fun w' => w'.heap[w.heap.size]? = some (.cells (acC a) 45 (0, 0)) ∧ w'.heap[w.heap.size + 1]? = some (.cells (opCs a.o) 43 (0, 0))) (by kernel_rfl) (⟨Z0.out.act, Z0.out.op⟩) (fun h0 => ?_)
  generalize w2.drew = y1 at *
  refine wpAnyH_take (i := 0) (v := .pointer (some ⟨p, 0, none⟩)) rfl (by kernel_rfl) (by kernel_rfl) (by kernel_rfl) (fun _ _ _ h => h) (.inl ⟨by rfl, fun w hw => by clear hw; go_simp⟩) h0 ?_
  try simp only [Act.put, lay_out]
  refine wpAnyH_take (i := 1) (v := .pointer (some ⟨w.heap.size + 1, 0, none⟩)) rfl (by kernel_rfl) (by kernel_rfl) (by kernel_rfl) (fun _ _ _ h => h) (.inl ⟨by rfl, fun w hw => by clear hw; go_simp⟩) h0 ?_
  try simp only [Act.put, lay_out]
  refine wpAnyH_take (i := 2) (v := .int .i64 a.o.K) rfl (by kernel_rfl) (by kernel_rfl) (by kernel_rfl) (fun _ _ _ h => h) (.inl ⟨by rfl, fun w' hw => by have hc := row_c (i := 0) (u := .int .i64 a.o.K) hw.2 rfl; clear hw; go_simp⟩) h0 ?_
  try simp only [Act.put, lay_out]
  refine wpAnyH_take (i := 3) (v := .pointer (some ⟨w.heap.size + 1, 1, none⟩)) rfl (by kernel_rfl) (by kernel_rfl) (by kernel_rfl) (fun _ _ _ h => h) (.inl ⟨by rfl, fun w hw => by clear hw; go_simp⟩) h0 ?_
  try simp only [Act.put, lay_out]
  refine wpAnyH_take (i := 4) (v := .int .i64 a.o.D) rfl (by kernel_rfl) (by kernel_rfl) (by kernel_rfl) (fun _ _ _ h => h) (.inl ⟨by rfl, fun w' hw => by have hc := row_c (i := 1) (u := .int .i64 a.o.D) hw.2 rfl; clear hw; go_simp⟩) h0 ?_
  try simp only [Act.put, lay_out]
  refine wpAnyH_take (i := 5) (v := .pointer (some ⟨w.heap.size + 1, 2, none⟩)) rfl (by kernel_rfl) (by kernel_rfl) (by kernel_rfl) (fun _ _ _ h => h) (.inl ⟨by rfl, fun w hw => by clear hw; go_simp⟩) h0 ?_
  try simp only [Act.put, lay_out]
  refine wpAnyH_take (i := 6) (v := .int .i64 a.o.A) rfl (by kernel_rfl) (by kernel_rfl) (by kernel_rfl) (fun _ _ _ h => h) (.inl ⟨by rfl, fun w' hw => by have hc := row_c (i := 2) (u := .int .i64 a.o.A) hw.2 rfl; clear hw; go_simp⟩) h0 ?_
  try simp only [Act.put, lay_out]
  refine wpAnyH_take (i := 7) (v := .pointer (some ⟨w.heap.size + 1, 3, none⟩)) rfl (by kernel_rfl) (by kernel_rfl) (by kernel_rfl) (fun _ _ _ h => h) (.inl ⟨by rfl, fun w hw => by clear hw; go_simp⟩) h0 ?_
  try simp only [Act.put, lay_out]
  refine wpAnyH_take (i := 8) (v := .int .i64 a.o.B) rfl (by kernel_rfl) (by kernel_rfl) (by kernel_rfl) (fun _ _ _ h => h) (.inl ⟨by rfl, fun w' hw => by have hc := row_c (i := 3) (u := .int .i64 a.o.B) hw.2 rfl; clear hw; go_simp⟩) h0 ?_
  try simp only [Act.put, lay_out]
  refine wpAnyH_take (i := 10) (v := .pointer (some ⟨b, 0, none⟩)) rfl (by kernel_rfl) (by kernel_rfl) (by kernel_rfl) (fun _ _ _ h => h) (.inl ⟨by rfl, fun w hw => by clear hw; go_simp⟩) h0 ?_
  try simp only [Act.put, lay_out]
  refine wpAnyH_take (i := 11) (v := .pointer (some ⟨w.heap.size + 1, 0, none⟩)) rfl (by kernel_rfl) (by kernel_rfl) (by kernel_rfl) (fun _ _ _ h => h) (.inl ⟨by rfl, fun w hw => by clear hw; go_simp⟩) h0 ?_
  try simp only [Act.put, lay_out]
  refine wpAnyH_take (i := 12) (v := .int .i64 a.o.K) rfl (by kernel_rfl) (by kernel_rfl) (by kernel_rfl) (fun _ _ _ h => h) (.inl ⟨by rfl, fun w' hw => by have hc := row_c (i := 0) (u := .int .i64 a.o.K) hw.2 rfl; clear hw; go_simp⟩) h0 ?_
  try simp only [Act.put, lay_out]
  refine wpAnyH_take (i := 13) (v := .pointer (some ⟨w.heap.size + 1, 1, none⟩)) rfl (by kernel_rfl) (by kernel_rfl) (by kernel_rfl) (fun _ _ _ h => h) (.inl ⟨by rfl, fun w hw => by clear hw; go_simp⟩) h0 ?_
  try simp only [Act.put, lay_out]
  refine wpAnyH_take (i := 14) (v := .int .i64 a.o.D) rfl (by kernel_rfl) (by kernel_rfl) (by kernel_rfl) (fun _ _ _ h => h) (.inl ⟨by rfl, fun w' hw => by have hc := row_c (i := 1) (u := .int .i64 a.o.D) hw.2 rfl; clear hw; go_simp⟩) h0 ?_
  try simp only [Act.put, lay_out]
  refine wpAnyH_take (i := 15) (v := .pointer (some ⟨w.heap.size + 1, 2, none⟩)) rfl (by kernel_rfl) (by kernel_rfl) (by kernel_rfl) (fun _ _ _ h => h) (.inl ⟨by rfl, fun w hw => by clear hw; go_simp⟩) h0 ?_
  try simp only [Act.put, lay_out]
  refine wpAnyH_take (i := 16) (v := .int .i64 a.o.A) rfl (by kernel_rfl) (by kernel_rfl) (by kernel_rfl) (fun _ _ _ h => h) (.inl ⟨by rfl, fun w' hw => by have hc := row_c (i := 2) (u := .int .i64 a.o.A) hw.2 rfl; clear hw; go_simp⟩) h0 ?_
  try simp only [Act.put, lay_out]
  refine wpAnyH_take (i := 17) (v := .pointer (some ⟨w.heap.size + 1, 3, none⟩)) rfl (by kernel_rfl) (by kernel_rfl) (by kernel_rfl) (fun _ _ _ h => h) (.inl ⟨by rfl, fun w hw => by clear hw; go_simp⟩) h0 ?_
  try simp only [Act.put, lay_out]
  refine wpAnyH_take (i := 18) (v := .int .i64 a.o.B) rfl (by kernel_rfl) (by kernel_rfl) (by kernel_rfl) (fun _ _ _ h => h) (.inl ⟨by rfl, fun w' hw => by have hc := row_c (i := 3) (u := .int .i64 a.o.B) hw.2 rfl; clear hw; go_simp⟩) h0 ?_
  try simp only [Act.put, lay_out]
  refine wpAnyH_ready (rs := [9]) (by kernel_rfl) (by simp) (AllReadyH.cons rfl (fun K hK => ?_) AllReadyH.nil)
  rw [if_pos (by rfl)]
  go_simp
  go_at_call 32
  (with_reducible refine (ztwo hM a.o.K a.o.D a.o.A a.o.B Z0.out.z HQ.out HK.out HO.out).mono ?_); rintro e w3 ⟨rfl, hz, hs⟩
  have Z1 := hid (Z0.out.on hz hs)
  clear hz hs
  refine hK.out _ _ (⟨Z1.out.act, Z1.out.op⟩) (fun h1x => ?_)
  clear hK K
  try simp only [Act.put, lay_out]
  refine wpAnyH_ready (rs := [19]) (by kernel_rfl) (by simp) (AllReadyH.cons rfl (fun K hK => ?_) AllReadyH.nil)
  rw [if_pos (by rfl)]
  go_simp
  go_at_call 36
  (with_reducible refine (dop0_any a.o.K a.o.D a.o.A a.o.B _).mono ?_); rintro e w4 ⟨rfl, hb⟩
  have Z2 := hid (Z1.out.self hM hb)
  clear hb
  refine hK.out _ _ (⟨Z2.out.act, Z2.out.op⟩) (fun h2x => ?_)
  clear hK K
  try simp only [Act.put, lay_out]
  refine wpAnyH_ready (rs := [20]) (by kernel_rfl) (by simp) (AllReadyH.cons rfl (fun K hK => ?_) AllReadyH.nil)
  rw [if_pos (by rfl)]
  go_simp
  go_at_call 35
  (with_reducible refine (ydo0 hM ⟨a.o.K, a.o.D, a.o.A, a.o.B, -1, 0⟩ Z2.out.z HQ.out HK2.out HO.out).mono ?_); rintro e w5 ⟨rfl, hz, hs⟩
  have Z3 := hid (Z2.out.on hz hs)
  clear hz hs
  refine hK.out _ _ (⟨Z3.out.act, Z3.out.op⟩) (fun h3x => ?_)
  clear hK K
  try simp only [Act.put, lay_out]
  refine wpAnyH_take (i := 21) (v := .bool true) rfl (by kernel_rfl) (by kernel_rfl) (by kernel_rfl) (fun _ _ _ h => h) (.inl ⟨by rfl, fun w hw => by clear hw; go_simp⟩) h3x ?_
  try simp only [Act.put, lay_out]
  refine wpAnyH_take (i := 22) (v := .bool true) rfl (by kernel_rfl) (by kernel_rfl) (by kernel_rfl) (fun _ _ _ h => h) (.inl ⟨by rfl, fun w hw => by clear hw; go_simp⟩) h3x ?_
  try simp only [Act.put, lay_out]
  refine wpAnyH_done (by kernel_rfl) ?_ _
  refine NoPanic.normal ?_
  clear h0 h1x h2x h3x
  try simp only [Act.put, lay_out]
  go_wp2
  go_ret
  exact ⟨rfl, Z3.out.z.less (fun _ h => .inl h), Z3.out.z.low⟩
set_option maxHeartbeats 6400000 in
theorem ldoes_6 {Pm : World → Nat → Ms → (Nat → Prop) → Prop} (hM : Mach Pm) {lo : Nat} {X : Nat → Prop} {W w : World} {p b k : Nat} {S : Ms} (a : Act8) (h : Bz Pm lo X W w p b S S) (hq : Bq k S) (hk : k ≤ 100000) (ha : acwf a) (hK : a.K = 6) :
    Calls Try.prog 13 #[.pointer (some ⟨p, 0, none⟩), .pointer (some ⟨b, 0, none⟩), .agg (acC a)] w fun e w' => e = .returned (.bool true) ∧ Bz Pm lo X W w' p b (S.actS a) (S.actS a) ∧ Below lo W w' := by
  have e5 : S.actS a = S.doS ⟨a.o.K, a.o.D, a.o.A, -1, -1, a.o.C⟩ 0 := by unfold Ms.actS Ms.opA Ms.wdA; simp [hK]
  rw [e5]
  clear e5
  have HB : Hid (Below w.heap.size w ((w.alloc (.cells (acC a) 45)).alloc (.cells (opCs a.o) 43))) := hid (((Below.refl _ _).alloc (Nat.le_refl _) _).alloc (by simp) _)
  have n1 : ((w.alloc (.cells (acC a) 45)).alloc (.cells (opCs a.o) 43)).heap[w.heap.size]? = some (.cells (acC a) 45 (0, 0)) := (heap_alloc_old _ _ (by simp)).trans (heap_alloc_new _ _)
  have n2 : ((w.alloc (.cells (acC a) 45)).alloc (.cells (opCs a.o) 43)).heap[w.heap.size + 1]? = some (.cells (opCs a.o) 43 (0, 0)) := by have := heap_alloc_new (w.alloc (.cells (acC a) 45)) (.cells (opCs a.o) 43); simpa using this
  have n3 : ((w.alloc (.cells (acC a) 45)).alloc (.cells (opCs a.o) 43)).heap.size = w.heap.size + 2 := by simp
  obtain ⟨w2, hw2⟩ : ∃ w2, (w.alloc (.cells (acC a) 45)).alloc (.cells (opCs a.o) 43) = w2 := ⟨_, rfl⟩
  rw [hw2] at HB n1 n2 n3
  have HW2 := hid hw2
  have Z : Hid (Lz Pm lo (fun k => X k ∨ w.heap.size ≤ k ∧ k < w2.heap.size) W w.heap.size a w2 p b S S) := hid ⟨h.more hM HB.out, n1, n2, .inr ⟨Nat.le_refl _, by omega⟩, .inr ⟨by omega, by omega⟩⟩
  have HA := hid ha
  have HQ := hid hq
  have HK2 := hid hk
  have HK : Hid (k ≤ 1000000) := hid (by omega)
  have HX : Hid (a.X < 2 ^ 64) := hid (by have := ha.2.2; omega)
  have HO : Hid (opwf ⟨a.o.K, a.o.D, a.o.A, -1, -1, a.o.C⟩) := hid (by have := opA_wf hq (by omega : k ≤ 1000000) ha; unfold Ms.opA at this; simpa [hK] using this)
  clear h hq hk ha hw2 n1 n2 n3
  go_enter Try.func13, Try.ntmps13
  go_upto_region 2 with fail
  rw [HW2.out]
  have c0 := row_c (i := 0) (u := .int .i64 a.K) Z.out.act rfl
  rw [hK] at c0
  clear hK
  go_wp2_with fail
  have Z0 := hid (Z.out.drew hM)
  refine wp_region_noPanic ?_
  refine wp_region_held_drew (S := fun w' => w'.heap[w.heap.size]? = some (.cells (acC a) 45 (0, 0)) ∧ w'.heap[w.heap.size + 1]? = some (.cells (opCs a.o) 43 (0, 0))) (by kernel_rfl) (⟨Z0.out.act, Z0.out.op⟩) (fun h0 => ?_)
  generalize w2.drew = y1 at *
  refine wpAnyH_take (i := 0) (v := .pointer (some ⟨p, 0, none⟩)) rfl (by kernel_rfl) (by kernel_rfl) (by kernel_rfl) (fun _ _ _ h => h) (.inl ⟨by rfl, fun w hw => by clear hw; go_simp⟩) h0 ?_
  try simp only [Act.put, lay_out]
  refine wpAnyH_take (i := 1) (v := .pointer (some ⟨w.heap.size + 1, 0, none⟩)) rfl (by kernel_rfl) (by kernel_rfl) (by kernel_rfl) (fun _ _ _ h => h) (.inl ⟨by rfl, fun w hw => by clear hw; go_simp⟩) h0 ?_
  try simp only [Act.put, lay_out]
  refine wpAnyH_take (i := 2) (v := .int .i64 a.o.K) rfl (by kernel_rfl) (by kernel_rfl) (by kernel_rfl) (fun _ _ _ h => h) (.inl ⟨by rfl, fun w' hw => by have hc := row_c (i := 0) (u := .int .i64 a.o.K) hw.2 rfl; clear hw; go_simp⟩) h0 ?_
  try simp only [Act.put, lay_out]
  refine wpAnyH_take (i := 3) (v := .pointer (some ⟨w.heap.size + 1, 1, none⟩)) rfl (by kernel_rfl) (by kernel_rfl) (by kernel_rfl) (fun _ _ _ h => h) (.inl ⟨by rfl, fun w hw => by clear hw; go_simp⟩) h0 ?_
  try simp only [Act.put, lay_out]
  refine wpAnyH_take (i := 4) (v := .int .i64 a.o.D) rfl (by kernel_rfl) (by kernel_rfl) (by kernel_rfl) (fun _ _ _ h => h) (.inl ⟨by rfl, fun w' hw => by have hc := row_c (i := 1) (u := .int .i64 a.o.D) hw.2 rfl; clear hw; go_simp⟩) h0 ?_
  try simp only [Act.put, lay_out]
  refine wpAnyH_take (i := 5) (v := .pointer (some ⟨w.heap.size + 1, 2, none⟩)) rfl (by kernel_rfl) (by kernel_rfl) (by kernel_rfl) (fun _ _ _ h => h) (.inl ⟨by rfl, fun w hw => by clear hw; go_simp⟩) h0 ?_
  try simp only [Act.put, lay_out]
  refine wpAnyH_take (i := 6) (v := .int .i64 a.o.A) rfl (by kernel_rfl) (by kernel_rfl) (by kernel_rfl) (fun _ _ _ h => h) (.inl ⟨by rfl, fun w' hw => by have hc := row_c (i := 2) (u := .int .i64 a.o.A) hw.2 rfl; clear hw; go_simp⟩) h0 ?_
  try simp only [Act.put, lay_out]
  refine wpAnyH_take (i := 7) (v := .pointer (some ⟨w.heap.size + 1, 5, none⟩)) rfl (by kernel_rfl) (by kernel_rfl) (by kernel_rfl) (fun _ _ _ h => h) (.inl ⟨by rfl, fun w hw => by clear hw; go_simp⟩) h0 ?_
  try simp only [Act.put, lay_out]
  refine wpAnyH_take (i := 8) (v := .int .u64 (a.o.C : Int)) rfl (by kernel_rfl) (by kernel_rfl) (by kernel_rfl) (fun _ _ _ h => h) (.inl ⟨by rfl, fun w' hw => by have hc := row_c (i := 5) (u := .int .u64 (a.o.C : Int)) hw.2 rfl; clear hw; go_simp⟩) h0 ?_
  try simp only [Act.put, lay_out]
  refine wpAnyH_take (i := 10) (v := .pointer (some ⟨b, 0, none⟩)) rfl (by kernel_rfl) (by kernel_rfl) (by kernel_rfl) (fun _ _ _ h => h) (.inl ⟨by rfl, fun w hw => by clear hw; go_simp⟩) h0 ?_
  try simp only [Act.put, lay_out]
  refine wpAnyH_take (i := 11) (v := .pointer (some ⟨w.heap.size + 1, 0, none⟩)) rfl (by kernel_rfl) (by kernel_rfl) (by kernel_rfl) (fun _ _ _ h => h) (.inl ⟨by rfl, fun w hw => by clear hw; go_simp⟩) h0 ?_
  try simp only [Act.put, lay_out]
  refine wpAnyH_take (i := 12) (v := .int .i64 a.o.K) rfl (by kernel_rfl) (by kernel_rfl) (by kernel_rfl) (fun _ _ _ h => h) (.inl ⟨by rfl, fun w' hw => by have hc := row_c (i := 0) (u := .int .i64 a.o.K) hw.2 rfl; clear hw; go_simp⟩) h0 ?_
  try simp only [Act.put, lay_out]
  refine wpAnyH_take (i := 13) (v := .pointer (some ⟨w.heap.size + 1, 1, none⟩)) rfl (by kernel_rfl) (by kernel_rfl) (by kernel_rfl) (fun _ _ _ h => h) (.inl ⟨by rfl, fun w hw => by clear hw; go_simp⟩) h0 ?_
  try simp only [Act.put, lay_out]
  refine wpAnyH_take (i := 14) (v := .int .i64 a.o.D) rfl (by kernel_rfl) (by kernel_rfl) (by kernel_rfl) (fun _ _ _ h => h) (.inl ⟨by rfl, fun w' hw => by have hc := row_c (i := 1) (u := .int .i64 a.o.D) hw.2 rfl; clear hw; go_simp⟩) h0 ?_
  try simp only [Act.put, lay_out]
  refine wpAnyH_take (i := 15) (v := .pointer (some ⟨w.heap.size + 1, 2, none⟩)) rfl (by kernel_rfl) (by kernel_rfl) (by kernel_rfl) (fun _ _ _ h => h) (.inl ⟨by rfl, fun w hw => by clear hw; go_simp⟩) h0 ?_
  try simp only [Act.put, lay_out]
  refine wpAnyH_take (i := 16) (v := .int .i64 a.o.A) rfl (by kernel_rfl) (by kernel_rfl) (by kernel_rfl) (fun _ _ _ h => h) (.inl ⟨by rfl, fun w' hw => by have hc := row_c (i := 2) (u := .int .i64 a.o.A) hw.2 rfl; clear hw; go_simp⟩) h0 ?_
  try simp only [Act.put, lay_out]
  refine wpAnyH_take (i := 17) (v := .pointer (some ⟨w.heap.size + 1, 5, none⟩)) rfl (by kernel_rfl) (by kernel_rfl) (by kernel_rfl) (fun _ _ _ h => h) (.inl ⟨by rfl, fun w hw => by clear hw; go_simp⟩) h0 ?_
  try simp only [Act.put, lay_out]
  refine wpAnyH_take (i := 18) (v := .int .u64 (a.o.C : Int)) rfl (by kernel_rfl) (by kernel_rfl) (by kernel_rfl) (fun _ _ _ h => h) (.inl ⟨by rfl, fun w' hw => by have hc := row_c (i := 5) (u := .int .u64 (a.o.C : Int)) hw.2 rfl; clear hw; go_simp⟩) h0 ?_
  try simp only [Act.put, lay_out]
  refine wpAnyH_ready (rs := [9]) (by kernel_rfl) (by simp) (AllReadyH.cons rfl (fun K hK => ?_) AllReadyH.nil)
  rw [if_pos (by rfl)]
  go_simp
  go_at_call 38
  (with_reducible refine (zone hM a.o.K a.o.D a.o.A a.o.C Z0.out.z HQ.out HK.out HO.out).mono ?_); rintro e w3 ⟨rfl, hz, hs⟩
  have Z1 := hid (Z0.out.on hz hs)
  clear hz hs
  refine hK.out _ _ (⟨Z1.out.act, Z1.out.op⟩) (fun h1x => ?_)
  clear hK K
  try simp only [Act.put, lay_out]
  refine wpAnyH_ready (rs := [19]) (by kernel_rfl) (by simp) (AllReadyH.cons rfl (fun K hK => ?_) AllReadyH.nil)
  rw [if_pos (by rfl)]
  go_simp
  go_at_call 36
  (with_reducible refine (dopc_any a.o.K a.o.D a.o.A (-1) a.o.C _).mono ?_); rintro e w4 ⟨rfl, hb⟩
  have Z2 := hid (Z1.out.self hM hb)
  clear hb
  refine hK.out _ _ (⟨Z2.out.act, Z2.out.op⟩) (fun h2x => ?_)
  clear hK K
  try simp only [Act.put, lay_out]
  refine wpAnyH_ready (rs := [20]) (by kernel_rfl) (by simp) (AllReadyH.cons rfl (fun K hK => ?_) AllReadyH.nil)
  rw [if_pos (by rfl)]
  go_simp
  go_at_call 35
  (with_reducible refine (ydo0 hM ⟨a.o.K, a.o.D, a.o.A, -1, -1, a.o.C⟩ Z2.out.z HQ.out HK2.out HO.out).mono ?_); rintro e w5 ⟨rfl, hz, hs⟩
  have Z3 := hid (Z2.out.on hz hs)
  clear hz hs
  refine hK.out _ _ (⟨Z3.out.act, Z3.out.op⟩) (fun h3x => ?_)
  clear hK K
  try simp only [Act.put, lay_out]
  refine wpAnyH_take (i := 21) (v := .bool true) rfl (by kernel_rfl) (by kernel_rfl) (by kernel_rfl) (fun _ _ _ h => h) (.inl ⟨by rfl, fun w hw => by clear hw; go_simp⟩) h3x ?_
  try simp only [Act.put, lay_out]
  refine wpAnyH_take (i := 22) (v := .bool true) rfl (by kernel_rfl) (by kernel_rfl) (by kernel_rfl) (fun _ _ _ h => h) (.inl ⟨by rfl, fun w hw => by clear hw; go_simp⟩) h3x ?_
  try simp only [Act.put, lay_out]
  refine wpAnyH_done (by kernel_rfl) ?_ _
  refine NoPanic.normal ?_
  clear h0 h1x h2x h3x
  try simp only [Act.put, lay_out]
  go_wp2
  go_ret
  exact ⟨rfl, Z3.out.z.less (fun _ h => .inl h), Z3.out.z.low⟩
set_option maxHeartbeats 6400000 in
theorem ldoes_8 {Pm : World → Nat → Ms → (Nat → Prop) → Prop} (hM : Mach Pm) {lo : Nat} {X : Nat → Prop} {W w : World} {p b k : Nat} {S : Ms} (a : Act8) (h : Bz Pm lo X W w p b S S) (hq : Bq k S) (hk : k ≤ 100000) (ha : acwf a) (hK : a.K = 8) :
    Calls Try.prog 13 #[.pointer (some ⟨p, 0, none⟩), .pointer (some ⟨b, 0, none⟩), .agg (acC a)] w fun e w' => e = .returned (.bool true) ∧ Bz Pm lo X W w' p b (S.actS a) (S.actS a) ∧ Below lo W w' := by
  have e5 : S.actS a = S.beginS a.o.K := by unfold Ms.actS Ms.opA Ms.wdA; simp [hK]
  rw [e5]
  clear e5
  have HB : Hid (Below w.heap.size w ((w.alloc (.cells (acC a) 45)).alloc (.cells (opCs a.o) 43))) := hid (((Below.refl _ _).alloc (Nat.le_refl _) _).alloc (by simp) _)
  have n1 : ((w.alloc (.cells (acC a) 45)).alloc (.cells (opCs a.o) 43)).heap[w.heap.size]? = some (.cells (acC a) 45 (0, 0)) := (heap_alloc_old _ _ (by simp)).trans (heap_alloc_new _ _)
  have n2 : ((w.alloc (.cells (acC a) 45)).alloc (.cells (opCs a.o) 43)).heap[w.heap.size + 1]? = some (.cells (opCs a.o) 43 (0, 0)) := by have := heap_alloc_new (w.alloc (.cells (acC a) 45)) (.cells (opCs a.o) 43); simpa using this
  have n3 : ((w.alloc (.cells (acC a) 45)).alloc (.cells (opCs a.o) 43)).heap.size = w.heap.size + 2 := by simp
  obtain ⟨w2, hw2⟩ : ∃ w2, (w.alloc (.cells (acC a) 45)).alloc (.cells (opCs a.o) 43) = w2 := ⟨_, rfl⟩
  rw [hw2] at HB n1 n2 n3
  have HW2 := hid hw2
  have Z : Hid (Lz Pm lo (fun k => X k ∨ w.heap.size ≤ k ∧ k < w2.heap.size) W w.heap.size a w2 p b S S) := hid ⟨h.more hM HB.out, n1, n2, .inr ⟨Nat.le_refl _, by omega⟩, .inr ⟨by omega, by omega⟩⟩
  have HA := hid ha
  have HQ := hid hq
  have HK2 := hid hk
  have HK : Hid (k ≤ 1000000) := hid (by omega)
  have HX : Hid (a.X < 2 ^ 64) := hid (by have := ha.2.2; omega)
  clear h hq hk ha hw2 n1 n2 n3
  go_enter Try.func13, Try.ntmps13
  go_upto_region 2 with fail
  rw [HW2.out]
  have c0 := row_c (i := 0) (u := .int .i64 a.K) Z.out.act rfl
  rw [hK] at c0
  clear hK
  have d0 := row_c (i := 0) (u := .int .i64 a.o.K) Z.out.op rfl
  go_wp2_with (first
    | (go_at_call 18; (with_reducible refine (zbegin_ hM a.o.K Z.out.z HQ.out HK.out).mono ?_); rintro e w3 ⟨rfl, hz, hs⟩; have Z1 := hid (Z.out.on hz hs); have d1 := row_c (i := 0) (u := .int .i64 a.o.K) Z1.out.op rfl; clear hz hs)
    | (go_at_call 39; (with_reducible refine (ybegin hM a.o.K Z1.out.z HQ.out HK2.out).mono ?_); rintro e w4 ⟨rfl, hz, hs⟩; have Z2 := hid (Z1.out.on hz hs); clear hz hs))
  go_ret
  exact ⟨rfl, Z2.out.z.less (fun _ h => .inl h), Z2.out.z.low⟩
set_option maxHeartbeats 6400000 in
theorem ldoes_9 {Pm : World → Nat → Ms → (Nat → Prop) → Prop} (hM : Mach Pm) {lo : Nat} {X : Nat → Prop} {W w : World} {p b k : Nat} {S : Ms} (a : Act8) (h : Bz Pm lo X W w p b S S) (hq : Bq k S) (hk : k ≤ 100000) (ha : acwf a) (hK : a.K = 9) :
    Calls Try.prog 13 #[.pointer (some ⟨p, 0, none⟩), .pointer (some ⟨b, 0, none⟩), .agg (acC a)] w fun e w' => e = .returned (.bool true) ∧ Bz Pm lo X W w' p b (S.actS a) (S.actS a) ∧ Below lo W w' := by
  have e5 : S.actS a = S.endS := by unfold Ms.actS Ms.opA Ms.wdA; simp [hK]
  rw [e5]
  clear e5
  have HB : Hid (Below w.heap.size w ((w.alloc (.cells (acC a) 45)).alloc (.cells (opCs a.o) 43))) := hid (((Below.refl _ _).alloc (Nat.le_refl _) _).alloc (by simp) _)
  have n1 : ((w.alloc (.cells (acC a) 45)).alloc (.cells (opCs a.o) 43)).heap[w.heap.size]? = some (.cells (acC a) 45 (0, 0)) := (heap_alloc_old _ _ (by simp)).trans (heap_alloc_new _ _)
  have n2 : ((w.alloc (.cells (acC a) 45)).alloc (.cells (opCs a.o) 43)).heap[w.heap.size + 1]? = some (.cells (opCs a.o) 43 (0, 0)) := by have := heap_alloc_new (w.alloc (.cells (acC a) 45)) (.cells (opCs a.o) 43); simpa using this
  have n3 : ((w.alloc (.cells (acC a) 45)).alloc (.cells (opCs a.o) 43)).heap.size = w.heap.size + 2 := by simp
  obtain ⟨w2, hw2⟩ : ∃ w2, (w.alloc (.cells (acC a) 45)).alloc (.cells (opCs a.o) 43) = w2 := ⟨_, rfl⟩
  rw [hw2] at HB n1 n2 n3
  have HW2 := hid hw2
  have Z : Hid (Lz Pm lo (fun k => X k ∨ w.heap.size ≤ k ∧ k < w2.heap.size) W w.heap.size a w2 p b S S) := hid ⟨h.more hM HB.out, n1, n2, .inr ⟨Nat.le_refl _, by omega⟩, .inr ⟨by omega, by omega⟩⟩
  have HA := hid ha
  have HQ := hid hq
  have HK2 := hid hk
  have HK : Hid (k ≤ 1000000) := hid (by omega)
  have HX : Hid (a.X < 2 ^ 64) := hid (by have := ha.2.2; omega)
  clear h hq hk ha hw2 n1 n2 n3
  go_enter Try.func13, Try.ntmps13
  go_upto_region 2 with fail
  rw [HW2.out]
  have c0 := row_c (i := 0) (u := .int .i64 a.K) Z.out.act rfl
  rw [hK] at c0
  clear hK
  go_wp2_with (first
    | (go_at_call 20; (with_reducible refine (zend_ hM Z.out.z HQ.out HK.out).mono ?_); rintro e w3 ⟨rfl, hz, hs⟩; have Z1 := hid (Z.out.on hz hs); clear hz hs)
    | (go_at_call 40; (with_reducible refine (yend hM Z1.out.z HQ.out HK2.out).mono ?_); rintro e w4 ⟨rfl, hz, hs⟩; have Z2 := hid (Z1.out.on hz hs); clear hz hs))
  go_ret
  exact ⟨rfl, Z2.out.z.less (fun _ h => .inl h), Z2.out.z.low⟩
set_option maxHeartbeats 6400000 in
theorem ldoes_no {Pm : World → Nat → Ms → (Nat → Prop) → Prop} (hM : Mach Pm) {lo : Nat} {X : Nat → Prop} {W w : World} {p b k : Nat} {S : Ms} (a : Act8) (h : Bz Pm lo X W w p b S S) (hq : Bq k S) (hk : k ≤ 100000) (ha : acwf a) (hK : a.K < 0 ∨ 9 < a.K) :
    Calls Try.prog 13 #[.pointer (some ⟨p, 0, none⟩), .pointer (some ⟨b, 0, none⟩), .agg (acC a)] w fun e w' => e = .returned (.bool true) ∧ Bz Pm lo X W w' p b (S.actS a) (S.actS a) ∧ Below lo W w' := by
  have e5 : S.actS a = S := by unfold Ms.actS; rw [if_neg (by omega), if_neg (by omega), if_neg (by omega)]
  rw [e5]
  clear e5
  have HB : Hid (Below w.heap.size w ((w.alloc (.cells (acC a) 45)).alloc (.cells (opCs a.o) 43))) := hid (((Below.refl _ _).alloc (Nat.le_refl _) _).alloc (by simp) _)
  have n1 : ((w.alloc (.cells (acC a) 45)).alloc (.cells (opCs a.o) 43)).heap[w.heap.size]? = some (.cells (acC a) 45 (0, 0)) := (heap_alloc_old _ _ (by simp)).trans (heap_alloc_new _ _)
  have n2 : ((w.alloc (.cells (acC a) 45)).alloc (.cells (opCs a.o) 43)).heap[w.heap.size + 1]? = some (.cells (opCs a.o) 43 (0, 0)) := by have := heap_alloc_new (w.alloc (.cells (acC a) 45)) (.cells (opCs a.o) 43); simpa using this
  have n3 : ((w.alloc (.cells (acC a) 45)).alloc (.cells (opCs a.o) 43)).heap.size = w.heap.size + 2 := by simp
  obtain ⟨w2, hw2⟩ : ∃ w2, (w.alloc (.cells (acC a) 45)).alloc (.cells (opCs a.o) 43) = w2 := ⟨_, rfl⟩
  rw [hw2] at HB n1 n2 n3
  have HW2 := hid hw2
  have Z : Hid (Lz Pm lo (fun k => X k ∨ w.heap.size ≤ k ∧ k < w2.heap.size) W w.heap.size a w2 p b S S) := hid ⟨h.more hM HB.out, n1, n2, .inr ⟨Nat.le_refl _, by omega⟩, .inr ⟨by omega, by omega⟩⟩
  have HA := hid ha
  have HQ := hid hq
  have HK2 := hid hk
  have HK : Hid (k ≤ 1000000) := hid (by omega)
  have HX : Hid (a.X < 2 ^ 64) := hid (by have := ha.2.2; omega)
  clear h hq hk ha hw2 n1 n2 n3
  go_enter Try.func13, Try.ntmps13
  go_upto_region 2 with fail
  rw [HW2.out]
  have c0 := row_c (i := 0) (u := .int .i64 a.K) Z.out.act rfl
  have g0 : (a.K == 0) = false := by simp; omega
  have g1 : (a.K == 1) = false := by simp; omega
  have g2 : (a.K == 2) = false := by simp; omega
  have g3 : (a.K == 3) = false := by simp; omega
  have g4 : (a.K == 4) = false := by simp; omega
  have g5 : (a.K == 5) = false := by simp; omega
  have g6 : (a.K == 6) = false := by simp; omega
  have g7 : (a.K == 7) = false := by simp; omega
  have g8 : (a.K == 8) = false := by simp; omega
  have g9 : (a.K == 9) = false := by simp; omega
  clear hK
  go_wp2
  go_ret
  exact ⟨rfl, Z.out.z.less (fun _ h => .inl h), Z.out.z.low⟩
end Go.Proofs.Ytffoinnllihdeaa
