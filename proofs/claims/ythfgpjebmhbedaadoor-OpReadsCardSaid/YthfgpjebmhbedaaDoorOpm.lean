import Derived.Test.YthfgpjebmhbedaaDoorProg
import Derived.Test.YthfgpjebmhbedaaDoorOpl
import Derived.Test.YthfgpjebmhbedaaDoorSad
/- Op: an op's line, by the document. -/
namespace Go.Proofs.YthfgpjebmhbedaaDoor
open Go.RowKit Go.Lib
set_option maxRecDepth 100000

/-- What stands in an op's box, in every later world. -/
structure Bo (n : Nat) (K D A B E : Int) (C : Nat) (w : World) : Prop where
  op : w.rangeAt n 0 [.int .i64 K, .int .i64 D, .int .i64 A, .int .i64 B, .int .i64 E, .int .u64 (C : Int)]
  k : w.cell? ⟨n, 0, none⟩ = some (.int .i64 K)
  d : w.cell? ⟨n, 1, none⟩ = some (.int .i64 D)
  a : w.cell? ⟨n, 2, none⟩ = some (.int .i64 A)
  b : w.cell? ⟨n, 3, none⟩ = some (.int .i64 B)
  e : w.cell? ⟨n, 4, none⟩ = some (.int .i64 E)
  c : w.cell? ⟨n, 5, none⟩ = some (.int .u64 (C : Int))
theorem bo_of {w' : World} {K D A B E : Int} {C n : Nat} (h : w'.heap[n]? = some (.cells #[.int .i64 K, .int .i64 D, .int .i64 A, .int .i64 B, .int .i64 E, .int .u64 (C : Int)] 24 (0, 0))) : Bo n K D A B E C w' :=
  { op := World.rangeAt_of_block h 0 6, k := (by rw [cell_of_row w' _ 0 _ _ _ h]; rfl), d := (by rw [cell_of_row w' _ 1 _ _ _ h]; rfl), a := (by rw [cell_of_row w' _ 2 _ _ _ h]; rfl), b := (by rw [cell_of_row w' _ 3 _ _ _ h]; rfl), e := (by rw [cell_of_row w' _ 4 _ _ _ h]; rfl), c := (by rw [cell_of_row w' _ 5 _ _ _ h]; rfl) }
theorem bo_box {w w' : World} {K D A B E : Int} {C : Nat} (h : Below (w.alloc (.cells #[.int .i64 K, .int .i64 D, .int .i64 A, .int .i64 B, .int .i64 E, .int .u64 (C : Int)] 24)).heap.size (w.alloc (.cells #[.int .i64 K, .int .i64 D, .int .i64 A, .int .i64 B, .int .i64 E, .int .u64 (C : Int)] 24)) w') : Bo w.heap.size K D A B E C w' :=
  bo_of (by rw [h.block _ (by simp)]; exact heap_alloc_new w (.cells #[.int .i64 K, .int .i64 D, .int .i64 A, .int .i64 B, .int .i64 E, .int .u64 (C : Int)] 24))
/-- The names, in a row. -/
def nmC : Array Value := #[.string ⟨#[]⟩, .string ⟨#[114, 97, 110, 100]⟩, .string ⟨#[107, 101, 121]⟩, .string ⟨#[99, 111, 110, 115, 116]⟩, .string ⟨#[116, 111, 108, 100]⟩, .string ⟨#[120, 111, 114]⟩, .string ⟨#[110, 111, 116]⟩, .string ⟨#[97, 110, 100]⟩, .string ⟨#[109, 97, 115, 107]⟩, .string ⟨#[115, 104, 108]⟩, .string ⟨#[115, 104, 114]⟩, .string ⟨#[114, 111, 116]⟩, .string ⟨#[111, 112, 101, 110]⟩]
theorem nmC_at : ∀ k : Nat, k < 13 → nmC[k]? = some (.string (sB (knL (k : Int)))) := by
  intro k hk
  have := knL_fin ⟨k, hk⟩
  simp only at this
  rw [this]
  rcases (by omega : k = 0 ∨ k = 1 ∨ k = 2 ∨ k = 3 ∨ k = 4 ∨ k = 5 ∨ k = 6 ∨ k = 7 ∨ k = 8 ∨ k = 9 ∨ k = 10 ∨ k = 11 ∨ k = 12) with rfl | rfl | rfl | rfl | rfl | rfl | rfl | rfl | rfl | rfl | rfl | rfl | rfl <;> rfl
theorem refnames_any (w : World) : Calls Tryd.prog 14 #[] w fun e w' => e = .returned (.slice (some ⟨w.heap.size, 0, none⟩) 13 13) ∧ (∀ k : Nat, k < 13 → w'.cell? ⟨w.heap.size, k, none⟩ = some (.string (sB (knL (k : Int))))) ∧ Below w.heap.size w w' := by
  go_enter Tryd.func14, Tryd.ntmps14
  go_wp2
  go_ret
  refine ⟨rfl, fun k hk => ?_, (Below.refl _ _).alloc (Nat.le_refl _) _⟩
  show (w.alloc (.cells nmC 9)).cell? _ = _
  rw [cell_of_row _ _ k nmC 9 (0, 0) (heap_alloc_new w (.cells nmC 9))]
  exact nmC_at k hk
theorem knL_len (K : Int) : (knL K).length ≤ 5 := by
  by_cases h' : K < 1 ∨ 12 < K
  · rw [knL_no h']; exact Nat.zero_le _
  · obtain ⟨j, rfl⟩ := Int.eq_ofNat_of_zero_le (by omega : 0 ≤ K)
    exact (by decide +kernel : ∀ i : Fin 13, (knL (i.val : Int)).length ≤ 5) ⟨j, by omega⟩
set_option maxHeartbeats 800000 in
theorem refline_kind (K D A B E : Int) (C : Nat) (w : World) (hK : 1 ≤ K ∧ K ≤ 12) (hD : -9223372036854775808 ≤ D ∧ D ≤ 9223372036854775807) (hA : -9223372036854775808 ≤ A ∧ A ≤ 9223372036854775807) (hB : -9223372036854775808 ≤ B ∧ B ≤ 9223372036854775807) (hE : -9223372036854775808 ≤ E ∧ E ≤ 9223372036854775807) (hC : C < 18446744073709551616) :
    Calls Tryd.prog 6 #[.agg #[.int .i64 K, .int .i64 D, .int .i64 A, .int .i64 B, .int .i64 E, .int .u64 (C : Int)]] w fun e w' => e = .returned (.string (sB (lnL ⟨K, D, A, B, E, C⟩))) ∧ Below w.heap.size w w' := by
  have HBX := hid (fun w' => bo_box (w := w) (w' := w') (K := K) (D := D) (A := A) (B := B) (E := E) (C := C))
  have HB : Hid (Below w.heap.size w (w.alloc (.cells #[.int .i64 K, .int .i64 D, .int .i64 A, .int .i64 B, .int .i64 E, .int .u64 (C : Int)] 24))) := hid ((Below.refl _ _).alloc (Nat.le_refl _) _)
  have HI0 := hid (fun w => refint_any D w hD.1 hD.2)
  have HI1 := hid (fun w => refint_any A w hA.1 hA.2)
  have HI2 := hid (fun w => refint_any B w hB.1 hB.2)
  have HI3 := hid (fun w => refint_any E w hE.1 hE.2)
  have HI4 := hid (fun w => refdig_any C w hC)
  have l0 := knL_len K
  have l1 := itoa_length_le D hD.1 hD.2
  have l2 := itoa_length_le A hA.1 hA.2
  have l3 := itoa_length_le B hB.1 hB.2
  have l4 := itoa_length_le E hE.1 hE.2
  have l5 := dec_size hC
  rw [sB_size] at l5
  unfold lnL
  simp only
  have HT1 : Hid (sB (knL K ++ [32]) = sB (knL K) ++ sB ([32]) ∧ (sB (knL K)).size + (sB ([32])).size ≤ 1000000) := hid ⟨(sB_add _ _).symm, by simp only [sB_size, List.length_singleton]; omega⟩
  have HT2 : Hid (sB (knL K ++ [32] ++ itoa D) = sB (knL K ++ [32]) ++ sB (itoa D) ∧ (sB (knL K ++ [32])).size + (sB (itoa D)).size ≤ 1000000) := hid ⟨(sB_add _ _).symm, by simp only [sB_size, List.length_append, List.length_singleton]; omega⟩
  have HT3 : Hid (sB (knL K ++ [32] ++ itoa D ++ [32]) = sB (knL K ++ [32] ++ itoa D) ++ sB ([32]) ∧ (sB (knL K ++ [32] ++ itoa D)).size + (sB ([32])).size ≤ 1000000) := hid ⟨(sB_add _ _).symm, by simp only [sB_size, List.length_append, List.length_singleton]; omega⟩
  have HT4 : Hid (sB (knL K ++ [32] ++ itoa D ++ [32] ++ itoa A) = sB (knL K ++ [32] ++ itoa D ++ [32]) ++ sB (itoa A) ∧ (sB (knL K ++ [32] ++ itoa D ++ [32])).size + (sB (itoa A)).size ≤ 1000000) := hid ⟨(sB_add _ _).symm, by simp only [sB_size, List.length_append, List.length_singleton]; omega⟩
  have HT5 : Hid (sB (knL K ++ [32] ++ itoa D ++ [32] ++ itoa A ++ [32]) = sB (knL K ++ [32] ++ itoa D ++ [32] ++ itoa A) ++ sB ([32]) ∧ (sB (knL K ++ [32] ++ itoa D ++ [32] ++ itoa A)).size + (sB ([32])).size ≤ 1000000) := hid ⟨(sB_add _ _).symm, by simp only [sB_size, List.length_append, List.length_singleton]; omega⟩
  have HT6 : Hid (sB (knL K ++ [32] ++ itoa D ++ [32] ++ itoa A ++ [32] ++ itoa B) = sB (knL K ++ [32] ++ itoa D ++ [32] ++ itoa A ++ [32]) ++ sB (itoa B) ∧ (sB (knL K ++ [32] ++ itoa D ++ [32] ++ itoa A ++ [32])).size + (sB (itoa B)).size ≤ 1000000) := hid ⟨(sB_add _ _).symm, by simp only [sB_size, List.length_append, List.length_singleton]; omega⟩
  have HT7 : Hid (sB (knL K ++ [32] ++ itoa D ++ [32] ++ itoa A ++ [32] ++ itoa B ++ [32]) = sB (knL K ++ [32] ++ itoa D ++ [32] ++ itoa A ++ [32] ++ itoa B) ++ sB ([32]) ∧ (sB (knL K ++ [32] ++ itoa D ++ [32] ++ itoa A ++ [32] ++ itoa B)).size + (sB ([32])).size ≤ 1000000) := hid ⟨(sB_add _ _).symm, by simp only [sB_size, List.length_append, List.length_singleton]; omega⟩
  have HT8 : Hid (sB (knL K ++ [32] ++ itoa D ++ [32] ++ itoa A ++ [32] ++ itoa B ++ [32] ++ itoa E) = sB (knL K ++ [32] ++ itoa D ++ [32] ++ itoa A ++ [32] ++ itoa B ++ [32]) ++ sB (itoa E) ∧ (sB (knL K ++ [32] ++ itoa D ++ [32] ++ itoa A ++ [32] ++ itoa B ++ [32])).size + (sB (itoa E)).size ≤ 1000000) := hid ⟨(sB_add _ _).symm, by simp only [sB_size, List.length_append, List.length_singleton]; omega⟩
  have HT9 : Hid (sB (knL K ++ [32] ++ itoa D ++ [32] ++ itoa A ++ [32] ++ itoa B ++ [32] ++ itoa E ++ [32]) = sB (knL K ++ [32] ++ itoa D ++ [32] ++ itoa A ++ [32] ++ itoa B ++ [32] ++ itoa E) ++ sB ([32]) ∧ (sB (knL K ++ [32] ++ itoa D ++ [32] ++ itoa A ++ [32] ++ itoa B ++ [32] ++ itoa E)).size + (sB ([32])).size ≤ 1000000) := hid ⟨(sB_add _ _).symm, by simp only [sB_size, List.length_append, List.length_singleton]; omega⟩
  have HT10 : Hid (sB (knL K ++ [32] ++ itoa D ++ [32] ++ itoa A ++ [32] ++ itoa B ++ [32] ++ itoa E ++ [32] ++ decDigits C) = sB (knL K ++ [32] ++ itoa D ++ [32] ++ itoa A ++ [32] ++ itoa B ++ [32] ++ itoa E ++ [32]) ++ sB (decDigits C) ∧ (sB (knL K ++ [32] ++ itoa D ++ [32] ++ itoa A ++ [32] ++ itoa B ++ [32] ++ itoa E ++ [32])).size + (sB (decDigits C)).size ≤ 1000000) := hid ⟨(sB_add _ _).symm, by simp only [sB_size, List.length_append, List.length_singleton]; omega⟩
  rw [show sB [32] = ⟨#[32]⟩ from rfl] at HT1 HT3 HT5 HT7 HT9
  generalize sB (knL K ++ [32] ++ itoa D ++ [32] ++ itoa A ++ [32] ++ itoa B ++ [32] ++ itoa E ++ [32] ++ decDigits C) = T10 at *
  generalize sB (knL K ++ [32] ++ itoa D ++ [32] ++ itoa A ++ [32] ++ itoa B ++ [32] ++ itoa E ++ [32]) = T9 at *
  generalize sB (knL K ++ [32] ++ itoa D ++ [32] ++ itoa A ++ [32] ++ itoa B ++ [32] ++ itoa E) = T8 at *
  generalize sB (knL K ++ [32] ++ itoa D ++ [32] ++ itoa A ++ [32] ++ itoa B ++ [32]) = T7 at *
  generalize sB (knL K ++ [32] ++ itoa D ++ [32] ++ itoa A ++ [32] ++ itoa B) = T6 at *
  generalize sB (knL K ++ [32] ++ itoa D ++ [32] ++ itoa A ++ [32]) = T5 at *
  generalize sB (knL K ++ [32] ++ itoa D ++ [32] ++ itoa A) = T4 at *
  generalize sB (knL K ++ [32] ++ itoa D ++ [32]) = T3 at *
  generalize sB (knL K ++ [32] ++ itoa D) = T2 at *
  generalize sB (knL K ++ [32]) = T1 at *
  obtain ⟨k, rfl⟩ := Int.eq_ofNat_of_zero_le (by omega : 0 ≤ K)
  have HN := hid refnames_any
  have k1 : (0 : Int) < (k : Int) := by omega
  have k2 : (k : Int) < 13 := by omega
  have k3 : (0 : Int) ≤ (k : Int) := by omega
  have k4 : k < 13 := by omega
  have HX := hid k4
  generalize HT0e : sB (knL (k : Int)) = T0 at *
  have HT0 := hid HT0e
  generalize sB (itoa D) = I0 at *
  generalize sB (itoa A) = I1 at *
  generalize sB (itoa B) = I2 at *
  generalize sB (itoa E) = I3 at *
  generalize sB (decDigits C) = I4 at *
  clear hD hA hB hE hC hK l0 l1 l2 l3 l4 l5 HT0e k4
  obtain ⟨w1, hw1⟩ : ∃ w1, w.alloc (.cells #[.int .i64 (k : Int), .int .i64 D, .int .i64 A, .int .i64 B, .int .i64 E, .int .u64 (C : Int)] 24) = w1 := ⟨_, rfl⟩
  rw [hw1] at HBX HB
  have HW1 := hid hw1
  clear hw1
  go_enter Tryd.func6, Tryd.ntmps6
  go_wp2
  rw [HW1.out]
  refine wp_region_noPanic ?_
  refine wp_region_held_drew (S := fun w' => Below w1.heap.size w1 w') (by kernel_rfl) ((Below.refl _ _).drew) (fun h0 => ?_)
  generalize w1.drew = v1 at *
  refine wpAnyH_take (i := 1) (v := .pointer (some ⟨w.heap.size, 0, none⟩)) rfl (by kernel_rfl) (by kernel_rfl) (by kernel_rfl) (fun _ _ _ h => h) (.inl ⟨by rfl, fun w hw => by clear hw; go_simp⟩) h0 ?_
  try simp only [Act.put, lay_out]
  refine wpAnyH_take (i := 2) (v := .int .i64 (k : Int)) rfl (by kernel_rfl) (by kernel_rfl) (by kernel_rfl) (fun _ _ _ h => h) (.inl ⟨by rfl, fun w hw => by have kk := (HBX.out w hw).k; clear hw; go_simp⟩) h0 ?_
  try simp only [Act.put, lay_out]
  refine wpAnyH_ready (rs := [0]) (by kernel_rfl) (by simp) (AllReadyH.cons rfl (fun K hK => ?_) AllReadyH.nil)
  rw [if_pos (by rfl)]
  go_simp
  go_at_call 14
  (with_reducible refine (HN.out v1).mono ?_); rintro e v2 ⟨rfl, g2, g3⟩
  have hc := hid (g2 k HX.out)
  have G3 := hid g3
  have HV1 := hid h0.size
  clear g2 g3
  refine hK.out _ _ (h0.trans (G3.out.mono h0.size)) (fun h1x => ?_)
  clear hK K
  try simp only [Act.put, lay_out]
  have HW2 := hid h1x
  refine wpAnyH_from h1x (fun h2x => ?_)
  refine wpAnyH_take (i := 3) (v := .pointer (some ⟨v1.heap.size, k, none⟩)) rfl (by kernel_rfl) (by kernel_rfl) (by kernel_rfl) (fun _ _ _ h => h) (.inl ⟨by rfl, fun w hw => by clear hw; go_simp⟩) h2x ?_
  try simp only [Act.put, lay_out]
  refine wpAnyH_take (i := 4) (v := .string T0) rfl (by kernel_rfl) (by kernel_rfl) (by kernel_rfl) (fun _ _ _ h => h) (.inl ⟨by rfl, fun w hw => by have kk := (hw.cell (p := ⟨v1.heap.size, k, none⟩) (World.block_lt_of_cell? _ _ hc.out)).trans hc.out; rw [HT0.out] at kk; clear hw; go_simp⟩) h2x ?_
  try simp only [Act.put, lay_out]
  refine wpAnyH_take (i := 5) (v := .string T0) rfl (by kernel_rfl) (by kernel_rfl) (by kernel_rfl) (fun _ _ _ h => h) (.inl ⟨by rfl, fun w hw => by clear hw; go_simp⟩) h2x ?_
  try simp only [Act.put, lay_out]
  have HV := hid h2x
  refine wpAnyH_done (by kernel_rfl) ?_ _
  refine NoPanic.normal ?_
  clear h0 h1x h2x
  try simp only [Act.put, lay_out]
  go_wp2
  refine wp_region_noPanic ?_
  refine wp_region_held_drew (S := fun w' => Below w1.heap.size w1 w') (by kernel_rfl) (HW2.out.drew) (fun h0 => ?_)
  generalize v2.drew = w3 at *
  refine wpAnyH_take (i := 0) (v := .string T0) rfl (by kernel_rfl) (by kernel_rfl) (by kernel_rfl) (fun _ _ _ h => h) (.inl ⟨by rfl, fun w hw => by clear hw; go_simp⟩) h0 ?_
  try simp only [Act.put, lay_out]
  refine wpAnyH_take (i := 1) (v := .string T1) rfl (by kernel_rfl) (by kernel_rfl) (by kernel_rfl) (fun _ _ _ h => h) (yields_sadd (by rfl) 9 9 _ _ rfl T0 ⟨#[32]⟩ T1 rfl rfl HT1.out.1 HT1.out.2) h0 ?_
  try simp only [Act.put, lay_out]
  refine wpAnyH_take (i := 2) (v := .pointer (some ⟨w.heap.size, 1, none⟩)) rfl (by kernel_rfl) (by kernel_rfl) (by kernel_rfl) (fun _ _ _ h => h) (.inl ⟨by rfl, fun w hw => by clear hw; go_simp⟩) h0 ?_
  try simp only [Act.put, lay_out]
  refine wpAnyH_take (i := 3) (v := .int .i64 D) rfl (by kernel_rfl) (by kernel_rfl) (by kernel_rfl) (fun _ _ _ h => h) (.inl ⟨by rfl, fun w hw => by have kk := (HBX.out w hw).d; clear hw; go_simp⟩) h0 ?_
  try simp only [Act.put, lay_out]
  refine wpAnyH_take (i := 7) (v := .pointer (some ⟨w.heap.size, 2, none⟩)) rfl (by kernel_rfl) (by kernel_rfl) (by kernel_rfl) (fun _ _ _ h => h) (.inl ⟨by rfl, fun w hw => by clear hw; go_simp⟩) h0 ?_
  try simp only [Act.put, lay_out]
  refine wpAnyH_take (i := 8) (v := .int .i64 A) rfl (by kernel_rfl) (by kernel_rfl) (by kernel_rfl) (fun _ _ _ h => h) (.inl ⟨by rfl, fun w hw => by have kk := (HBX.out w hw).a; clear hw; go_simp⟩) h0 ?_
  try simp only [Act.put, lay_out]
  refine wpAnyH_take (i := 12) (v := .pointer (some ⟨w.heap.size, 3, none⟩)) rfl (by kernel_rfl) (by kernel_rfl) (by kernel_rfl) (fun _ _ _ h => h) (.inl ⟨by rfl, fun w hw => by clear hw; go_simp⟩) h0 ?_
  try simp only [Act.put, lay_out]
  refine wpAnyH_take (i := 13) (v := .int .i64 B) rfl (by kernel_rfl) (by kernel_rfl) (by kernel_rfl) (fun _ _ _ h => h) (.inl ⟨by rfl, fun w hw => by have kk := (HBX.out w hw).b; clear hw; go_simp⟩) h0 ?_
  try simp only [Act.put, lay_out]
  refine wpAnyH_take (i := 17) (v := .pointer (some ⟨w.heap.size, 4, none⟩)) rfl (by kernel_rfl) (by kernel_rfl) (by kernel_rfl) (fun _ _ _ h => h) (.inl ⟨by rfl, fun w hw => by clear hw; go_simp⟩) h0 ?_
  try simp only [Act.put, lay_out]
  refine wpAnyH_take (i := 18) (v := .int .i64 E) rfl (by kernel_rfl) (by kernel_rfl) (by kernel_rfl) (fun _ _ _ h => h) (.inl ⟨by rfl, fun w hw => by have kk := (HBX.out w hw).e; clear hw; go_simp⟩) h0 ?_
  try simp only [Act.put, lay_out]
  refine wpAnyH_take (i := 22) (v := .pointer (some ⟨w.heap.size, 5, none⟩)) rfl (by kernel_rfl) (by kernel_rfl) (by kernel_rfl) (fun _ _ _ h => h) (.inl ⟨by rfl, fun w hw => by clear hw; go_simp⟩) h0 ?_
  try simp only [Act.put, lay_out]
  refine wpAnyH_take (i := 23) (v := .int .u64 (C : Int)) rfl (by kernel_rfl) (by kernel_rfl) (by kernel_rfl) (fun _ _ _ h => h) (.inl ⟨by rfl, fun w hw => by have kk := (HBX.out w hw).c; clear hw; go_simp⟩) h0 ?_
  try simp only [Act.put, lay_out]
  refine wpAnyH_ready (rs := [4]) (by kernel_rfl) (by simp) (AllReadyH.cons rfl (fun K hK => ?_) AllReadyH.nil)
  rw [if_pos (by rfl)]
  go_simp
  go_at_call 15
  (with_reducible refine (HI0.out w3).mono ?_); rintro e w4 ⟨rfl, g0⟩
  have G0 := hid g0
  clear g0
  refine hK.out _ _ (h0.trans (G0.out.mono h0.size)) (fun h1x => ?_)
  clear hK K
  try simp only [Act.put, lay_out]
  refine wpAnyH_take (i := 5) (v := .string T2) rfl (by kernel_rfl) (by kernel_rfl) (by kernel_rfl) (fun _ _ _ h => h) (yields_sadd (by rfl) 9 9 _ _ rfl T1 I0 T2 rfl rfl HT2.out.1 HT2.out.2) h1x ?_
  try simp only [Act.put, lay_out]
  refine wpAnyH_take (i := 6) (v := .string T3) rfl (by kernel_rfl) (by kernel_rfl) (by kernel_rfl) (fun _ _ _ h => h) (yields_sadd (by rfl) 9 9 _ _ rfl T2 ⟨#[32]⟩ T3 rfl rfl HT3.out.1 HT3.out.2) h1x ?_
  try simp only [Act.put, lay_out]
  refine wpAnyH_ready (rs := [9]) (by kernel_rfl) (by simp) (AllReadyH.cons rfl (fun K hK => ?_) AllReadyH.nil)
  rw [if_pos (by rfl)]
  go_simp
  go_at_call 15
  (with_reducible refine (HI1.out w4).mono ?_); rintro e w5 ⟨rfl, g1⟩
  have G1 := hid g1
  clear g1
  refine hK.out _ _ (h1x.trans (G1.out.mono h1x.size)) (fun h2x => ?_)
  clear hK K
  try simp only [Act.put, lay_out]
  refine wpAnyH_take (i := 10) (v := .string T4) rfl (by kernel_rfl) (by kernel_rfl) (by kernel_rfl) (fun _ _ _ h => h) (yields_sadd (by rfl) 9 9 _ _ rfl T3 I1 T4 rfl rfl HT4.out.1 HT4.out.2) h2x ?_
  try simp only [Act.put, lay_out]
  refine wpAnyH_take (i := 11) (v := .string T5) rfl (by kernel_rfl) (by kernel_rfl) (by kernel_rfl) (fun _ _ _ h => h) (yields_sadd (by rfl) 9 9 _ _ rfl T4 ⟨#[32]⟩ T5 rfl rfl HT5.out.1 HT5.out.2) h2x ?_
  try simp only [Act.put, lay_out]
  refine wpAnyH_ready (rs := [14]) (by kernel_rfl) (by simp) (AllReadyH.cons rfl (fun K hK => ?_) AllReadyH.nil)
  rw [if_pos (by rfl)]
  go_simp
  go_at_call 15
  (with_reducible refine (HI2.out w5).mono ?_); rintro e w6 ⟨rfl, g2⟩
  have G2 := hid g2
  clear g2
  refine hK.out _ _ (h2x.trans (G2.out.mono h2x.size)) (fun h3x => ?_)
  clear hK K
  try simp only [Act.put, lay_out]
  refine wpAnyH_take (i := 15) (v := .string T6) rfl (by kernel_rfl) (by kernel_rfl) (by kernel_rfl) (fun _ _ _ h => h) (yields_sadd (by rfl) 9 9 _ _ rfl T5 I2 T6 rfl rfl HT6.out.1 HT6.out.2) h3x ?_
  try simp only [Act.put, lay_out]
  refine wpAnyH_take (i := 16) (v := .string T7) rfl (by kernel_rfl) (by kernel_rfl) (by kernel_rfl) (fun _ _ _ h => h) (yields_sadd (by rfl) 9 9 _ _ rfl T6 ⟨#[32]⟩ T7 rfl rfl HT7.out.1 HT7.out.2) h3x ?_
  try simp only [Act.put, lay_out]
  refine wpAnyH_ready (rs := [19]) (by kernel_rfl) (by simp) (AllReadyH.cons rfl (fun K hK => ?_) AllReadyH.nil)
  rw [if_pos (by rfl)]
  go_simp
  go_at_call 15
  (with_reducible refine (HI3.out w6).mono ?_); rintro e w7 ⟨rfl, g3⟩
  have G3 := hid g3
  clear g3
  refine hK.out _ _ (h3x.trans (G3.out.mono h3x.size)) (fun h4x => ?_)
  clear hK K
  try simp only [Act.put, lay_out]
  refine wpAnyH_take (i := 20) (v := .string T8) rfl (by kernel_rfl) (by kernel_rfl) (by kernel_rfl) (fun _ _ _ h => h) (yields_sadd (by rfl) 9 9 _ _ rfl T7 I3 T8 rfl rfl HT8.out.1 HT8.out.2) h4x ?_
  try simp only [Act.put, lay_out]
  refine wpAnyH_take (i := 21) (v := .string T9) rfl (by kernel_rfl) (by kernel_rfl) (by kernel_rfl) (fun _ _ _ h => h) (yields_sadd (by rfl) 9 9 _ _ rfl T8 ⟨#[32]⟩ T9 rfl rfl HT9.out.1 HT9.out.2) h4x ?_
  try simp only [Act.put, lay_out]
  refine wpAnyH_ready (rs := [24]) (by kernel_rfl) (by simp) (AllReadyH.cons rfl (fun K hK => ?_) AllReadyH.nil)
  rw [if_pos (by rfl)]
  go_simp
  go_at_call 16
  (with_reducible refine (HI4.out w7).mono ?_); rintro e w8 ⟨rfl, g4⟩
  have G4 := hid g4
  clear g4
  refine hK.out _ _ (h4x.trans (G4.out.mono h4x.size)) (fun h5x => ?_)
  clear hK K
  try simp only [Act.put, lay_out]
  refine wpAnyH_take (i := 25) (v := .string T10) rfl (by kernel_rfl) (by kernel_rfl) (by kernel_rfl) (fun _ _ _ h => h) (yields_sadd (by rfl) 9 9 _ _ rfl T9 I4 T10 rfl rfl HT10.out.1 HT10.out.2) h5x ?_
  try simp only [Act.put, lay_out]
  refine wpAnyH_take (i := 26) (v := .string T10) rfl (by kernel_rfl) (by kernel_rfl) (by kernel_rfl) (fun _ _ _ h => h) (.inl ⟨by rfl, fun w hw => by clear hw; go_simp⟩) h5x ?_
  try simp only [Act.put, lay_out]
  have HZ := hid h5x
  refine wpAnyH_done (by kernel_rfl) ?_ _
  refine NoPanic.normal ?_
  clear h0 h1x h2x h3x h4x h5x
  try simp only [Act.put, lay_out]
  go_wp2
  go_ret
  exact ⟨rfl, HB.out.trans (HZ.out.mono HB.out.size)⟩
set_option maxHeartbeats 1600000 in
theorem refline_none (K D A B E : Int) (C : Nat) (w : World) (hK : K < 1 ∨ 12 < K) (hD : -9223372036854775808 ≤ D ∧ D ≤ 9223372036854775807) (hA : -9223372036854775808 ≤ A ∧ A ≤ 9223372036854775807) (hB : -9223372036854775808 ≤ B ∧ B ≤ 9223372036854775807) (hE : -9223372036854775808 ≤ E ∧ E ≤ 9223372036854775807) (hC : C < 18446744073709551616) :
    Calls Tryd.prog 6 #[.agg #[.int .i64 K, .int .i64 D, .int .i64 A, .int .i64 B, .int .i64 E, .int .u64 (C : Int)]] w fun e w' => e = .returned (.string (sB (lnL ⟨K, D, A, B, E, C⟩))) ∧ Below w.heap.size w w' := by
  have HBX := hid (fun w' => bo_box (w := w) (w' := w') (K := K) (D := D) (A := A) (B := B) (E := E) (C := C))
  have HB : Hid (Below w.heap.size w (w.alloc (.cells #[.int .i64 K, .int .i64 D, .int .i64 A, .int .i64 B, .int .i64 E, .int .u64 (C : Int)] 24))) := hid ((Below.refl _ _).alloc (Nat.le_refl _) _)
  have HI0 := hid (fun w => refint_any D w hD.1 hD.2)
  have HI1 := hid (fun w => refint_any A w hA.1 hA.2)
  have HI2 := hid (fun w => refint_any B w hB.1 hB.2)
  have HI3 := hid (fun w => refint_any E w hE.1 hE.2)
  have HI4 := hid (fun w => refdig_any C w hC)
  have l0 := knL_len K
  have l1 := itoa_length_le D hD.1 hD.2
  have l2 := itoa_length_le A hA.1 hA.2
  have l3 := itoa_length_le B hB.1 hB.2
  have l4 := itoa_length_le E hE.1 hE.2
  have l5 := dec_size hC
  rw [sB_size] at l5
  unfold lnL
  simp only
  have HT1 : Hid (sB (knL K ++ [32]) = sB (knL K) ++ sB ([32]) ∧ (sB (knL K)).size + (sB ([32])).size ≤ 1000000) := hid ⟨(sB_add _ _).symm, by simp only [sB_size, List.length_singleton]; omega⟩
  have HT2 : Hid (sB (knL K ++ [32] ++ itoa D) = sB (knL K ++ [32]) ++ sB (itoa D) ∧ (sB (knL K ++ [32])).size + (sB (itoa D)).size ≤ 1000000) := hid ⟨(sB_add _ _).symm, by simp only [sB_size, List.length_append, List.length_singleton]; omega⟩
  have HT3 : Hid (sB (knL K ++ [32] ++ itoa D ++ [32]) = sB (knL K ++ [32] ++ itoa D) ++ sB ([32]) ∧ (sB (knL K ++ [32] ++ itoa D)).size + (sB ([32])).size ≤ 1000000) := hid ⟨(sB_add _ _).symm, by simp only [sB_size, List.length_append, List.length_singleton]; omega⟩
  have HT4 : Hid (sB (knL K ++ [32] ++ itoa D ++ [32] ++ itoa A) = sB (knL K ++ [32] ++ itoa D ++ [32]) ++ sB (itoa A) ∧ (sB (knL K ++ [32] ++ itoa D ++ [32])).size + (sB (itoa A)).size ≤ 1000000) := hid ⟨(sB_add _ _).symm, by simp only [sB_size, List.length_append, List.length_singleton]; omega⟩
  have HT5 : Hid (sB (knL K ++ [32] ++ itoa D ++ [32] ++ itoa A ++ [32]) = sB (knL K ++ [32] ++ itoa D ++ [32] ++ itoa A) ++ sB ([32]) ∧ (sB (knL K ++ [32] ++ itoa D ++ [32] ++ itoa A)).size + (sB ([32])).size ≤ 1000000) := hid ⟨(sB_add _ _).symm, by simp only [sB_size, List.length_append, List.length_singleton]; omega⟩
  have HT6 : Hid (sB (knL K ++ [32] ++ itoa D ++ [32] ++ itoa A ++ [32] ++ itoa B) = sB (knL K ++ [32] ++ itoa D ++ [32] ++ itoa A ++ [32]) ++ sB (itoa B) ∧ (sB (knL K ++ [32] ++ itoa D ++ [32] ++ itoa A ++ [32])).size + (sB (itoa B)).size ≤ 1000000) := hid ⟨(sB_add _ _).symm, by simp only [sB_size, List.length_append, List.length_singleton]; omega⟩
  have HT7 : Hid (sB (knL K ++ [32] ++ itoa D ++ [32] ++ itoa A ++ [32] ++ itoa B ++ [32]) = sB (knL K ++ [32] ++ itoa D ++ [32] ++ itoa A ++ [32] ++ itoa B) ++ sB ([32]) ∧ (sB (knL K ++ [32] ++ itoa D ++ [32] ++ itoa A ++ [32] ++ itoa B)).size + (sB ([32])).size ≤ 1000000) := hid ⟨(sB_add _ _).symm, by simp only [sB_size, List.length_append, List.length_singleton]; omega⟩
  have HT8 : Hid (sB (knL K ++ [32] ++ itoa D ++ [32] ++ itoa A ++ [32] ++ itoa B ++ [32] ++ itoa E) = sB (knL K ++ [32] ++ itoa D ++ [32] ++ itoa A ++ [32] ++ itoa B ++ [32]) ++ sB (itoa E) ∧ (sB (knL K ++ [32] ++ itoa D ++ [32] ++ itoa A ++ [32] ++ itoa B ++ [32])).size + (sB (itoa E)).size ≤ 1000000) := hid ⟨(sB_add _ _).symm, by simp only [sB_size, List.length_append, List.length_singleton]; omega⟩
  have HT9 : Hid (sB (knL K ++ [32] ++ itoa D ++ [32] ++ itoa A ++ [32] ++ itoa B ++ [32] ++ itoa E ++ [32]) = sB (knL K ++ [32] ++ itoa D ++ [32] ++ itoa A ++ [32] ++ itoa B ++ [32] ++ itoa E) ++ sB ([32]) ∧ (sB (knL K ++ [32] ++ itoa D ++ [32] ++ itoa A ++ [32] ++ itoa B ++ [32] ++ itoa E)).size + (sB ([32])).size ≤ 1000000) := hid ⟨(sB_add _ _).symm, by simp only [sB_size, List.length_append, List.length_singleton]; omega⟩
  have HT10 : Hid (sB (knL K ++ [32] ++ itoa D ++ [32] ++ itoa A ++ [32] ++ itoa B ++ [32] ++ itoa E ++ [32] ++ decDigits C) = sB (knL K ++ [32] ++ itoa D ++ [32] ++ itoa A ++ [32] ++ itoa B ++ [32] ++ itoa E ++ [32]) ++ sB (decDigits C) ∧ (sB (knL K ++ [32] ++ itoa D ++ [32] ++ itoa A ++ [32] ++ itoa B ++ [32] ++ itoa E ++ [32])).size + (sB (decDigits C)).size ≤ 1000000) := hid ⟨(sB_add _ _).symm, by simp only [sB_size, List.length_append, List.length_singleton]; omega⟩
  rw [show sB [32] = ⟨#[32]⟩ from rfl] at HT1 HT3 HT5 HT7 HT9
  generalize sB (knL K ++ [32] ++ itoa D ++ [32] ++ itoa A ++ [32] ++ itoa B ++ [32] ++ itoa E ++ [32] ++ decDigits C) = T10 at *
  generalize sB (knL K ++ [32] ++ itoa D ++ [32] ++ itoa A ++ [32] ++ itoa B ++ [32] ++ itoa E ++ [32]) = T9 at *
  generalize sB (knL K ++ [32] ++ itoa D ++ [32] ++ itoa A ++ [32] ++ itoa B ++ [32] ++ itoa E) = T8 at *
  generalize sB (knL K ++ [32] ++ itoa D ++ [32] ++ itoa A ++ [32] ++ itoa B ++ [32]) = T7 at *
  generalize sB (knL K ++ [32] ++ itoa D ++ [32] ++ itoa A ++ [32] ++ itoa B) = T6 at *
  generalize sB (knL K ++ [32] ++ itoa D ++ [32] ++ itoa A ++ [32]) = T5 at *
  generalize sB (knL K ++ [32] ++ itoa D ++ [32] ++ itoa A) = T4 at *
  generalize sB (knL K ++ [32] ++ itoa D ++ [32]) = T3 at *
  generalize sB (knL K ++ [32] ++ itoa D) = T2 at *
  generalize sB (knL K ++ [32]) = T1 at *
  generalize HT0e : sB (knL K) = T0 at *
  have HT0 : Hid (T0 = ⟨#[]⟩) := hid (by rw [← HT0e, knL_no hK]; rfl)
  generalize sB (itoa D) = I0 at *
  generalize sB (itoa A) = I1 at *
  generalize sB (itoa B) = I2 at *
  generalize sB (itoa E) = I3 at *
  generalize sB (decDigits C) = I4 at *
  clear hD hA hB hE hC l0 l1 l2 l3 l4 l5 HT0e
  have hK2 : ¬ 0 < K ∨ (0 < K ∧ ¬ K < 13) := by omega
  clear hK
  rcases hK2 with hK | ⟨hK, hK3⟩
  all_goals
    obtain ⟨w1, hw1⟩ : ∃ w1, w.alloc (.cells #[.int .i64 K, .int .i64 D, .int .i64 A, .int .i64 B, .int .i64 E, .int .u64 (C : Int)] 24) = w1 := ⟨_, rfl⟩
    rw [hw1] at HBX HB
    have HW1 := hid hw1
    clear hw1
    go_enter Tryd.func6, Tryd.ntmps6
    go_wp2
    rw [HW1.out]
    refine wp_region_noPanic ?_
    refine wp_region_held_drew (S := fun w' => Below w1.heap.size w1 w') (by kernel_rfl) ((Below.refl _ _).drew) (fun h0 => ?_)
    generalize w1.drew = w3 at *
    refine wpAnyH_take (i := 0) (v := .string T0) rfl (by kernel_rfl) (by kernel_rfl) (by kernel_rfl) (fun _ _ _ h => h) (.inl ⟨by rfl, fun w hw => by first | (clear hw; go_simp; done) | (rw [HT0.out]; clear hw; go_simp)⟩) h0 ?_
    try simp only [Act.put, lay_out]
    refine wpAnyH_take (i := 1) (v := .string T1) rfl (by kernel_rfl) (by kernel_rfl) (by kernel_rfl) (fun _ _ _ h => h) (yields_sadd (by rfl) 9 9 _ _ rfl T0 ⟨#[32]⟩ T1 rfl rfl HT1.out.1 HT1.out.2) h0 ?_
    try simp only [Act.put, lay_out]
    refine wpAnyH_take (i := 2) (v := .pointer (some ⟨w.heap.size, 1, none⟩)) rfl (by kernel_rfl) (by kernel_rfl) (by kernel_rfl) (fun _ _ _ h => h) (.inl ⟨by rfl, fun w hw => by clear hw; go_simp⟩) h0 ?_
    try simp only [Act.put, lay_out]
    refine wpAnyH_take (i := 3) (v := .int .i64 D) rfl (by kernel_rfl) (by kernel_rfl) (by kernel_rfl) (fun _ _ _ h => h) (.inl ⟨by rfl, fun w hw => by have kk := (HBX.out w hw).d; clear hw; go_simp⟩) h0 ?_
    try simp only [Act.put, lay_out]
    refine wpAnyH_take (i := 7) (v := .pointer (some ⟨w.heap.size, 2, none⟩)) rfl (by kernel_rfl) (by kernel_rfl) (by kernel_rfl) (fun _ _ _ h => h) (.inl ⟨by rfl, fun w hw => by clear hw; go_simp⟩) h0 ?_
    try simp only [Act.put, lay_out]
    refine wpAnyH_take (i := 8) (v := .int .i64 A) rfl (by kernel_rfl) (by kernel_rfl) (by kernel_rfl) (fun _ _ _ h => h) (.inl ⟨by rfl, fun w hw => by have kk := (HBX.out w hw).a; clear hw; go_simp⟩) h0 ?_
    try simp only [Act.put, lay_out]
    refine wpAnyH_take (i := 12) (v := .pointer (some ⟨w.heap.size, 3, none⟩)) rfl (by kernel_rfl) (by kernel_rfl) (by kernel_rfl) (fun _ _ _ h => h) (.inl ⟨by rfl, fun w hw => by clear hw; go_simp⟩) h0 ?_
    try simp only [Act.put, lay_out]
    refine wpAnyH_take (i := 13) (v := .int .i64 B) rfl (by kernel_rfl) (by kernel_rfl) (by kernel_rfl) (fun _ _ _ h => h) (.inl ⟨by rfl, fun w hw => by have kk := (HBX.out w hw).b; clear hw; go_simp⟩) h0 ?_
    try simp only [Act.put, lay_out]
    refine wpAnyH_take (i := 17) (v := .pointer (some ⟨w.heap.size, 4, none⟩)) rfl (by kernel_rfl) (by kernel_rfl) (by kernel_rfl) (fun _ _ _ h => h) (.inl ⟨by rfl, fun w hw => by clear hw; go_simp⟩) h0 ?_
    try simp only [Act.put, lay_out]
    refine wpAnyH_take (i := 18) (v := .int .i64 E) rfl (by kernel_rfl) (by kernel_rfl) (by kernel_rfl) (fun _ _ _ h => h) (.inl ⟨by rfl, fun w hw => by have kk := (HBX.out w hw).e; clear hw; go_simp⟩) h0 ?_
    try simp only [Act.put, lay_out]
    refine wpAnyH_take (i := 22) (v := .pointer (some ⟨w.heap.size, 5, none⟩)) rfl (by kernel_rfl) (by kernel_rfl) (by kernel_rfl) (fun _ _ _ h => h) (.inl ⟨by rfl, fun w hw => by clear hw; go_simp⟩) h0 ?_
    try simp only [Act.put, lay_out]
    refine wpAnyH_take (i := 23) (v := .int .u64 (C : Int)) rfl (by kernel_rfl) (by kernel_rfl) (by kernel_rfl) (fun _ _ _ h => h) (.inl ⟨by rfl, fun w hw => by have kk := (HBX.out w hw).c; clear hw; go_simp⟩) h0 ?_
    try simp only [Act.put, lay_out]
    refine wpAnyH_ready (rs := [4]) (by kernel_rfl) (by simp) (AllReadyH.cons rfl (fun K hK => ?_) AllReadyH.nil)
    rw [if_pos (by rfl)]
    go_simp
    go_at_call 15
    (with_reducible refine (HI0.out w3).mono ?_); rintro e w4 ⟨rfl, g0⟩
    have G0 := hid g0
    clear g0
    refine hK.out _ _ (h0.trans (G0.out.mono h0.size)) (fun h1x => ?_)
    clear hK K
    try simp only [Act.put, lay_out]
    refine wpAnyH_take (i := 5) (v := .string T2) rfl (by kernel_rfl) (by kernel_rfl) (by kernel_rfl) (fun _ _ _ h => h) (yields_sadd (by rfl) 9 9 _ _ rfl T1 I0 T2 rfl rfl HT2.out.1 HT2.out.2) h1x ?_
    try simp only [Act.put, lay_out]
    refine wpAnyH_take (i := 6) (v := .string T3) rfl (by kernel_rfl) (by kernel_rfl) (by kernel_rfl) (fun _ _ _ h => h) (yields_sadd (by rfl) 9 9 _ _ rfl T2 ⟨#[32]⟩ T3 rfl rfl HT3.out.1 HT3.out.2) h1x ?_
    try simp only [Act.put, lay_out]
    refine wpAnyH_ready (rs := [9]) (by kernel_rfl) (by simp) (AllReadyH.cons rfl (fun K hK => ?_) AllReadyH.nil)
    rw [if_pos (by rfl)]
    go_simp
    go_at_call 15
    (with_reducible refine (HI1.out w4).mono ?_); rintro e w5 ⟨rfl, g1⟩
    have G1 := hid g1
    clear g1
    refine hK.out _ _ (h1x.trans (G1.out.mono h1x.size)) (fun h2x => ?_)
    clear hK K
    try simp only [Act.put, lay_out]
    refine wpAnyH_take (i := 10) (v := .string T4) rfl (by kernel_rfl) (by kernel_rfl) (by kernel_rfl) (fun _ _ _ h => h) (yields_sadd (by rfl) 9 9 _ _ rfl T3 I1 T4 rfl rfl HT4.out.1 HT4.out.2) h2x ?_
    try simp only [Act.put, lay_out]
    refine wpAnyH_take (i := 11) (v := .string T5) rfl (by kernel_rfl) (by kernel_rfl) (by kernel_rfl) (fun _ _ _ h => h) (yields_sadd (by rfl) 9 9 _ _ rfl T4 ⟨#[32]⟩ T5 rfl rfl HT5.out.1 HT5.out.2) h2x ?_
    try simp only [Act.put, lay_out]
    refine wpAnyH_ready (rs := [14]) (by kernel_rfl) (by simp) (AllReadyH.cons rfl (fun K hK => ?_) AllReadyH.nil)
    rw [if_pos (by rfl)]
    go_simp
    go_at_call 15
    (with_reducible refine (HI2.out w5).mono ?_); rintro e w6 ⟨rfl, g2⟩
    have G2 := hid g2
    clear g2
    refine hK.out _ _ (h2x.trans (G2.out.mono h2x.size)) (fun h3x => ?_)
    clear hK K
    try simp only [Act.put, lay_out]
    refine wpAnyH_take (i := 15) (v := .string T6) rfl (by kernel_rfl) (by kernel_rfl) (by kernel_rfl) (fun _ _ _ h => h) (yields_sadd (by rfl) 9 9 _ _ rfl T5 I2 T6 rfl rfl HT6.out.1 HT6.out.2) h3x ?_
    try simp only [Act.put, lay_out]
    refine wpAnyH_take (i := 16) (v := .string T7) rfl (by kernel_rfl) (by kernel_rfl) (by kernel_rfl) (fun _ _ _ h => h) (yields_sadd (by rfl) 9 9 _ _ rfl T6 ⟨#[32]⟩ T7 rfl rfl HT7.out.1 HT7.out.2) h3x ?_
    try simp only [Act.put, lay_out]
    refine wpAnyH_ready (rs := [19]) (by kernel_rfl) (by simp) (AllReadyH.cons rfl (fun K hK => ?_) AllReadyH.nil)
    rw [if_pos (by rfl)]
    go_simp
    go_at_call 15
    (with_reducible refine (HI3.out w6).mono ?_); rintro e w7 ⟨rfl, g3⟩
    have G3 := hid g3
    clear g3
    refine hK.out _ _ (h3x.trans (G3.out.mono h3x.size)) (fun h4x => ?_)
    clear hK K
    try simp only [Act.put, lay_out]
    refine wpAnyH_take (i := 20) (v := .string T8) rfl (by kernel_rfl) (by kernel_rfl) (by kernel_rfl) (fun _ _ _ h => h) (yields_sadd (by rfl) 9 9 _ _ rfl T7 I3 T8 rfl rfl HT8.out.1 HT8.out.2) h4x ?_
    try simp only [Act.put, lay_out]
    refine wpAnyH_take (i := 21) (v := .string T9) rfl (by kernel_rfl) (by kernel_rfl) (by kernel_rfl) (fun _ _ _ h => h) (yields_sadd (by rfl) 9 9 _ _ rfl T8 ⟨#[32]⟩ T9 rfl rfl HT9.out.1 HT9.out.2) h4x ?_
    try simp only [Act.put, lay_out]
    refine wpAnyH_ready (rs := [24]) (by kernel_rfl) (by simp) (AllReadyH.cons rfl (fun K hK => ?_) AllReadyH.nil)
    rw [if_pos (by rfl)]
    go_simp
    go_at_call 16
    (with_reducible refine (HI4.out w7).mono ?_); rintro e w8 ⟨rfl, g4⟩
    have G4 := hid g4
    clear g4
    refine hK.out _ _ (h4x.trans (G4.out.mono h4x.size)) (fun h5x => ?_)
    clear hK K
    try simp only [Act.put, lay_out]
    refine wpAnyH_take (i := 25) (v := .string T10) rfl (by kernel_rfl) (by kernel_rfl) (by kernel_rfl) (fun _ _ _ h => h) (yields_sadd (by rfl) 9 9 _ _ rfl T9 I4 T10 rfl rfl HT10.out.1 HT10.out.2) h5x ?_
    try simp only [Act.put, lay_out]
    refine wpAnyH_take (i := 26) (v := .string T10) rfl (by kernel_rfl) (by kernel_rfl) (by kernel_rfl) (fun _ _ _ h => h) (.inl ⟨by rfl, fun w hw => by clear hw; go_simp⟩) h5x ?_
    try simp only [Act.put, lay_out]
    have HZ := hid h5x
    refine wpAnyH_done (by kernel_rfl) ?_ _
    refine NoPanic.normal ?_
    clear h0 h1x h2x h3x h4x h5x
    try simp only [Act.put, lay_out]
    go_wp2
    go_ret
    exact ⟨rfl, HB.out.trans (HZ.out.mono HB.out.size)⟩
theorem refline_any (o : Op6) (w : World) (hD : -9223372036854775808 ≤ o.D ∧ o.D ≤ 9223372036854775807) (hA : -9223372036854775808 ≤ o.A ∧ o.A ≤ 9223372036854775807) (hB : -9223372036854775808 ≤ o.B ∧ o.B ≤ 9223372036854775807) (hE : -9223372036854775808 ≤ o.E ∧ o.E ≤ 9223372036854775807) (hC : o.C < 18446744073709551616) :
    Calls Tryd.prog 6 #[.agg #[.int .i64 o.K, .int .i64 o.D, .int .i64 o.A, .int .i64 o.B, .int .i64 o.E, .int .u64 (o.C : Int)]] w fun e w' => e = .returned (.string (sB (lnL o))) ∧ Below w.heap.size w w' := by
  by_cases h : 1 ≤ o.K ∧ o.K ≤ 12
  · exact refline_kind _ _ _ _ _ _ w h hD hA hB hE hC
  · exact refline_none _ _ _ _ _ _ w (by omega) hD hA hB hE hC
theorem ln_len (o : Op6) (hD : -9223372036854775808 ≤ o.D ∧ o.D ≤ 9223372036854775807) (hA : -9223372036854775808 ≤ o.A ∧ o.A ≤ 9223372036854775807) (hB : -9223372036854775808 ≤ o.B ∧ o.B ≤ 9223372036854775807) (hE : -9223372036854775808 ≤ o.E ∧ o.E ≤ 9223372036854775807) (hC : o.C < 18446744073709551616) : (sB (lnL o)).size ≤ 200 := by
  have l0 := knL_len o.K
  have l1 := itoa_length_le o.D hD.1 hD.2
  have l2 := itoa_length_le o.A hA.1 hA.2
  have l3 := itoa_length_le o.B hB.1 hB.2
  have l4 := itoa_length_le o.E hE.1 hE.2
  have l5 := dec_size hC
  rw [sB_size] at l5
  rw [sB_size]
  unfold lnL
  simp only [List.length_append, List.length_singleton]
  omega
end Go.Proofs.YthfgpjebmhbedaaDoor
