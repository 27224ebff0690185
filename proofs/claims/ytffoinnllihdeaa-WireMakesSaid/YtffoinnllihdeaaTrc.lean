import Derived.Test.YtffoinnllihdeaaProg
import Derived.Test.YtffoinnllihdeaaOcb
import Derived.Test.YtffoinnllihdeaaTrm
import Derived.Test.YtffoinnllihdeaaAri
/- Trace: tallies, and what is opened, by the document. -/
namespace Go.Proofs.Ytffoinnllihdeaa
open Go.RowKit
set_option maxRecDepth 100000

/-- A trace's value. -/
abbrev trV (N : Int) (v0 v1 : Value) : Value := .agg #[.int .i64 N, v0, v1]
/-- What stands in a trace's box. -/
structure Tb (w : World) (b : Nat) (N : Int) (v0 v1 : Value) : Prop where
  n : w.cell? ⟨b, 0, none⟩ = some (.int .i64 N)
  o : w.cell? ⟨b, 1, none⟩ = some v0
  s : w.cell? ⟨b, 2, none⟩ = some v1
theorem tb_box {w w' : World} {N : Int} {v0 v1 : Value} {T : TypeId} (h : Below (w.alloc (.cells #[.int .i64 N, v0, v1] T)).heap.size (w.alloc (.cells #[.int .i64 N, v0, v1] T)) w') : Tb w' w.heap.size N v0 v1 := by
  have e : w'.heap[w.heap.size]? = some (.cells #[.int .i64 N, v0, v1] T (0, 0)) := by rw [h.block _ (by simp)]; exact heap_alloc_new w _
  exact ⟨by rw [cell_of_row w' _ 0 _ _ _ e]; rfl, by rw [cell_of_row w' _ 1 _ _ _ e]; rfl, by rw [cell_of_row w' _ 2 _ _ _ e]; rfl⟩
theorem heap3_get {w : World} {c0 c1 c2 : Array Value} {t0 t1 t2 : TypeId} : (((w.alloc (.cells c0 t0)).alloc (.cells c1 t1)).alloc (.cells c2 t2)).heap[w.heap.size]? = some (.cells c0 t0 (0, 0)) ∧ (((w.alloc (.cells c0 t0)).alloc (.cells c1 t1)).alloc (.cells c2 t2)).heap[w.heap.size + 1]? = some (.cells c1 t1 (0, 0)) ∧ (((w.alloc (.cells c0 t0)).alloc (.cells c1 t1)).alloc (.cells c2 t2)).heap[w.heap.size + 2]? = some (.cells c2 t2 (0, 0)) := by
  refine ⟨?_, ?_, ?_⟩
  · rw [Below.heap_alloc _ _ _ (by simp; omega), Below.heap_alloc _ _ _ (by simp)]; exact heap_alloc_new w (.cells c0 t0)
  · rw [Below.heap_alloc _ _ _ (by simp)]; have := heap_alloc_new (w.alloc (.cells c0 t0)) (.cells c1 t1); simpa using this
  · have := heap_alloc_new ((w.alloc (.cells c0 t0)).alloc (.cells c1 t1)) (.cells c2 t2); simpa using this
theorem ia_zero : ia 13 (fun _ => 0) = #[.int .i64 0, .int .i64 0, .int .i64 0, .int .i64 0, .int .i64 0, .int .i64 0, .int .i64 0, .int .i64 0, .int .i64 0, .int .i64 0, .int .i64 0, .int .i64 0, .int .i64 0] := rfl
end Go.Proofs.Ytffoinnllihdeaa
