import Derived.Test.YtffoinnllihdeaaProg
import Derived.Test.YtffoinnllihdeaaTrc
/- Trace: what is opened, by the document. -/
namespace Go.Proofs.Ytffoinnllihdeaa
open Go.RowKit
set_option maxRecDepth 100000

theorem infoI : (Try.prog.info? 3).map (fun i => (i.zero, i.size, i.bytes)) = some (some (.int .i64 0), 1, 8) := by kernel_rfl
theorem tcell_new (w : World) (z : Int) (E : TypeId) : ∀ j, j < 1 → (w.alloc (.cells #[.int .i64 z] E)).cell? (Addr.add ⟨w.heap.size, 0, none⟩ j) = some (.int .i64 (nth [z] j)) := fun j hj => by
  rw [cell_new w (.int .i64 z) E j hj]
  obtain rfl : j = 0 := by omega
  rfl
/-- The ops of a trace, in a world and all later ones. -/
theorem rop_ops {w : World} {a : Option Addr} {L cap : Nat} {f : Nat → Op6} (h : ROp w (.slice a L cap) L f) : ∃ b off, (0 < L → a = some ⟨b, off, none⟩) ∧ (0 < L → b < w.heap.size) ∧ ∀ i, i < L → Oc w b (off + i * 6) (f i) := by
  obtain ⟨a', cap', e, h1, h2, h3⟩ := h.at_
  injection e with e1 e2 e3
  subst e1 e3
  by_cases h0 : 0 < L
  · obtain ⟨b, off, e1, e2, e3⟩ := h3 h0
    exact ⟨b, off, fun _ => e1, fun _ => e2, e3⟩
  · exact ⟨0, 0, fun h => absurd h h0, fun h => absurd h h0, fun i hi => by omega⟩
theorem own_base_k {k : IntKind} {B B' : Nat} {E : TypeId} {w : World} {v : Value} {zs : List Int} (h : Own k B E w v zs) (hB : B' ≤ B) : Own k B' E w v zs := by
  obtain ⟨h1, h2⟩ := h
  refine ⟨h1, ?_⟩
  rcases h2 with h2 | ⟨g, cap, cur, e1, hg, r⟩
  · exact .inl h2
  · exact .inr ⟨g, cap, cur, e1, by omega, r⟩
structure OI (w1 wr : World) (v : Value) (f : Nat → Op6) (j : Nat) : Prop where
  own : Own .i64 w1.heap.size 3 wr v (opL f j)
  low : Below w1.heap.size w1 wr
end Go.Proofs.Ytffoinnllihdeaa
