import Derived.Test.YthopdlcmmafcaaaProg
import Derived.Test.YthopdlcmmafcaaaTpa
/- Trace: two traces in their boxes. -/
namespace Go.Proofs.Ythopdlcmmafcaaa
open Go.RowKit
set_option maxRecDepth 100000
structure Tw (A B : Array Value) (w wr : World) : Prop where
  one : wr.heap[w.heap.size]? = some (.cells A 25 (0, 0))
  two : wr.heap[w.heap.size + 1]? = some (.cells B 25 (0, 0))
  low : Below w.heap.size w wr
section
variable {A B : Array Value} {w wr w1 : World}
theorem Tw.start (A B : Array Value) (w : World) : Tw A B w ((w.alloc (.cells A 25)).alloc (.cells B 25)) := by
  refine ⟨?_, ?_, ((Below.refl _ w).alloc (Nat.le_refl _) _).alloc (by simp) _⟩
  · rw [heap_alloc_old _ _ (by simp)]; exact heap_alloc_new w _
  · have := heap_alloc_new (w.alloc (.cells A 25)) (.cells B 25)
    rw [show (w.alloc (.cells A 25)).heap.size = w.heap.size + 1 by simp] at this
    exact this
theorem Tw.self (h : Tw A B w wr) (hb : Below wr.heap.size wr w1) : Tw A B w w1 :=
  ⟨(hb.block _ (Array.getElem?_eq_some_iff.1 h.one).1).trans h.one, (hb.block _ (Array.getElem?_eq_some_iff.1 h.two).1).trans h.two, h.low.trans (hb.mono h.low.size)⟩
theorem Tw.drew (h : Tw A B w wr) : Tw A B w wr.drew := ⟨h.one, h.two, h.low.drew⟩
theorem Tw.alloc (h : Tw A B w wr) (o : Obj) : Tw A B w (wr.alloc o) := h.self ((Below.refl _ wr).alloc (Nat.le_refl _) o)
theorem Tw.row (h : Tw A B w wr) {b : Nat} (hb : w.heap.size + 2 ≤ b) (cs : Array Value) : Tw A B w (wr.setRow b cs) := by
  refine ⟨?_, ?_, h.low.trans ⟨rfl, rfl, rfl, by simp [World.setRow], fun k hk => setRow_other _ _ k _ (by omega)⟩⟩
  · rw [setRow_other _ _ _ _ (by omega)]; exact h.one
  · rw [setRow_other _ _ _ _ (by omega)]; exact h.two
theorem Tw.fresh (h : Tw A B w wr) : w.heap.size + 2 ≤ wr.heap.size := by have := (Array.getElem?_eq_some_iff.1 h.two).1; omega
end
end Go.Proofs.Ythopdlcmmafcaaa
