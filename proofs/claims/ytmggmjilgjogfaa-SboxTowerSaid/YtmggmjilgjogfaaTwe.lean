import Derived.Test.YtmggmjilgjogfaaProg
import Derived.Test.YtmggmjilgjogfaaTwd
import Derived.Test.YtmggmjilgjogfaaMa6
import Derived.Test.YtmggmjilgjogfaaMa8
import Derived.Test.YtmggmjilgjogfaaMa9
namespace Go.Proofs.Ytmggmjilgjogfaa
open Go.RowKit

structure VInv (f : Nat → Nat) (w wr : World) (j : Nat) : Prop where
  out : At wr w.heap.size 8 25 (fun _ => 0)
  var : At wr (w.heap.size + 1) 8 24 (upTo f j)
  low : Below w.heap.size w wr
theorem VInv.step {f : Nat → Nat} {w wr : World} {j : Nat} (h : VInv f w wr j) {z : Nat} (hz : z = f j) : VInv f w (wr.setCell ⟨w.heap.size + 1, j, none⟩ (.int .u8 (z : Int))) (j + 1) := by
  refine ⟨h.out.apart (by simp) _, (h.var.set j z).ext (fun i _ => ?_), h.low.setCell (by simp) _⟩
  unfold upd upTo
  by_cases e : i = j
  · subst e; simp [hz]
  · rw [if_neg e]
    by_cases h1 : i < j
    · rw [if_pos h1, if_pos (by omega)]
    · rw [if_neg h1, if_neg (by omega)]
theorem VInv.start (f : Nat → Nat) (w : World) : VInv f w ((w.alloc (.cells (ba 8 (fun _ => 0)) 25)).alloc (.cells (ba 8 (fun _ => 0)) 24)) 0 := by
  refine ⟨(At.new w 8 25 (fun _ => 0)).alloc _, ?_, ((Below.refl _ _).alloc (Nat.le_refl _) _).alloc (by simp) _⟩
  have := At.new (w.alloc (.cells (ba 8 (fun _ => 0)) 25)) 8 24 (fun _ => 0)
  rw [World.size_alloc] at this
  exact this.ext (fun i _ => (if_neg (by omega)).symm)
theorem VInv.on {f : Nat → Nat} {w wr w1 : World} {j : Nat} (m : VInv f w wr j) (h : Below wr.heap.size wr w1) : VInv f w w1 j :=
  ⟨m.out.self h, m.var.self h, m.low.trans (h.mono m.low.size)⟩

/-- One block of eight, not written yet, and all that was there is as it was. -/
structure One8 (w wr : World) : Prop where
  out : At wr w.heap.size 8 25 (fun _ => 0)
  low : Below w.heap.size w wr
theorem One8.start (w : World) : One8 w (w.alloc (.cells (ba 8 (fun _ => 0)) 25)) := ⟨At.new w 8 25 (fun _ => 0), (Below.refl _ _).alloc (Nat.le_refl _) _⟩
theorem One8.on {w wr w1 : World} (m : One8 w wr) (h : Below wr.heap.size wr w1) : One8 w w1 := ⟨m.out.self h, m.low.trans (h.mono m.low.size)⟩
theorem One8.far {w wr : World} (m : One8 w wr) : w.heap.size < wr.heap.size := m.out.lt
theorem One8.var {w wr : World} (m : One8 w wr) (f : Nat → Nat) : One8 w ((wr.alloc (.cells (ba 8 (fun _ => 0)) 25)).setRow wr.heap.size (ba 8 f)) :=
  ⟨(m.out.alloc _).rowApart (Nat.ne_of_lt m.far) _, below_setRow (m.low.alloc m.low.size _) (Nat.le_of_lt m.far) _⟩

end Go.Proofs.Ytmggmjilgjogfaa
