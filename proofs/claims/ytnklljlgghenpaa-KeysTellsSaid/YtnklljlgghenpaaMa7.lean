import Derived.Test.YtnklljlgghenpaaMa6
namespace Go.Proofs.Ytnklljlgghenpaa
open Go.RowKit

/-- Two results laid down. -/
structure L2 (f m s : Nat → Nat) (b : Nat) (w wr : World) : Prop where
  low : Below w.heap.size w wr
  far : w.heap.size + 1 ≤ b
  mat : M wr b m
  st : M wr (b + 1) s
theorem L2.start {f m s : Nat → Nat} {w wr w1 : World} (hl : Below w.heap.size w wr) (hs : w.heap.size + 1 ≤ wr.heap.size) (hb : Below wr.heap.size wr w1) :
    L2 f m s w1.heap.size w ((((w1.alloc (.cells (ba 8 (fun _ => 0)) 68)).alloc (.cells (ba 8 (fun _ => 0)) 68)).setRow w1.heap.size (ba 8 m)).setRow (w1.heap.size + 1) (ba 8 s)) := by
  have h1 := hl.trans (hb.mono hl.size)
  have hs1 := hb.size
  have n1 : At ((w1.alloc (.cells (ba 8 (fun _ => 0)) 68)).alloc (.cells (ba 8 (fun _ => 0)) 68)) w1.heap.size 8 68 (fun _ => 0) := (At.new w1 8 68 (fun _ => 0)).alloc _
  have n2 : At ((w1.alloc (.cells (ba 8 (fun _ => 0)) 68)).alloc (.cells (ba 8 (fun _ => 0)) 68)) (w1.heap.size + 1) 8 68 (fun _ => 0) := by
    have := At.new (w1.alloc (.cells (ba 8 (fun _ => 0)) 68)) 8 68 (fun _ => 0)
    rwa [World.size_alloc] at this
  refine ⟨below_setRow (below_setRow ((h1.alloc (by omega) _).alloc (by simp; omega) _) (by omega) _) (by omega) _, by omega, (n1.row m).rowApart (by omega) _, (n2.rowApart (by omega) _).row s⟩

theorem second_at (w1 : World) (m : Nat → Nat) : At (((w1.alloc (.cells (ba 8 (fun _ => 0)) 68)).alloc (.cells (ba 8 (fun _ => 0)) 68)).setRow w1.heap.size (ba 8 m)) (w1.heap.size + 1) 8 68 (fun _ => 0) := by
  have := At.new (w1.alloc (.cells (ba 8 (fun _ => 0)) 68)) 8 68 (fun _ => 0)
  rw [World.size_alloc] at this
  exact this.rowApart (by omega) _
theorem rows_ne {f m s : Nat → Nat} {d k : Nat} (h : RInv f m s d 8) (hk : k < 8) : ((m k : Int) != 0) = decide (k < d) := by
  by_cases hd : k < d
  · have := h.nonzero k hd
    simp [hd]; omega
  · have := h.zero k (by omega) hk
    simp [hd, this]

end Go.Proofs.Ytnklljlgghenpaa
