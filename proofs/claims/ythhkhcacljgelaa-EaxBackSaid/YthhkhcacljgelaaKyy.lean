import Derived.Test.YthhkhcacljgelaaProg
import Derived.Test.YthhkhcacljgelaaAes
import Derived.Test.YthhkhcacljgelaaArd
import Derived.Test.YthhkhcacljgelaaGen
/- A key that may be, in all that comes; boxes at a law's start. -/
namespace Go.Proofs.Ythhkhcacljgelaa
open Go.RowKit
set_option maxRecDepth 100000
/-- New's contract at a key that may be. -/
def NewD (v : Value) (R1 : Nat) (Y : Nat → Nat → Nat) (w : World) : Prop := Calls Try.prog 5 #[v] w fun e w' =>
  ∃ d b c cap, e = .returned (.tuple #[.pointer (some ⟨d, 0, none⟩), .int .i64 0]) ∧ Ci w' d b c cap R1 Y ∧ w.heap.size ≤ b ∧ Below w.heap.size w w'
/-- Two boxes at a law's start. -/
structure Bx2 (w w0 : World) (k f : Nat → Nat) : Prop where
  key : At w0 w.heap.size 16 22 k
  beg : At w0 (w.heap.size + 1) 16 22 f
  low : Below w.heap.size w w0
theorem Bx2.start (w : World) (k f : Nat → Nat) : Bx2 w ((w.alloc (.cells (ba 16 k) 22)).alloc (.cells (ba 16 f) 22)) k f := by
  refine ⟨(At.new w 16 22 k).alloc _, ?_, ((Below.refl _ w).alloc (Nat.le_refl _) _).alloc (by simp) _⟩
  have := At.new (w.alloc (.cells (ba 16 k) 22)) 16 22 f
  rwa [World.size_alloc] at this
/-- One box at a law's start. -/
structure Bx1 (w w0 : World) (k : Nat → Nat) : Prop where
  key : At w0 w.heap.size 16 22 k
  low : Below w.heap.size w w0
theorem Bx1.start (w : World) (k : Nat → Nat) : Bx1 w (w.alloc (.cells (ba 16 k) 22)) k := ⟨At.new w 16 22 k, (Below.refl _ w).alloc (Nat.le_refl _) _⟩
end Go.Proofs.Ythhkhcacljgelaa
