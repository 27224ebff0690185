import Derived.Test.YthhkhcacljgelaaGreatProg
import Derived.Test.YthhkhcacljgelaaGreatEba
/- EaxTells: what it holds. -/
namespace Go.Proofs.YthhkhcacljgelaaGreat
open Go.RowKit
set_option maxRecDepth 100000

/-- The box of three rows, new. -/
structure Bx4 (w w0 : World) (v0 v1 v2 : Value) : Prop where
  blk : w0.heap[w.heap.size]? = some (.cells #[v0, v1, v2] 23 (0, 0))
  low : Below w.heap.size w w0
theorem Bx4.start (w : World) (v0 v1 v2 : Value) : Bx4 w (w.alloc (.cells #[v0, v1, v2] 23)) v0 v1 v2 := ⟨heap_alloc_new w _, (Below.refl _ w).alloc (Nat.le_refl _) _⟩
/-- What EaxTells holds behind New. -/
structure El (b : Nat) (w w1 wr : World) (d c cap R R1 : Nat) (Y : Nat → Nat → Nat) (nb : Nat) (v0 v1 v2 kv : Value) : Prop where
  eh : Eh b w wr d c cap R R1 Y nb v0 v1 v2
  low : Only b w1 wr
  ky : Ky w kv R R1 Y
section
variable {b : Nat} {w w1 wr w' : World} {d c cap R R1 nb : Nat} {Y : Nat → Nat → Nat} {v0 v1 v2 kv : Value}
theorem El.later (h : El b w w1 wr d c cap R R1 Y nb v0 v1 v2 kv) (hg : Gc w' d b c cap R R1 Y) (o : Only b wr w') : El b w w1 w' d c cap R R1 Y nb v0 v1 v2 kv := ⟨h.eh.later hg o, h.low.trans o, h.ky⟩
theorem El.self (h : El b w w1 wr d c cap R R1 Y nb v0 v1 v2 kv) (hb : Below wr.heap.size wr w') : El b w w1 w' d c cap R R1 Y nb v0 v1 v2 kv := h.later (h.eh.gc.self hb) (Only.of_below hb)
theorem El.kyr (h : El b w w1 wr d c cap R R1 Y nb v0 v1 v2 kv) : Ky wr kv R R1 Y := h.ky.later h.eh.lw.low
end
end Go.Proofs.YthhkhcacljgelaaGreat
