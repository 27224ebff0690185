import Derived.Test.YthhkhcacljgelaaProg
import Derived.Test.YthhkhcacljgelaaMac
import Derived.Test.YthhkhcacljgelaaArd
import Derived.Test.YthhkhcacljgelaaCpy
set_option maxRecDepth 100000
/- The document's Block and Masks. -/
namespace Go.Proofs.Ythhkhcacljgelaa
open Go.RowKit
set_option maxRecDepth 100000

/-- What is told by the document's Block. -/
def BlkP (w : World) (z : Nat → Nat) (e : Ending) (w' : World) : Prop := ∃ g, e = .returned (.slice (some ⟨g, 0, none⟩) 16 16) ∧ Wd w' 16 g 0 z ∧ w.heap.size ≤ g ∧ Below w.heap.size w w'
end Go.Proofs.Ythhkhcacljgelaa

/- The document's Sum. -/
namespace Go.Proofs.Ythhkhcacljgelaa
open Go.RowKit
set_option maxRecDepth 100000

section
variable {w wr w' : World} {kv : Value} {R R1 g1 g2 gx : Nat} {Y : Nat → Nat → Nat} {x : Nat → Nat}
end
theorem own16 {B g c : Nat} {E : TypeId} {w : World} {l : Nat → Nat} {n k : Nat} (h : Own .u8 B E w (.slice (some ⟨g, 0, none⟩) (n + 1 + k) c) ((ns n l ++ [(128 : Int)]) ++ List.replicate k 0)) (hk : n + 1 + k = 16) (hl : ∀ j, j < n → l j < 256) : Wd w 16 g 0 (padF n l) ∧ B ≤ g := by
  rw [pad_ns l hk, hk] at h
  exact wd_own h (fun j _ => padF_b hl j)

/-- What the document's Sum tells. -/
def SumP (w : World) (z : Nat → Nat) (e : Ending) (w' : World) : Prop := ∃ g, e = .returned (.slice (some ⟨g, 0, none⟩) 16 16) ∧ Wd w' 16 g 0 z ∧ w.heap.size ≤ g ∧ Below w.heap.size w w'
end Go.Proofs.Ythhkhcacljgelaa
