import Derived.Test.YthcjgjhoifnpjaaProg
import Derived.Test.YthcjgjhoifnpjaaSpf
import Derived.Test.YthcjgjhoifnpjaaSpg
/- Kmac: what the program's calls tell, for any numbers. -/
namespace Go.Proofs.Ythcjgjhoifnpjaa
open Go.RowKit

/-- A call tells a row of its own, and a number. -/
def OwE (w : World) (zs : List Int) (c : Int) (e : Ending) (w' : World) : Prop := ∃ u, e = .returned (.tuple #[u, .int .i64 c]) ∧ Own .u8 w.heap.size 5 w' u zs ∧ Below w.heap.size w w'
def hdL (b : Int) (zk : List Int) : List Int := if chE b 0 = 0 then cpd (sto zk) (raN b).toNat else []
def ksL (b n : Int) (zk zm zc : List Int) (free : Bool) : List Int := if chE b n = 0 then kmL zk zm zc (raN b).toNat n.toNat (if free then 0 else 8 * n.toNat) else []
def sayB (b : Int) (zk zm zc zt : List Int) : Bool := decide (chE b 0 = 0 ∧ 0 < zt.length ∧ ksL b (zt.length : Int) zk zm zc false = zt)
theorem kmL_sum (zk zm zc : List Int) (rate n long : Nat) : kmL zk zm zc rate n long = sumL (nmL kmW zc (kmM zk zm rate long) rate) rate 4 n := by
  rw [kmL, namL, if_neg (fun h => absurd h.1 (by decide))]
theorem kmL_bytes (zk zm zc : List Int) (rate n long : Nat) : ∀ z ∈ kmL zk zm zc rate n long, 0 ≤ z ∧ z ≤ 255 := by rw [kmL_sum]; exact told_bytes _ _ _
theorem kmL_len (zk zm zc : List Int) {q n : Nat} (long : Nat) (hq : 1 ≤ q) : (kmL zk zm zc (8 * q) n long).length = n := by
  rw [kmL_sum, sumL]; exact told_len (by rw [Nat.mul_div_cancel_left q (by decide : 0 < 8)]; omega)
theorem kmL_more (zk zm zc : List Int) {q n m : Nat} (long : Nat) (hq : 1 ≤ q) (h : n ≤ m) : (kmL zk zm zc (8 * q) m long).take n = kmL zk zm zc (8 * q) n long := by
  rw [kmL_sum, kmL_sum, sumL, sumL]; exact told_more (by rw [Nat.mul_div_cancel_left q (by decide : 0 < 8)]; omega) h
theorem ksL_bytes (b n : Int) (zk zm zc : List Int) (f : Bool) : ∀ z ∈ ksL b n zk zm zc f, 0 ≤ z ∧ z ≤ 255 := by
  unfold ksL; split
  · exact kmL_bytes _ _ _ _ _ _
  · intro z h; cases h
theorem chE_more {b n : Int} (h : chE b n = 0) : chE b 0 = 0 := by
  unfold chE at h ⊢
  by_cases h3 : (b ≠ 128 ∧ b ≠ 256) ∨ n < 0 ∨ 65536 < n
  · rw [if_pos h3] at h; exact absurd h (by decide)
  · rw [if_neg (by omega)]
end Go.Proofs.Ythcjgjhoifnpjaa
