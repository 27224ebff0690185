import Derived.Test.YthhkhcacljgelaaProg
import Derived.Test.YthhkhcacljgelaaAes
import Derived.Test.YthhkhcacljgelaaKer
set_option maxRecDepth 100000
namespace Go.Proofs.Ythhkhcacljgelaa
open Go.RowKit

/-- The document's way back, bit by bit. -/
def usum (y i : Nat) : Nat := 5 / 2 ^ i % 2 + y / 2 ^ ((i + 2) % 8) + y / 2 ^ ((i + 5) % 8) + y / 2 ^ ((i + 7) % 8)
def uout (y : Nat) : Nat → Nat
  | 0 => 0
  | i + 1 => uout y i + usum y i % 2 * 2 ^ i
theorem uout_lt (y : Nat) : ∀ i, uout y i < 2 ^ i
  | 0 => Nat.one_pos
  | i + 1 => by
    unfold uout
    have := uout_lt y i
    have h2 : usum y i % 2 ≤ 1 := by omega
    have h3 : usum y i % 2 * 2 ^ i ≤ 1 * 2 ^ i := Nat.mul_le_mul_right _ h2
    rw [Nat.pow_succ]; omega
theorem uout_bend : ∀ y < 256, ap bend (uout y 8) = y ^^^ 99 := by decide +kernel
theorem uout_all {y : Nat} (hy : y < 256) : pw (uout y 8) 254 = bk y := by
  have h8 : uout y 8 < 256 := uout_lt y 8
  have hz := pw_lt h8 254
  have e := bk_sb hz
  rw [show sb (pw (uout y 8) 254) = y by unfold sb; rw [pw_pw_all _ h8, uout_bend y hy, xor_back]] at e
  exact e.symm

end Go.Proofs.Ythhkhcacljgelaa

namespace Go.Proofs.Ythhkhcacljgelaa
open Go.RowKit

end Go.Proofs.Ythhkhcacljgelaa

namespace Go.Proofs.Ythhkhcacljgelaa
open Go.RowKit

/-- Places written so far: all of the rows above r, and of row r what comes from the columns before c. -/
def rmC (r c j : Nat) : Prop := j % 4 < r ∨ (j % 4 = r ∧ src j / 4 < c)
instance (r c j : Nat) : Decidable (rmC r c j) := inferInstanceAs (Decidable (_ ∨ _))
def rmTo (f : Nat → Nat) (r c : Nat) : Nat → Nat := fun j => if rmC r c j then f (src j) else 0
theorem rm_d1 : ∀ r < 4, ∀ c < 4, src (mvd (r + 4 * c)) = r + 4 * c ∧ rmC r (c + 1) (mvd (r + 4 * c)) := by decide
theorem rm_d2 : ∀ r < 4, ∀ c < 4, ∀ j < 16, j = mvd (r + 4 * c) ∨ (rmC r c j ↔ rmC r (c + 1) j) := by decide
theorem rm_next : ∀ r < 4, ∀ j < 16, (rmC r 4 j ↔ rmC (r + 1) 0 j) := by decide
theorem rm_zero : ∀ j < 16, ¬ rmC 0 0 j := by decide
theorem rm_all : ∀ j < 16, rmC 4 0 j := by decide
theorem rmTo_zero (f : Nat → Nat) : Eq16 (fun _ => 0) (rmTo f 0 0) := fun j hj => (if_neg (rm_zero j hj)).symm
theorem rmTo_all (f : Nat → Nat) : Eq16 (rmTo f 4 0) (shR f) := fun j hj => if_pos (rm_all j hj)
theorem rmTo_next (f : Nat → Nat) {r : Nat} (hr : r < 4) : Eq16 (rmTo f r 4) (rmTo f (r + 1) 0) := fun j hj => by
  unfold rmTo
  have := rm_next r hr j hj
  by_cases h : rmC r 4 j
  · rw [if_pos h, if_pos (this.1 h)]
  · rw [if_neg h, if_neg (fun h' => h (this.2 h'))]
theorem rmTo_step (f : Nat → Nat) {r c : Nat} (hr : r < 4) (hc : c < 4) : Eq16 (upd (rmTo f r c) (mvd (r + 4 * c)) (f (r + 4 * c))) (rmTo f r (c + 1)) := fun j hj => by
  have h1 := rm_d1 r hr c hc
  unfold upd rmTo
  by_cases e : j = mvd (r + 4 * c)
  · subst e; rw [if_pos rfl, if_pos h1.2, h1.1]
  · have h2 := (rm_d2 r hr c hc j hj).resolve_left e
    rw [if_neg e]
    by_cases h : rmC r c j
    · rw [if_pos h, if_pos (h2.1 h)]
    · rw [if_neg h, if_neg (fun h' => h (h2.2 h'))]
theorem mvd_at : ∀ r < 4, ∀ c < 4, mvd (r + 4 * c) = r + 4 * ((c + 4 - r) % 4) := by decide

end Go.Proofs.Ythhkhcacljgelaa

namespace Go.Proofs.Ythhkhcacljgelaa
open Go.RowKit

end Go.Proofs.Ythhkhcacljgelaa

namespace Go.Proofs.Ythhkhcacljgelaa
open Go.RowKit

/-- The document's cipher at work: the block in its variable, the result's block, the round keys. -/
structure RI (w wr : World) (c R1 : Nat) (gs cs : Nat → Nat) (Y : Nat → Nat → Nat) (g : Nat → Nat) : Prop where
  var : At wr w.heap.size 16 22 g
  out : At wr (w.heap.size + 1) 16 22 (fun _ => 0)
  list : RL wr c R1 16 gs (fun _ => 0) cs Y
  low : Below w.heap.size w wr
  lt : 0 < R1
  far : ∀ i, i < R1 → w.heap.size + 2 ≤ gs i
section
variable {w wr w1 : World} {c R1 n : Nat} {gs cs : Nat → Nat} {Y : Nat → Nat → Nat} {g g' k : Nat → Nat}
theorem RI.ne (h : RI w wr c R1 gs cs Y g) : c ≠ w.heap.size ∧ c ≠ w.heap.size + 1 := by
  have h0 := h.list.cell 0 h.lt
  refine ⟨fun e => ?_, fun e => ?_⟩
  · subst e
    have := h.var.cell (show 0 < 16 by decide)
    rw [h0] at this
    simp at this
  · subst e
    have := h.out.cell (show 0 < 16 by decide)
    rw [h0] at this
    simp at this
theorem RI.self (h : RI w wr c R1 gs cs Y g) (hb : Below wr.heap.size wr w1) : RI w w1 c R1 gs cs Y g :=
  ⟨h.var.self hb, h.out.self hb, h.list.self hb, h.low.trans (hb.mono h.low.size), h.lt, h.far⟩
theorem RI.drew (h : RI w wr c R1 gs cs Y g) : RI w wr.drew c R1 gs cs Y g := ⟨h.var.drew, h.out.drew, h.list.drew, h.low.drew, h.lt, h.far⟩
theorem RI.ext (h : RI w wr c R1 gs cs Y g) (e : Eq16 g g') : RI w wr c R1 gs cs Y g' := ⟨h.var.ext e, h.out, h.list, h.low, h.lt, h.far⟩
theorem RL.setRow (h : RL wr c R1 16 gs (fun _ => 0) cs Y) {n : Nat} (hc : c ≠ n) (hg : ∀ i, i < R1 → gs i ≠ n) (x : Array Value) : RL (wr.setRow n x) c R1 16 gs (fun _ => 0) cs Y :=
  ⟨by simpa using h.lt, fun i hi => (World.cell?_of_block (w := wr) (setRow_other wr n c x hc)).trans (h.cell i hi), fun i hi => (h.each i hi).same (by simp) (setRow_other wr n (gs i) x (hg i hi))⟩
theorem RI.row (h : RI w wr c R1 gs cs Y g) (g' : Nat → Nat) : RI w (wr.setRow w.heap.size (ba 16 g')) c R1 gs cs Y g' :=
  ⟨h.var.row g', h.out.rowApart (by omega) _, RL.setRow h.list h.ne.1 (fun i hi => by have := h.far i hi; omega) _, below_setRow h.low (by omega) _, h.lt, h.far⟩
theorem RI.done (h : RI w wr c R1 gs cs Y g) (k : Nat → Nat) :
    At (wr.setRow (w.heap.size + 1) (ba 16 k)) (w.heap.size + 1) 16 22 k ∧ Below w.heap.size w (wr.setRow (w.heap.size + 1) (ba 16 k)) :=
  ⟨h.out.row k, below_setRow h.low (by omega) _⟩
end
end Go.Proofs.Ythhkhcacljgelaa

namespace Go.Proofs.Ythhkhcacljgelaa
open Go.RowKit

end Go.Proofs.Ythhkhcacljgelaa
