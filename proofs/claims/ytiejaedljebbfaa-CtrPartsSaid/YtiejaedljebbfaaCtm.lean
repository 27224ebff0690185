/- Counters of 16 bytes, the first byte highest, and the stream that a cipher makes of them. -/
import Derived.Test.YtiejaedljebbfaaAes
namespace Go.Proofs.Ytiejaedljebbfaa
open Go.RowKit

/-- What is carried into byte 15 - j, if k is put onto f. -/
def car (f : Nat → Nat) (k : Nat) : Nat → Nat
  | 0 => k
  | j + 1 => (f (15 - j) + car f k j) / 256
/-- f and k. -/
def lat (f : Nat → Nat) (k : Nat) : Nat → Nat := fun i => (f i + car f k (15 - i)) % 256
theorem lat_b (f : Nat → Nat) (k : Nat) : B16 (lat f k) := fun _ _ => Nat.mod_lt _ (by decide)
/-- The number of the last j bytes. -/
def val (f : Nat → Nat) : Nat → Nat
  | 0 => 0
  | j + 1 => val f j + 256 ^ j * f (15 - j)
theorem val_lt {f : Nat → Nat} (h : B16 f) : ∀ j, j ≤ 16 → val f j < 256 ^ j
  | 0, _ => Nat.one_pos
  | j + 1, hj => by
    have ih := val_lt h j (by omega)
    have hb : f (15 - j) ≤ 255 := by have := h (15 - j) (by omega); omega
    have h2 : 256 ^ j * f (15 - j) ≤ 256 ^ j * 255 := Nat.mul_le_mul_left _ hb
    show val f j + 256 ^ j * f (15 - j) < 256 ^ (j + 1)
    rw [Nat.pow_succ]; omega
theorem val_lat (f : Nat → Nat) (k : Nat) : ∀ j, j ≤ 16 → val f j + k = val (lat f k) j + 256 ^ j * car f k j
  | 0, _ => by show 0 + k = 0 + 1 * k; omega
  | j + 1, hj => by
    have ih := val_lat f k j (by omega)
    show val f j + 256 ^ j * f (15 - j) + k = val (lat f k) j + 256 ^ j * lat f k (15 - j) + 256 ^ (j + 1) * ((f (15 - j) + car f k j) / 256)
    have e : lat f k (15 - j) = (f (15 - j) + car f k j) % 256 := by unfold lat; rw [show 15 - (15 - j) = j by omega]
    rw [e, Nat.pow_succ, Nat.mul_assoc, Nat.add_assoc (val (lat f k) j), ← Nat.mul_add]
    rw [show (f (15 - j) + car f k j) % 256 + 256 * ((f (15 - j) + car f k j) / 256) = f (15 - j) + car f k j by omega, Nat.mul_add]
    omega
theorem val_mod (f : Nat → Nat) (k : Nat) : val (lat f k) 16 = (val f 16 + k) % 256 ^ 16 := by
  rw [val_lat f k 16 (Nat.le_refl _), Nat.add_mul_mod_self_left, Nat.mod_eq_of_lt (val_lt (lat_b f k) 16 (Nat.le_refl _))]
theorem val_inj {f g : Nat → Nat} (hf : B16 f) (hg : B16 g) : ∀ j, j ≤ 16 → val f j = val g j → ∀ t, t < j → f (15 - t) = g (15 - t)
  | 0, _, _ => fun t ht => absurd ht (by omega)
  | j + 1, hj, h => by
    have h1 := val_lt hf j (by omega)
    have h2 := val_lt hg j (by omega)
    have hp : 0 < 256 ^ j := Nat.pow_pos (by decide)
    have e : val f j + 256 ^ j * f (15 - j) = val g j + 256 ^ j * g (15 - j) := h
    have m := congrArg (· % 256 ^ j) e
    have d := congrArg (· / 256 ^ j) e
    simp only [Nat.add_mul_mod_self_left, Nat.mod_eq_of_lt h1, Nat.mod_eq_of_lt h2] at m
    simp only [Nat.add_mul_div_left _ _ hp, Nat.div_eq_of_lt h1, Nat.div_eq_of_lt h2, Nat.zero_add] at d
    intro t ht
    by_cases e' : t = j
    · subst e'; exact d
    · exact val_inj hf hg j (by omega) m t (by omega)
theorem val_eq {f g : Nat → Nat} (hf : B16 f) (hg : B16 g) (h : val f 16 = val g 16) : Eq16 f g := fun i hi => by
  have := val_inj hf hg 16 (Nat.le_refl _) h (15 - i) (by omega)
  rwa [show 15 - (15 - i) = i by omega] at this
theorem lat_zero {f : Nat → Nat} (h : B16 f) : Eq16 (lat f 0) f := val_eq (lat_b f 0) h (by rw [val_mod, Nat.add_zero, Nat.mod_eq_of_lt (val_lt h 16 (Nat.le_refl _))])
theorem lat_lat (f : Nat → Nat) (a b : Nat) : Eq16 (lat (lat f a) b) (lat f (a + b)) :=
  val_eq (lat_b _ _) (lat_b _ _) (by rw [val_mod, val_mod, val_mod, Nat.mod_add_mod, Nat.add_assoc])
theorem lat_e {f g : Nat → Nat} (h : Eq16 f g) (k : Nat) : Eq16 (lat f k) (lat g k) := by
  have : ∀ j, j ≤ 16 → val f j = val g j := fun j => by
    induction j with
    | zero => intro _; rfl
    | succ j ih => intro hj; show val f j + 256 ^ j * f (15 - j) = val g j + 256 ^ j * g (15 - j); rw [ih (by omega), h (15 - j) (by omega)]
  exact val_eq (lat_b _ _) (lat_b _ _) (by rw [val_mod, val_mod, this 16 (Nat.le_refl _)])
/-- The document's way: the rest of k and the carry apart. -/
theorem car_doc (n k : Nat) : (n + k % 256) % 256 = (n + k) % 256 ∧ k / 256 + (n + k % 256) / 256 = (n + k) / 256 := by omega
/-- One more: where the carry ends. -/
theorem car_one (f : Nat → Nat) (hf : B16 f) : ∀ j, j ≤ 16 → car f 1 j ≤ 1
  | 0, _ => Nat.le_refl _
  | j + 1, hj => by
    have ih := car_one f hf j (by omega)
    have hb := hf (15 - j) (by omega)
    show (f (15 - j) + car f 1 j) / 256 ≤ 1
    omega
/-- Byte j of the stream of a begin. -/
def strF (Y : Nat → Nat → Nat) (R : Nat) (f : Nat → Nat) (j : Nat) : Nat := blkF Y R (lat f (j / 16)) (j % 16)
theorem strF_later (Y : Nat → Nat → Nat) (R : Nat) (f : Nat → Nat) (a j : Nat) : strF Y R (lat f a) j = strF Y R f (16 * a + j) := by
  unfold strF
  rw [show (16 * a + j) / 16 = a + j / 16 by omega, show (16 * a + j) % 16 = j % 16 by omega]
  exact blk_e (lat_lat f a (j / 16)) _ (Nat.mod_lt _ (by decide))
theorem strF_b {Y : Nat → Nat → Nat} {R : Nat} (hY : YB Y R) (f : Nat → Nat) (j : Nat) : strF Y R f j < 256 := blkF_b hY (lat_b f _) _ (Nat.mod_lt _ (by decide))
end Go.Proofs.Ytiejaedljebbfaa
