/- Plain facts on the numbers of the language: xor, and, tests ahead of a walk. No program is named. -/
import Derived.Test.YtnklljlgghenpaaLib
namespace Go.Proofs.Ytnklljlgghenpaa
open Go.RowKit

theorem xor_lt {a b : Nat} (ha : a < 256) (hb : b < 256) : a ^^^ b < 256 := Nat.xor_lt_two_pow (n := 8) ha hb
theorem xor4 (a b c d : Nat) : (a ^^^ b) ^^^ (c ^^^ d) = (a ^^^ c) ^^^ (b ^^^ d) := by
  rw [Nat.xor_assoc, Nat.xor_assoc, ← Nat.xor_assoc b c d, Nat.xor_comm b c, Nat.xor_assoc c b d]
theorem sel_add (p q : Prop) [Decidable p] [Decidable q] [Decidable (¬(p ↔ q))] (a : Nat) :
    (if ¬(p ↔ q) then a else 0) = (if p then a else 0) ^^^ (if q then a else 0) := by
  by_cases hp : p <;> by_cases hq : q <;> simp [hp, hq]
theorem xor8 {a b : Nat} (ha : a < 256) (hb : b < 256) : bits .xor .u8 (a : Int) (b : Int) = ((a ^^^ b : Nat) : Int) := u8_xor_nat a b ha hb
theorem xor64 {a b : Nat} (ha : a < 9223372036854775808) (hb : b < 9223372036854775808) : bits .xor .i64 (a : Int) (b : Int) = ((a ^^^ b : Nat) : Int) := by
  have hx : a ^^^ b < 2 ^ 63 := Nat.xor_lt_two_pow (by omega) (by omega)
  have h1 : ∀ {a : Nat}, a < 9223372036854775808 → (BitVec.ofInt 64 (a : Int)).toNat = a := fun {a} h => by
    rw [BitVec.ofInt_natCast, BitVec.toNat_ofNat]; exact Nat.mod_eq_of_lt (by omega)
  show IntKind.i64.wrap ((BitVec.ofInt 64 (a : Int) ^^^ BitVec.ofInt 64 (b : Int)).toNat : Int) = _
  rw [BitVec.toNat_xor, h1 ha, h1 hb, IntKind.wrap_i64]; omega

theorem and64_one {a : Nat} (ha : a < 9223372036854775808) : bits .and .i64 (a : Int) 1 = ((a % 2 : Nat) : Int) := by
  have h1 : ∀ {a : Nat}, a < 9223372036854775808 → (BitVec.ofInt 64 (a : Int)).toNat = a := fun {a} h => by
    rw [BitVec.ofInt_natCast, BitVec.toNat_ofNat]; exact Nat.mod_eq_of_lt (by omega)
  show IntKind.i64.wrap ((BitVec.ofInt 64 (a : Int) &&& BitVec.ofInt 64 ((1 : Nat) : Int)).toNat : Int) = _
  rw [BitVec.toNat_and, h1 ha, h1 (by decide), Nat.and_one_is_mod, IntKind.wrap_i64]; omega
theorem odd64 {a : Nat} (ha : a < 9223372036854775808) (h : a % 2 = 1) : (bits .and .i64 (a : Int) 1 == 1) = true := by rw [and64_one ha, h]; rfl
theorem even64 {a : Nat} (ha : a < 9223372036854775808) (h : a % 2 ≠ 1) : (bits .and .i64 (a : Int) 1 == 1) = false := by rw [and64_one ha, show a % 2 = 0 by omega]; rfl
theorem and8_one {a : Nat} (ha : a < 256) : bits .and .u8 (a : Int) 1 = ((a % 2 : Nat) : Int) := by
  have := u8_and_nat a 1 ha (by decide)
  rwa [Nat.and_one_is_mod] at this
theorem odd8 {a : Nat} (ha : a < 256) (h : a % 2 = 1) : (bits .and .u8 (a : Int) 1 == 1) = true := by rw [and8_one ha, h]; rfl
theorem even8 {a : Nat} (ha : a < 256) (h : a % 2 ≠ 1) : (bits .and .u8 (a : Int) 1 == 1) = false := by rw [and8_one ha, show a % 2 = 0 by omega]; rfl

theorem bitT {b j : Nat} (h : b / 2 ^ j % 2 = 1) : (((b : Int) / 2 ^ j).tmod 2 == 1) = true := by
  have e : ((b : Int) / 2 ^ j) = ((b / 2 ^ j : Nat) : Int) := by simp
  rw [e, Int.tmod_eq_emod_of_nonneg (Int.natCast_nonneg _), beq_iff_eq]; omega
theorem bitF {b j : Nat} (h : b / 2 ^ j % 2 ≠ 1) : (((b : Int) / 2 ^ j).tmod 2 == 1) = false := by
  have e : ((b : Int) / 2 ^ j) = ((b / 2 ^ j : Nat) : Int) := by simp
  rw [e, Int.tmod_eq_emod_of_nonneg (Int.natCast_nonneg _), beq_eq_false_iff_ne, ne_eq]; omega
theorem pow_le_128 {j : Nat} (h : j < 8) : 2 ^ j ≤ 128 := Nat.le_trans (Nat.pow_le_pow_right (by decide) (show j ≤ 7 by omega)) (by decide)
theorem eqT {x y : Nat} (h : x = y) : ((x : Int) == (y : Int)) = true := by rw [h]; simp
theorem eqF {x y : Nat} (h : x ≠ y) : ((x : Int) == (y : Int)) = false := by rw [beq_eq_false_iff_ne]; omega
theorem neT {x y : Nat} (h : x ≠ y) : ((x : Int) != (y : Int)) = true := by rw [bne, eqF h]; rfl
theorem neF {x y : Nat} (h : x = y) : ((x : Int) != (y : Int)) = false := by rw [bne, eqT h]; rfl

end Go.Proofs.Ytnklljlgghenpaa
