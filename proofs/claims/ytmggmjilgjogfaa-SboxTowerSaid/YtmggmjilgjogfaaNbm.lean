/- The field of 16 elements as plain numbers, of bytes of which the lowest four bits count: products, powers, marks, halves. All is looked up by the kernel. No program is named. -/
import Derived.Test.YtmggmjilgjogfaaNum
namespace Go.Proofs.Ytmggmjilgjogfaa

/-- Twice an element. -/
def ntw (a : Nat) : Nat := if a < 8 then 2 * a else (2 * a) ^^^ 19
/-- A product over k bits of b. -/
def nmF : Nat → Nat → Nat → Nat
  | 0, _, _ => 0
  | k + 1, a, b => (if b % 2 = 1 then a else 0) ^^^ nmF k (ntw a) (b / 2)
/-- A product. -/
def nm (a b : Nat) : Nat := nmF 4 (a % 16) (b % 16)
/-- A power. -/
def npw (a : Nat) : Nat → Nat
  | 0 => 1
  | n + 1 => nm (npw a n) a

theorem nxor_lt {a b : Nat} (ha : a < 16) (hb : b < 16) : a ^^^ b < 16 := Nat.xor_lt_two_pow (n := 4) ha hb
theorem ntw_lt_all : ∀ a < 16, ntw a < 16 := by decide +kernel
theorem ntw_lt {a : Nat} (h : a < 16) : ntw a < 16 := ntw_lt_all a h
theorem lt16 (a : Nat) : a % 16 < 16 := Nat.mod_lt _ (by decide)
theorem nm_low (a b : Nat) : nm (a % 16) (b % 16) = nm a b := by unfold nm; rw [Nat.mod_mod, Nat.mod_mod]
theorem nm_low_left (a b : Nat) : nm (a % 16) b = nm a b := by unfold nm; rw [Nat.mod_mod]
theorem nm_low_right (a b : Nat) : nm a (b % 16) = nm a b := by unfold nm; rw [Nat.mod_mod]
theorem nm_lt_all : ∀ a < 16, ∀ b < 16, nm a b < 16 := by decide +kernel
theorem nm_lt (a b : Nat) : nm a b < 16 := by rw [← nm_low]; exact nm_lt_all _ (lt16 a) _ (lt16 b)
theorem nm_comm_all : ∀ a < 16, ∀ b < 16, nm a b = nm b a := by decide +kernel
theorem nm_comm (a b : Nat) : nm a b = nm b a := by rw [← nm_low, ← nm_low b a]; exact nm_comm_all _ (lt16 a) _ (lt16 b)
theorem nm_assoc_all : ∀ a < 16, ∀ b < 16, ∀ c < 16, nm a (nm b c) = nm (nm a b) c := by decide +kernel
theorem nm_assoc (a b c : Nat) : nm a (nm b c) = nm (nm a b) c := by
  rw [← nm_low a (nm b c), ← nm_low (nm a b) c, ← nm_low b c, ← nm_low a b, Nat.mod_eq_of_lt (nm_lt _ _), Nat.mod_eq_of_lt (nm_lt _ _)]
  exact nm_assoc_all _ (lt16 a) _ (lt16 b) _ (lt16 c)
theorem nm_add_all : ∀ a < 16, ∀ b < 16, ∀ c < 16, nm a (b ^^^ c) = nm a b ^^^ nm a c := by decide +kernel
theorem xor_low (a b : Nat) : (a ^^^ b) % 16 = (a % 16) ^^^ (b % 16) := Nat.xor_mod_two_pow (n := 4)
theorem nm_add (a b c : Nat) : nm a (b ^^^ c) = nm a b ^^^ nm a c := by
  rw [← nm_low a (b ^^^ c), ← nm_low a b, ← nm_low a c, xor_low]
  exact nm_add_all _ (lt16 a) _ (lt16 b) _ (lt16 c)
theorem add_nm (a b c : Nat) : nm (a ^^^ b) c = nm a c ^^^ nm b c := by rw [nm_comm, nm_add, nm_comm c, nm_comm c]
theorem one_nm_all : ∀ a < 16, nm 1 a = a := by decide +kernel
theorem one_nm {a : Nat} (h : a < 16) : nm 1 a = a := one_nm_all a h
theorem nm_one {a : Nat} (h : a < 16) : nm a 1 = a := by rw [nm_comm]; exact one_nm h
theorem nm_zero (a : Nat) : nm a 0 = 0 := by
  rw [← nm_low]; exact (by decide +kernel : ∀ a < 16, nm a 0 = 0) _ (lt16 a)
theorem zero_nm (a : Nat) : nm 0 a = 0 := by rw [nm_comm, nm_zero]

theorem npw_lt (a : Nat) : ∀ n, npw a n < 16
  | 0 => by simp [npw]
  | n + 1 => nm_lt _ _
theorem npw_low (a : Nat) : ∀ n, npw (a % 16) n = npw a n
  | 0 => rfl
  | n + 1 => by rw [npw, npw_low a n, nm_low_right, npw]
theorem npw_add (a m : Nat) : ∀ n, npw a (m + n) = nm (npw a m) (npw a n)
  | 0 => (nm_one (npw_lt a m)).symm
  | n + 1 => by
    show nm (npw a (m + n)) a = nm (npw a m) (nm (npw a n) a)
    rw [npw_add a m n, nm_assoc]
theorem npw_mul (a m : Nat) : ∀ n, npw (npw a m) n = npw a (m * n)
  | 0 => rfl
  | n + 1 => by rw [npw, npw_mul a m n, Nat.mul_succ, npw_add]
theorem npw_one (a : Nat) : npw a 1 = a % 16 := by
  show nm 1 a = _
  rw [← nm_low_right, one_nm (lt16 a)]
theorem npw_two (a : Nat) : npw a 2 = nm a a := by
  show nm (npw a 1) a = _
  rw [npw_one, nm_low_left]
theorem npw_sq (a n : Nat) : npw (nm a a) n = npw a (2 * n) := by rw [← npw_two, npw_mul]
theorem npw_nm (a n : Nat) : nm a (npw a n) = npw a (n + 1) := by rw [nm_comm, npw]
theorem one_npw : ∀ (n : Nat), npw 1 n = 1
  | 0 => rfl
  | n + 1 => by rw [npw, one_npw n]; decide
theorem npw_zero : ∀ {n : Nat}, 1 ≤ n → npw 0 n = 0
  | _ + 1, _ => nm_zero _
theorem npw_15_all : ∀ a < 16, a ≠ 0 → npw a 15 = 1 := by decide +kernel
theorem npw_15 {a : Nat} (h0 : a % 16 ≠ 0) : npw a 15 = 1 := by rw [← npw_low]; exact npw_15_all _ (lt16 a) h0
theorem npw_15_mul {a : Nat} (h0 : a % 16 ≠ 0) (q : Nat) : npw a (15 * q) = 1 := by rw [← npw_mul, npw_15 h0, one_npw]
theorem npw_mod {a : Nat} (h0 : a % 16 ≠ 0) (n : Nat) : npw a (n % 15) = npw a n := by
  have := Nat.div_add_mod n 15
  rw [← this, npw_add, npw_15_mul h0, one_nm (npw_lt a _), Nat.mul_add_mod, Nat.mod_mod]
theorem npw_few (a n : Nat) (hn : 1 ≤ n) : npw a ((n - 1) % 15 + 1) = npw a n := by
  by_cases h0 : a % 16 = 0
  · rw [← npw_low, ← npw_low a n, h0, npw_zero (by omega), npw_zero hn]
  · rw [npw, npw_mod h0]
    obtain ⟨m, rfl⟩ : ∃ m, n = m + 1 := ⟨n - 1, by omega⟩
    rfl
/-- Powers of any number: 0 of those below 0. -/
def npwi (a : Nat) (n : Int) : Nat := if n < 0 then 0 else npw a n.toNat
theorem npwi_nat (a n : Nat) : npwi a n = npw a n := by simp [npwi]; omega
theorem npwi_neg {n : Int} (a : Nat) (h : n < 0) : npwi a n = 0 := if_pos h

/-! ### inverses -/
theorem ninv_only_all : ∀ a < 16, ∀ b < 16, nm a b = 1 → b = npw a 14 := by decide +kernel
theorem ninv_only (a : Nat) {b : Nat} (hb : b < 16) (h : nm a b = 1) : b = npw a 14 := by
  rw [← npw_low]; exact ninv_only_all _ (lt16 a) _ hb (by rw [nm_low_left]; exact h)
theorem nm_inv {a : Nat} (h0 : a % 16 ≠ 0) : nm a (npw a 14) = 1 := by rw [npw_nm]; exact npw_15 h0
theorem ninv_pos {a : Nat} (h0 : a % 16 ≠ 0) : 1 ≤ npw a 14 := by
  have := nm_inv h0
  rcases Nat.eq_zero_or_pos (npw a 14) with h | h
  · rw [h, nm_zero] at this; omega
  · exact h
theorem ninv_zero {a : Nat} (h0 : a % 16 = 0) : npw a 14 = 0 := by rw [← npw_low, h0]; exact npw_zero (by decide)

/-! ### marks and halves -/
/-- The mark. -/
def nmk (a : Nat) : Nat := ((a % 16 ^^^ npw a 2) ^^^ npw a 4) ^^^ npw a 8
theorem nmk_low (a : Nat) : nmk (a % 16) = nmk a := by unfold nmk; simp only [npw_low, Nat.mod_mod]
theorem nmk_le (a : Nat) : nmk a ≤ 1 := by rw [← nmk_low]; exact (by decide +kernel : ∀ a < 16, nmk a ≤ 1) _ (lt16 a)
theorem nmk_add_all : ∀ a < 16, ∀ b < 16, nmk (a ^^^ b) = nmk a ^^^ nmk b := by decide +kernel
theorem nmk_add (a b : Nat) : nmk (a ^^^ b) = nmk a ^^^ nmk b := by
  rw [← nmk_low, ← nmk_low a, ← nmk_low b, xor_low]; exact nmk_add_all _ (lt16 a) _ (lt16 b)
/-- What a number's square and it have as their sum. -/
def hs (z : Nat) : Nat := nm z z ^^^ z
theorem hs_lt {z : Nat} (h : z < 16) : hs z < 16 := nxor_lt (nm_lt _ _) h
/-- z and f tell the half of a. -/
def IsHalf (a z : Nat) (f : Bool) : Prop :=
  (f = true → z < 15 ∧ z % 2 = 0 ∧ (∀ y < 16, hs y = a % 16 ↔ y = z ∨ y = z + 1) ∧ nmk a = 0) ∧ (f = false → z = 0 ∧ (∀ y < 16, hs y ≠ a % 16) ∧ nmk a = 1)
theorem half_all : ∀ a < 16, (∃ z < 15, z % 2 = 0 ∧ (∀ y < 16, hs y = a ↔ y = z ∨ y = z + 1) ∧ nmk a = 0) ∨ ((∀ y < 16, hs y ≠ a) ∧ nmk a = 1) := by decide +kernel
theorem half_is (a : Nat) : ∃ z f, IsHalf a z f := by
  rcases half_all _ (lt16 a) with ⟨z, h1, h2, h3, h4⟩ | ⟨h1, h2⟩
  · exact ⟨z, true, fun _ => ⟨h1, h2, h3, by rw [← nmk_low]; exact h4⟩, fun h => absurd h (by decide)⟩
  · exact ⟨0, false, (fun h => absurd h (by decide)), fun _ => ⟨rfl, h1, by rw [← nmk_low]; exact h2⟩⟩

/-! ### loops, as invariants -/
/-- A product under way. -/
def NMulInv (a b A B S : Nat) : Prop := A < 16 ∧ B < 16 ∧ S < 16 ∧ ∃ k, B < 2 ^ k ∧ S ^^^ nmF k A B = nm a b
theorem nmF_zero : ∀ (k a : Nat), nmF k a 0 = 0
  | 0, _ => rfl
  | k + 1, a => by simp [nmF, nmF_zero k]
theorem NMulInv.start (a b : Nat) : NMulInv a b (a % 16) (b % 16) 0 := ⟨lt16 a, lt16 b, by decide, 4, lt16 b, Nat.zero_xor _⟩
theorem NMulInv.done {a b A S : Nat} (h : NMulInv a b A 0 S) : S = nm a b := by
  obtain ⟨_, _, _, k, _, e⟩ := h
  rwa [nmF_zero, Nat.xor_zero] at e
theorem NMulInv.odd {a b A B S : Nat} (h : NMulInv a b A B S) (hB : B % 2 = 1) : NMulInv a b (ntw A) (B / 2) (S ^^^ A) := by
  obtain ⟨h1, h2, h3, k, h4, e⟩ := h
  refine ⟨ntw_lt h1, by omega, nxor_lt h3 h1, ?_⟩
  obtain ⟨j, rfl⟩ : ∃ j, k = j + 1 := ⟨k - 1, by
    have : k ≠ 0 := by rintro rfl; omega
    omega⟩
  refine ⟨j, by rw [Nat.pow_succ] at h4; omega, ?_⟩
  rw [nmF, if_pos hB] at e
  rw [Nat.xor_assoc]; exact e
theorem NMulInv.even {a b A B S : Nat} (h : NMulInv a b A B S) (hB : B % 2 ≠ 1) (h0 : B ≠ 0) : NMulInv a b (ntw A) (B / 2) S := by
  obtain ⟨h1, h2, h3, k, h4, e⟩ := h
  refine ⟨ntw_lt h1, by omega, h3, ?_⟩
  obtain ⟨j, rfl⟩ : ∃ j, k = j + 1 := ⟨k - 1, by
    have : k ≠ 0 := by rintro rfl; omega
    omega⟩
  refine ⟨j, by rw [Nat.pow_succ] at h4; omega, ?_⟩
  rwa [nmF, if_neg hB, Nat.zero_xor] at e

/-- A power under way. -/
def NPowInv (a n A N p : Nat) : Prop := A < 256 ∧ p < 16 ∧ nm p (npw A N) = npw a n
theorem NPowInv.start {a : Nat} (n : Nat) (ha : a < 256) : NPowInv a n a n 1 := ⟨ha, by decide, one_nm (npw_lt a n)⟩
theorem NPowInv.done {a n A p : Nat} (h : NPowInv a n A 0 p) : p = npw a n := by
  obtain ⟨_, h2, e⟩ := h
  rwa [npw, nm_one h2] at e
theorem NPowInv.odd {a n A N p : Nat} (h : NPowInv a n A N p) (hN : N % 2 = 1) : NPowInv a n (nm A A) (N / 2) (nm p A) := by
  obtain ⟨h1, h2, e⟩ := h
  refine ⟨Nat.lt_of_lt_of_le (nm_lt _ _) (by decide), nm_lt _ _, ?_⟩
  obtain ⟨m, rfl⟩ : ∃ m, N = 2 * m + 1 := ⟨N / 2, by omega⟩
  rw [show (2 * m + 1) / 2 = m by omega, npw_sq, ← nm_assoc, npw_nm]; exact e
theorem NPowInv.even {a n A N p : Nat} (h : NPowInv a n A N p) (hN : N % 2 ≠ 1) : NPowInv a n (nm A A) (N / 2) p := by
  obtain ⟨h1, h2, e⟩ := h
  refine ⟨Nat.lt_of_lt_of_le (nm_lt _ _) (by decide), h2, ?_⟩
  obtain ⟨m, rfl⟩ : ∃ m, N = 2 * m := ⟨N / 2, by omega⟩
  rw [show (2 * m) / 2 = m by omega, npw_sq]; exact e

/-! ### the document's product -/
/-- The polynomials' product over the first i bits of b. -/
def nclF (a b : Nat) : Nat → Nat
  | 0 => 0
  | i + 1 => if b / 2 ^ i % 2 = 1 then nclF a b i ^^^ (a * 2 ^ i) else nclF a b i
/-- One step of what is left. -/
def nrd (n i : Nat) : Nat := if n / 2 ^ i % 2 = 1 then n ^^^ (19 * 2 ^ (i - 4)) else n
/-- What is left after the steps 6 down to 7 - j. -/
def nrdF (n : Nat) : Nat → Nat
  | 0 => n
  | j + 1 => nrd (nrdF n j) (6 - j)
theorem nrd_lt {n i : Nat} (h : n < 2 ^ 8) (hi : i ≤ 6) : nrd n i < 2 ^ 8 := by
  unfold nrd; split
  · refine Nat.xor_lt_two_pow h ?_
    have := Nat.pow_le_pow_right (show 0 < 2 by decide) (show i - 4 ≤ 2 by omega)
    omega
  · exact h
theorem nrdF_lt {n : Nat} (h : n < 2 ^ 8) : ∀ j, nrdF n j < 2 ^ 8
  | 0 => h
  | j + 1 => nrd_lt (nrdF_lt h j) (by omega)
theorem nclF_lt {a : Nat} (b : Nat) (ha : a < 16) : ∀ i ≤ 4, nclF a b i < 2 ^ 8
  | 0, _ => by simp [nclF]
  | i + 1, hi => by
    unfold nclF; split
    · refine Nat.xor_lt_two_pow (nclF_lt b ha i (by omega)) ?_
      have := Nat.pow_le_pow_right (show 0 < 2 by decide) (show i ≤ 3 by omega)
      have := Nat.mul_le_mul (show a ≤ 15 by omega) this
      omega
    · exact nclF_lt b ha i (by omega)
theorem ndoc_all : ∀ a < 16, ∀ b < 256, nrdF (nclF a b 4) 3 = nm a b := by decide +kernel
theorem ndoc (a : Nat) {b : Nat} (hb : b < 256) : nrdF (nclF (a % 16) b 4) 3 = nm a b := by rw [ndoc_all _ (lt16 a) _ hb, nm_low_left]
end Go.Proofs.Ytmggmjilgjogfaa
