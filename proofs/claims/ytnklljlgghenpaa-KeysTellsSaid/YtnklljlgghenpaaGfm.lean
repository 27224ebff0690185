/- The field of 256 elements as plain numbers: doubling, products, powers; products are alike in any order and spread over sums; all but 0 are powers of 3. No program is named. -/
import GoSem.ClaimJoined
import Derived.Test.YtnklljlgghenpaaNum
namespace Go.Proofs.Ytnklljlgghenpaa

/-- Twice an element. -/
def tw (a : Nat) : Nat := if a < 128 then 2 * a else (2 * a - 256) ^^^ 27
/-- A product over k bits of b. -/
def gmF : Nat → Nat → Nat → Nat
  | 0, _, _ => 0
  | k + 1, a, b => (if b % 2 = 1 then a else 0) ^^^ gmF k (tw a) (b / 2)
/-- A product. -/
def gm (a b : Nat) : Nat := gmF 8 a b
/-- A power. -/
def pw (a : Nat) : Nat → Nat
  | 0 => 1
  | n + 1 => gm (pw a n) a


theorem tw_lt {a : Nat} (ha : a < 256) : tw a < 256 := by
  unfold tw; split
  · omega
  · exact xor_lt (by omega) (by decide)
theorem tw_sel : ∀ a < 256, tw a = a <<< 1 ^^^ (if a / 2 ^ 7 % 2 = 1 then 283 else 0) := by decide +kernel
theorem tw_add {a b : Nat} (ha : a < 256) (hb : b < 256) : tw (a ^^^ b) = tw a ^^^ tw b := by
  rw [tw_sel _ ha, tw_sel _ hb, tw_sel _ (xor_lt ha hb), xor4, Nat.shiftLeft_xor_distrib, Nat.xor_div_two_pow]
  congr 1
  simp only [Nat.xor_mod_two_eq_one]
  exact sel_add _ _ _

theorem gmF_lt : ∀ (k : Nat) {a : Nat} (b : Nat), a < 256 → gmF k a b < 256
  | 0, _, _, _ => by simp [gmF]
  | k + 1, a, b, h => by
    unfold gmF
    exact xor_lt (by split <;> omega) (gmF_lt k _ (tw_lt h))
theorem gm_lt {a b : Nat} (ha : a < 256) : gm a b < 256 := gmF_lt 8 b ha
theorem gmF_zero : ∀ (k a : Nat), gmF k a 0 = 0
  | 0, _ => rfl
  | k + 1, a => by simp [gmF, gmF_zero k]
theorem gmF_zero_left : ∀ (k b : Nat), gmF k 0 b = 0
  | 0, _ => rfl
  | k + 1, b => by
    have : tw 0 = 0 := rfl
    simp [gmF, this, gmF_zero_left k]
theorem gmF_more : ∀ (k a b : Nat), b < 2 ^ k → gmF (k + 1) a b = gmF k a b
  | 0, a, b, h => by
    obtain rfl : b = 0 := by omega
    simp [gmF]
  | k + 1, a, b, h => by
    have := gmF_more k (tw a) (b / 2) (by rw [Nat.pow_succ] at h; omega)
    rw [gmF, this, gmF]

theorem gmF_add_right : ∀ (k a b c : Nat), gmF k a (b ^^^ c) = gmF k a b ^^^ gmF k a c
  | 0, _, _, _ => by simp [gmF]
  | k + 1, a, b, c => by
    rw [gmF, gmF, gmF, Nat.xor_div_two, gmF_add_right k, xor4]
    congr 1
    simp only [Nat.xor_mod_two_eq_one]
    exact sel_add _ _ _
theorem gmF_add_left : ∀ (k : Nat) {a b : Nat} (c : Nat), a < 256 → b < 256 → gmF k (a ^^^ b) c = gmF k a c ^^^ gmF k b c
  | 0, _, _, _, _, _ => by simp [gmF]
  | k + 1, a, b, c, ha, hb => by
    rw [gmF, gmF, gmF, tw_add ha hb, gmF_add_left k _ (tw_lt ha) (tw_lt hb), xor4]
    congr 1
    split <;> simp
theorem gm_add (a b c : Nat) : gm a (b ^^^ c) = gm a b ^^^ gm a c := gmF_add_right 8 a b c
theorem add_gm {a b : Nat} (c : Nat) (ha : a < 256) (hb : b < 256) : gm (a ^^^ b) c = gm a c ^^^ gm b c := gmF_add_left 8 c ha hb

/-- What keeps sums. -/
def Lin (f : Nat → Nat) : Prop := ∀ a b, a < 256 → b < 256 → f (a ^^^ b) = f a ^^^ f b
theorem top_bit : ∀ k < 8, ∀ a < 256, 2 ^ k ≤ a → a < 2 ^ (k + 1) → a = (a - 2 ^ k) ^^^ 2 ^ k := by decide +kernel
theorem two_lt : ∀ k < 8, 2 ^ k < 256 := by decide
theorem Lin.zero {f : Nat → Nat} (hf : Lin f) : f 0 = 0 := by
  have := hf 0 0 (by decide) (by decide)
  simpa using this
/-- What keeps sums is told by what it does to the eight powers of 2. -/
theorem lin_ext {f g : Nat → Nat} (hf : Lin f) (hg : Lin g) (h : ∀ i < 8, f (2 ^ i) = g (2 ^ i)) {a : Nat} (ha : a < 256) : f a = g a := by
  have key : ∀ k, k ≤ 8 → ∀ a, a < 2 ^ k → f a = g a := by
    intro k
    induction k with
    | zero => intro _ a h0; obtain rfl : a = 0 := by omega
              rw [hf.zero, hg.zero]
    | succ k ih =>
      intro hk a hlt
      by_cases hs : a < 2 ^ k
      · exact ih (by omega) a hs
      · have h256 : a < 256 := Nat.lt_of_lt_of_le hlt (Nat.le_trans (Nat.pow_le_pow_right (by decide) hk) (by decide))
        have e := top_bit k (by omega) a h256 (by omega) hlt
        have hlow : a - 2 ^ k < 2 ^ k := by rw [Nat.pow_succ] at hlt; omega
        rw [e, hf _ _ (by omega) (two_lt k (by omega)), hg _ _ (by omega) (two_lt k (by omega)), ih (by omega) _ hlow, h k (by omega)]
  exact key 8 (Nat.le_refl _) a ha

theorem gm_comm_base : ∀ i < 8, ∀ j < 8, gm (2 ^ i) (2 ^ j) = gm (2 ^ j) (2 ^ i) := by decide +kernel
theorem lin_left (c : Nat) : Lin (fun a => gm a c) := fun _ _ ha hb => add_gm c ha hb
theorem lin_right (a : Nat) : Lin (fun b => gm a b) := fun _ _ _ _ => gm_add a _ _
theorem gm_comm {a b : Nat} (ha : a < 256) (hb : b < 256) : gm a b = gm b a := by
  refine lin_ext (f := fun a => gm a b) (g := fun a => gm b a) (lin_left b) (lin_right b) (fun i hi => ?_) ha
  exact lin_ext (f := fun b => gm (2 ^ i) b) (g := fun b => gm b (2 ^ i)) (lin_right _) (lin_left _) (fun j hj => gm_comm_base i hi j hj) hb
theorem gm_assoc_base : ∀ i < 8, ∀ j < 8, ∀ k < 8, gm (2 ^ i) (gm (2 ^ j) (2 ^ k)) = gm (gm (2 ^ i) (2 ^ j)) (2 ^ k) := by decide +kernel
theorem gm_assoc {a b c : Nat} (ha : a < 256) (hb : b < 256) (hc : c < 256) : gm a (gm b c) = gm (gm a b) c := by
  refine lin_ext (f := fun a => gm a (gm b c)) (g := fun a => gm (gm a b) c) (lin_left _) (fun x y hx hy => by simp only [add_gm _ hx hy]; rw [add_gm _ (gm_lt hx) (gm_lt hy)]) (fun i hi => ?_) ha
  refine lin_ext (f := fun b => gm (2 ^ i) (gm b c)) (g := fun b => gm (gm (2 ^ i) b) c) (fun x y hx hy => by simp only [add_gm _ hx hy, gm_add]) (fun x y hx hy => by simp only [gm_add]; rw [add_gm _ (gm_lt (two_lt i hi)) (gm_lt (two_lt i hi))]) (fun j hj => ?_) hb
  exact lin_ext (f := fun c => gm (2 ^ i) (gm (2 ^ j) c)) (g := fun c => gm (gm (2 ^ i) (2 ^ j)) c) (fun x y hx hy => by simp only [gm_add]) (lin_right _) (fun k hk => gm_assoc_base i hi j hj k hk) hc
theorem gm_one_all : ∀ a < 256, gm a 1 = a := by decide +kernel
theorem gm_one {a : Nat} (ha : a < 256) : gm a 1 = a := gm_one_all a ha
theorem one_gm {a : Nat} (ha : a < 256) : gm 1 a = a := by rw [gm_comm (by decide) ha, gm_one ha]
theorem zero_gm (b : Nat) : gm 0 b = 0 := gmF_zero_left 8 b
theorem gm_zero (a : Nat) : gm a 0 = 0 := gmF_zero 8 a
theorem gm_two_all : ∀ a < 256, gm a 2 = tw a := by decide +kernel
theorem gm_two {a : Nat} (ha : a < 256) : gm a 2 = tw a := gm_two_all a ha

theorem pw_lt {a : Nat} (ha : a < 256) : ∀ n, pw a n < 256
  | 0 => by simp [pw]
  | n + 1 => gm_lt (pw_lt ha n)
theorem pw_one {a : Nat} (ha : a < 256) : pw a 1 = a := by simp only [pw]; exact one_gm ha
theorem pw_add {a : Nat} (ha : a < 256) (m : Nat) : ∀ n, pw a (m + n) = gm (pw a m) (pw a n)
  | 0 => (gm_one (pw_lt ha m)).symm
  | n + 1 => by
    show gm (pw a (m + n)) a = gm (pw a m) (gm (pw a n) a)
    rw [pw_add ha m n, gm_assoc (pw_lt ha m) (pw_lt ha n) ha]
theorem pw_mul {a : Nat} (ha : a < 256) (m : Nat) : ∀ n, pw (pw a m) n = pw a (m * n)
  | 0 => rfl
  | n + 1 => by rw [pw, pw_mul ha m n, Nat.mul_succ, pw_add ha]
theorem pw_sq {a : Nat} (ha : a < 256) (n : Nat) : pw (gm a a) n = pw a (2 * n) := by
  have h2 : pw a 2 = gm a a := by show gm (pw a 1) a = _; rw [pw_one ha]
  rw [← h2, pw_mul ha]
theorem pw_gm {a : Nat} (ha : a < 256) (n : Nat) : gm a (pw a n) = pw a (n + 1) := by
  rw [Nat.add_comm, pw_add ha, pw_one ha]
theorem pw_zero : ∀ {n : Nat}, 1 ≤ n → pw 0 n = 0
  | _ + 1, _ => gm_zero _
theorem one_pw : ∀ (n : Nat), pw 1 n = 1
  | 0 => rfl
  | n + 1 => by rw [pw, one_pw n]; decide

/-- The power 255, by squares. -/
def p255 (a : Nat) : Nat :=
  let b := gm a a; let c := gm b b; let d := gm c c; let e := gm d d; let f := gm e e; let g := gm f f; let h := gm g g
  gm a (gm b (gm c (gm d (gm e (gm f (gm g h))))))
theorem p255_all : ∀ a < 256, a ≠ 0 → p255 a = 1 := by decide +kernel
theorem pw_255 {a : Nat} (ha : a < 256) (h0 : a ≠ 0) : pw a 255 = 1 := by
  have s : ∀ k, gm (pw a k) (pw a k) = pw a (k + k) := fun k => (pw_add ha k k).symm
  have t : ∀ k m, gm (pw a k) (pw a m) = pw a (k + m) := fun k m => (pw_add ha k m).symm
  have key : ∀ b, b = pw a 1 → p255 b = pw a 255 := by
    rintro b rfl
    unfold p255
    simp only [s, t]
  rw [← key a (pw_one ha).symm]
  exact p255_all a ha h0
theorem pw_255_mul {a : Nat} (ha : a < 256) (h0 : a ≠ 0) (q : Nat) : pw a (255 * q) = 1 := by rw [← pw_mul ha, pw_255 ha h0, one_pw]
theorem pw_mod {a : Nat} (ha : a < 256) (h0 : a ≠ 0) (n : Nat) : pw a (n % 255) = pw a n := by
  have := Nat.div_add_mod n 255
  rw [← this, pw_add ha, pw_255_mul ha h0, one_gm (pw_lt ha _), Nat.mul_add_mod, Nat.mod_mod]
theorem pw_few {a : Nat} (ha : a < 256) (n : Nat) (hn : 1 ≤ n) : pw a ((n - 1) % 255 + 1) = pw a n := by
  by_cases h0 : a = 0
  · subst h0; rw [pw_zero (by omega), pw_zero hn]
  · rw [pw, pw_mod ha h0]
    obtain ⟨m, rfl⟩ : ∃ m, n = m + 1 := ⟨n - 1, by omega⟩
    rfl
theorem pw_256 {a : Nat} (ha : a < 256) : pw a 256 = a := by
  by_cases h0 : a = 0
  · subst h0; exact pw_zero (by decide)
  · show gm (pw a 255) a = a
    rw [pw_255 ha h0, one_gm ha]

/-! ### inverses -/
theorem gm_inv {a : Nat} (ha : a < 256) (h0 : a ≠ 0) : gm a (pw a 254) = 1 := by rw [pw_gm ha]; exact pw_255 ha h0
theorem inv_only {a b : Nat} (ha : a < 256) (hb : b < 256) (h : gm a b = 1) : b = pw a 254 := by
  have h0 : a ≠ 0 := by rintro rfl; rw [zero_gm] at h; omega
  have e : gm (pw a 254) (gm a b) = gm (pw a 254) 1 := by rw [h]
  rw [gm_assoc (pw_lt ha _) ha hb, gm_one (pw_lt ha _), gm_comm (pw_lt ha _) ha, gm_inv ha h0, one_gm hb] at e
  exact e
theorem inv_pos {a : Nat} (ha : a < 256) (h0 : a ≠ 0) : 1 ≤ pw a 254 := by
  have := gm_inv ha h0
  rcases Nat.eq_zero_or_pos (pw a 254) with h | h
  · rw [h, gm_zero] at this; omega
  · exact h

/-! ### orders -/
/-- d is the order of a. -/
def IsOrd (a d : Nat) : Prop := 1 ≤ d ∧ d ≤ 255 ∧ pw a d = 1 ∧ ∀ m, 1 ≤ m → m < d → pw a m ≠ 1
theorem least (p : Nat → Prop) (l : Nat) : ∀ n, l ≤ n → p n → ∃ d, l ≤ d ∧ d ≤ n ∧ p d ∧ ∀ m, l ≤ m → m < d → ¬ p m := by
  intro n
  induction n using Nat.strongRecOn with
  | _ n ih =>
    intro h1 h2
    by_cases h : ∃ m, l ≤ m ∧ m < n ∧ p m
    · obtain ⟨m, a, b, c⟩ := h
      obtain ⟨d, d1, d2, d3, d4⟩ := ih m b a c
      exact ⟨d, d1, by omega, d3, d4⟩
    · exact ⟨n, h1, Nat.le_refl _, h2, fun m a b c => h ⟨m, a, b, c⟩⟩
theorem ord_is {a : Nat} (ha : a < 256) (h0 : a ≠ 0) : ∃ d, IsOrd a d := by
  obtain ⟨d, h1, h2, h3, h4⟩ := least (fun n => pw a n = 1) 1 255 (by decide) (pw_255 ha h0)
  exact ⟨d, h1, h2, h3, h4⟩
theorem IsOrd.divides {a d : Nat} (ha : a < 256) (h : IsOrd a d) : 255 % d = 0 := by
  obtain ⟨h1, h2, h3, h4⟩ := h
  have h0 : a ≠ 0 := by rintro rfl; rw [pw_zero h1] at h3; omega
  rcases Nat.eq_zero_or_pos (255 % d) with h | h
  · exact h
  · have e : pw a (d * (255 / d) + 255 % d) = 1 := by rw [Nat.div_add_mod]; exact pw_255 ha h0
    rw [pw_add ha, ← pw_mul ha, h3, one_pw, one_gm (pw_lt ha _)] at e
    exact absurd e (h4 _ h (Nat.mod_lt _ h1))

/-! ### powers of 3 -/
/-- The n-th power of 3, and which numbers are powers below n. -/
def seen : Nat → Nat × Nat
  | 0 => (1, 0)
  | n + 1 => let s := seen n; (gm s.1 3, s.2 ||| 1 <<< s.1)
theorem seen_fst : ∀ n, (seen n).1 = pw 3 n
  | 0 => rfl
  | n + 1 => by show gm (seen n).1 3 = gm (pw 3 n) 3; rw [seen_fst n]
theorem seen_snd (a : Nat) : ∀ n, (seen n).2.testBit a = true → ∃ i < n, pw 3 i = a
  | 0, h => by simp [seen] at h
  | n + 1, h => by
    have e : (seen (n + 1)).2 = (seen n).2 ||| 1 <<< pw 3 n := by show _ = _ ||| _; rw [← seen_fst n]; rfl
    rw [e, Nat.testBit_or, Bool.or_eq_true] at h
    rcases h with h | h
    · obtain ⟨i, hi, e⟩ := seen_snd a n h
      exact ⟨i, by omega, e⟩
    · refine ⟨n, by omega, ?_⟩
      rw [Nat.testBit_shiftLeft] at h
      simp only [Bool.and_eq_true, decide_eq_true_eq] at h
      rcases Nat.lt_or_ge (pw 3 n) a with hlt | hge
      · have : Nat.testBit 1 (a - pw 3 n) = false := by
          obtain ⟨k, hk⟩ : ∃ k, a - pw 3 n = k + 1 := ⟨a - pw 3 n - 1, by omega⟩
          rw [hk, Nat.testBit_succ]; simp
        rw [this] at h; simp at h
      · omega
theorem seen_all : (seen 255).2 = 2 ^ 256 - 2 := by decide +kernel
theorem bit_all : ∀ a < 256, a ≠ 0 → (2 ^ 256 - 2 : Nat).testBit a = true := by decide +kernel
/-- l is the logarithm of a. -/
def IsLog (a l : Nat) : Prop := l ≤ 254 ∧ pw 3 l = a ∧ ∀ m, m < l → pw 3 m ≠ a
theorem log_is {a : Nat} (ha : a < 256) (h0 : a ≠ 0) : ∃ l, IsLog a l := by
  obtain ⟨i, hi, e⟩ := seen_snd a 255 (by rw [seen_all]; exact bit_all a ha h0)
  obtain ⟨d, _, h2, h3, h4⟩ := least (fun n => pw 3 n = a) 0 i (Nat.zero_le _) e
  exact ⟨d, by omega, h3, fun m hm => h4 m (Nat.zero_le _) hm⟩
theorem IsLog.only {a l l' : Nat} (h : IsLog a l) (h' : IsLog a l') : l = l' := by
  rcases Nat.lt_trichotomy l l' with c | c | c
  · exact absurd h.2.1 (h'.2.2 _ c)
  · exact c
  · exact absurd h'.2.1 (h.2.2 _ c)

/-! ### loops, as invariants -/
/-- A product under way: S and what is left, A times B. -/
def MulInv (a b A B S : Nat) : Prop := A < 256 ∧ B < 256 ∧ S < 256 ∧ ∃ k, B < 2 ^ k ∧ S ^^^ gmF k A B = gm a b
theorem MulInv.start {a b : Nat} (ha : a < 256) (hb : b < 256) : MulInv a b a b 0 := ⟨ha, hb, by decide, 8, hb, Nat.zero_xor _⟩
theorem MulInv.done {a b A S : Nat} (h : MulInv a b A 0 S) : S = gm a b := by
  obtain ⟨_, _, _, k, _, e⟩ := h
  rwa [gmF_zero, Nat.xor_zero] at e
theorem MulInv.odd {a b A B S : Nat} (h : MulInv a b A B S) (hB : B % 2 = 1) : MulInv a b (tw A) (B / 2) (S ^^^ A) := by
  obtain ⟨h1, h2, h3, k, h4, e⟩ := h
  refine ⟨tw_lt h1, by omega, xor_lt h3 h1, ?_⟩
  obtain ⟨j, rfl⟩ : ∃ j, k = j + 1 := ⟨k - 1, by
    have : k ≠ 0 := by rintro rfl; omega
    omega⟩
  refine ⟨j, by rw [Nat.pow_succ] at h4; omega, ?_⟩
  rw [gmF, if_pos hB] at e
  rw [Nat.xor_assoc]; exact e
theorem MulInv.even {a b A B S : Nat} (h : MulInv a b A B S) (hB : B % 2 ≠ 1) (h0 : B ≠ 0) : MulInv a b (tw A) (B / 2) S := by
  obtain ⟨h1, h2, h3, k, h4, e⟩ := h
  refine ⟨tw_lt h1, by omega, h3, ?_⟩
  obtain ⟨j, rfl⟩ : ∃ j, k = j + 1 := ⟨k - 1, by
    have : k ≠ 0 := by rintro rfl; omega
    omega⟩
  refine ⟨j, by rw [Nat.pow_succ] at h4; omega, ?_⟩
  rwa [gmF, if_neg hB, Nat.zero_xor] at e

/-- A power under way: p, times the n-th power of A. -/
def PowInv (a n A N p : Nat) : Prop := A < 256 ∧ p < 256 ∧ gm p (pw A N) = pw a n
theorem PowInv.start {a n : Nat} (ha : a < 256) : PowInv a n a n 1 := ⟨ha, by decide, one_gm (pw_lt ha n)⟩
theorem PowInv.done {a n A p : Nat} (h : PowInv a n A 0 p) : p = pw a n := by
  obtain ⟨_, h2, e⟩ := h
  rwa [pw, gm_one h2] at e
theorem PowInv.odd {a n A N p : Nat} (h : PowInv a n A N p) (hN : N % 2 = 1) : PowInv a n (gm A A) (N / 2) (gm p A) := by
  obtain ⟨h1, h2, e⟩ := h
  refine ⟨gm_lt h1, gm_lt h2, ?_⟩
  obtain ⟨m, rfl⟩ : ∃ m, N = 2 * m + 1 := ⟨N / 2, by omega⟩
  rw [show (2 * m + 1) / 2 = m by omega, pw_sq h1, ← gm_assoc h2 h1 (pw_lt h1 _), pw_gm h1]; exact e
theorem PowInv.even {a n A N p : Nat} (h : PowInv a n A N p) (hN : N % 2 ≠ 1) : PowInv a n (gm A A) (N / 2) p := by
  obtain ⟨h1, h2, e⟩ := h
  refine ⟨gm_lt h1, h2, ?_⟩
  obtain ⟨m, rfl⟩ : ∃ m, N = 2 * m := ⟨N / 2, by omega⟩
  rw [show (2 * m) / 2 = m by omega, pw_sq h1]; exact e

/-! ### the document's product: the polynomials' product, and what is left of it -/
/-- The polynomials' product over the first i bits of b. -/
def clF (a b : Nat) : Nat → Nat
  | 0 => 0
  | i + 1 => if b / 2 ^ i % 2 = 1 then clF a b i ^^^ (a * 2 ^ i) else clF a b i
/-- One step of what is left. -/
def rd (n i : Nat) : Nat := if n / 2 ^ i % 2 = 1 then n ^^^ (283 * 2 ^ (i - 8)) else n
/-- What is left after the steps 14 down to 15 - j. -/
def rdF (n : Nat) : Nat → Nat
  | 0 => n
  | j + 1 => rd (rdF n j) (14 - j)
theorem rd_lt {n i : Nat} (h : n < 2 ^ 16) (hi : i ≤ 14) : rd n i < 2 ^ 16 := by
  unfold rd; split
  · refine Nat.xor_lt_two_pow h ?_
    have := Nat.pow_le_pow_right (show 0 < 2 by decide) (show i - 8 ≤ 6 by omega)
    omega
  · exact h
theorem rdF_lt {n : Nat} (h : n < 2 ^ 16) : ∀ j, rdF n j < 2 ^ 16
  | 0 => h
  | j + 1 => rd_lt (rdF_lt h j) (by omega)
theorem rd_add (m n i : Nat) : rd (m ^^^ n) i = rd m i ^^^ rd n i := by
  have key : ∀ m, rd m i = m ^^^ (if m / 2 ^ i % 2 = 1 then 283 * 2 ^ (i - 8) else 0) := fun m => by unfold rd; split <;> simp
  rw [key, key m, key n, xor4, Nat.xor_div_two_pow]
  congr 1
  simp only [Nat.xor_mod_two_eq_one]
  exact sel_add _ _ _
theorem rdF_add (m n : Nat) : ∀ j, rdF (m ^^^ n) j = rdF m j ^^^ rdF n j
  | 0 => rfl
  | j + 1 => by rw [rdF, rdF_add m n j, rd_add, rdF, rdF]
theorem clF_lt {a : Nat} (b : Nat) (ha : a < 256) : ∀ i ≤ 8, clF a b i < 2 ^ 16
  | 0, _ => by simp [clF]
  | i + 1, hi => by
    unfold clF; split
    · refine Nat.xor_lt_two_pow (clF_lt b ha i (by omega)) ?_
      have := Nat.pow_le_pow_right (show 0 < 2 by decide) (show i ≤ 7 by omega)
      have := Nat.mul_le_mul (show a ≤ 255 by omega) this
      omega
    · exact clF_lt b ha i (by omega)
theorem clF_add_left {a c b : Nat} : ∀ i, clF (a ^^^ c) b i = clF a b i ^^^ clF c b i
  | 0 => by simp [clF]
  | i + 1 => by
    unfold clF
    rw [clF_add_left i]
    split
    · rw [xor4, ← Nat.shiftLeft_eq, ← Nat.shiftLeft_eq, ← Nat.shiftLeft_eq, Nat.shiftLeft_xor_distrib]
    · rfl
theorem clF_add_right {a b c : Nat} : ∀ i, clF a (b ^^^ c) i = clF a b i ^^^ clF a c i
  | 0 => by simp [clF]
  | i + 1 => by
    have key : ∀ b, clF a b (i + 1) = clF a b i ^^^ (if b / 2 ^ i % 2 = 1 then a * 2 ^ i else 0) := fun b => by
      rw [clF]; split <;> simp
    rw [key, key b, key c, clF_add_right i, xor4, Nat.xor_div_two_pow]
    congr 1
    simp only [Nat.xor_mod_two_eq_one]
    exact sel_add _ _ _
theorem doc_base : ∀ i < 8, ∀ j < 8, rdF (clF (2 ^ i) (2 ^ j) 8) 7 = gm (2 ^ i) (2 ^ j) := by decide +kernel
theorem doc_gm {a b : Nat} (ha : a < 256) (hb : b < 256) : rdF (clF a b 8) 7 = gm a b := by
  refine lin_ext (f := fun a => rdF (clF a b 8) 7) (g := fun a => gm a b) (fun x y _ _ => by simp only [clF_add_left, rdF_add]) (lin_left b) (fun i hi => ?_) ha
  exact lin_ext (f := fun b => rdF (clF (2 ^ i) b 8) 7) (g := fun b => gm (2 ^ i) b) (fun x y _ _ => by simp only [clF_add_right, rdF_add]) (lin_right _) (fun j hj => doc_base i hi j hj) hb
end Go.Proofs.Ytnklljlgghenpaa
