import GoSem.ClaimJoined
import Derived.Test.YthhkhcacljgelaaGreatGen
/- The field of 256 elements as plain numbers: doubling, products, powers; products are alike in any order and spread over sums; all but 0 are powers of 3. No program is named. -/
namespace Go.Proofs.YthhkhcacljgelaaGreat

/-- Twice an element. -/
def tw (a : Nat) : Nat := if a < 128 then 2 * a else (2 * a - 256) ^^^ 27
/-- A product over k bits of b. -/
def gmF : Nat → Nat → Nat → Nat
  | 0, _, _ => 0
  | k + 1, a, b => (if b % 2 = 1 then a else 0) ^^^ gmF k (tw a) (b / 2)
/-- A product. -/
def gm (a b : Nat) : Nat := gmF 8 a b
/-- A power. -/
def pw (a : Nat) : Nat → Nat
  | 0 => 1
  | n + 1 => gm (pw a n) a


theorem tw_lt {a : Nat} (ha : a < 256) : tw a < 256 := by
  unfold tw; split
  · omega
  · exact xor_lt (by omega) (by decide)
theorem tw_sel : ∀ a < 256, tw a = a <<< 1 ^^^ (if a / 2 ^ 7 % 2 = 1 then 283 else 0) := by decide +kernel
theorem tw_add {a b : Nat} (ha : a < 256) (hb : b < 256) : tw (a ^^^ b) = tw a ^^^ tw b := by
  rw [tw_sel _ ha, tw_sel _ hb, tw_sel _ (xor_lt ha hb), xor4, Nat.shiftLeft_xor_distrib, Nat.xor_div_two_pow]
  congr 1
  simp only [Nat.xor_mod_two_eq_one]
  exact sel_add _ _ _

theorem gmF_lt : ∀ (k : Nat) {a : Nat} (b : Nat), a < 256 → gmF k a b < 256
  | 0, _, _, _ => by simp [gmF]
  | k + 1, a, b, h => by
    unfold gmF
    exact xor_lt (by split <;> omega) (gmF_lt k _ (tw_lt h))
theorem gm_lt {a b : Nat} (ha : a < 256) : gm a b < 256 := gmF_lt 8 b ha
theorem gmF_zero : ∀ (k a : Nat), gmF k a 0 = 0
  | 0, _ => rfl
  | k + 1, a => by simp [gmF, gmF_zero k]
theorem gmF_zero_left : ∀ (k b : Nat), gmF k 0 b = 0
  | 0, _ => rfl
  | k + 1, b => by
    have : tw 0 = 0 := rfl
    simp [gmF, this, gmF_zero_left k]
theorem gmF_more : ∀ (k a b : Nat), b < 2 ^ k → gmF (k + 1) a b = gmF k a b
  | 0, a, b, h => by
    obtain rfl : b = 0 := by omega
    simp [gmF]
  | k + 1, a, b, h => by
    have := gmF_more k (tw a) (b / 2) (by rw [Nat.pow_succ] at h; omega)
    rw [gmF, this, gmF]

theorem gmF_add_right : ∀ (k a b c : Nat), gmF k a (b ^^^ c) = gmF k a b ^^^ gmF k a c
  | 0, _, _, _ => by simp [gmF]
  | k + 1, a, b, c => by
    rw [gmF, gmF, gmF, Nat.xor_div_two, gmF_add_right k, xor4]
    congr 1
    simp only [Nat.xor_mod_two_eq_one]
    exact sel_add _ _ _
theorem gmF_add_left : ∀ (k : Nat) {a b : Nat} (c : Nat), a < 256 → b < 256 → gmF k (a ^^^ b) c = gmF k a c ^^^ gmF k b c
  | 0, _, _, _, _, _ => by simp [gmF]
  | k + 1, a, b, c, ha, hb => by
    rw [gmF, gmF, gmF, tw_add ha hb, gmF_add_left k _ (tw_lt ha) (tw_lt hb), xor4]
    congr 1
    split <;> simp
theorem gm_add (a b c : Nat) : gm a (b ^^^ c) = gm a b ^^^ gm a c := gmF_add_right 8 a b c
theorem add_gm {a b : Nat} (c : Nat) (ha : a < 256) (hb : b < 256) : gm (a ^^^ b) c = gm a c ^^^ gm b c := gmF_add_left 8 c ha hb

/-- What keeps sums. -/
def Lin (f : Nat → Nat) : Prop := ∀ a b, a < 256 → b < 256 → f (a ^^^ b) = f a ^^^ f b
theorem top_bit : ∀ k < 8, ∀ a < 256, 2 ^ k ≤ a → a < 2 ^ (k + 1) → a = (a - 2 ^ k) ^^^ 2 ^ k := by decide +kernel
theorem two_lt : ∀ k < 8, 2 ^ k < 256 := by decide
theorem Lin.zero {f : Nat → Nat} (hf : Lin f) : f 0 = 0 := by
  have := hf 0 0 (by decide) (by decide)
  simpa using this
/-- What keeps sums is told by what it does to the eight powers of 2. -/
theorem lin_ext {f g : Nat → Nat} (hf : Lin f) (hg : Lin g) (h : ∀ i < 8, f (2 ^ i) = g (2 ^ i)) {a : Nat} (ha : a < 256) : f a = g a := by
  have key : ∀ k, k ≤ 8 → ∀ a, a < 2 ^ k → f a = g a := by
    intro k
    induction k with
    | zero => intro _ a h0; obtain rfl : a = 0 := by omega
              rw [hf.zero, hg.zero]
    | succ k ih =>
      intro hk a hlt
      by_cases hs : a < 2 ^ k
      · exact ih (by omega) a hs
      · have h256 : a < 256 := Nat.lt_of_lt_of_le hlt (Nat.le_trans (Nat.pow_le_pow_right (by decide) hk) (by decide))
        have e := top_bit k (by omega) a h256 (by omega) hlt
        have hlow : a - 2 ^ k < 2 ^ k := by rw [Nat.pow_succ] at hlt; omega
        rw [e, hf _ _ (by omega) (two_lt k (by omega)), hg _ _ (by omega) (two_lt k (by omega)), ih (by omega) _ hlow, h k (by omega)]
  exact key 8 (Nat.le_refl _) a ha

theorem gm_comm_base : ∀ i < 8, ∀ j < 8, gm (2 ^ i) (2 ^ j) = gm (2 ^ j) (2 ^ i) := by decide +kernel
theorem lin_left (c : Nat) : Lin (fun a => gm a c) := fun _ _ ha hb => add_gm c ha hb
theorem lin_right (a : Nat) : Lin (fun b => gm a b) := fun _ _ _ _ => gm_add a _ _
theorem gm_comm {a b : Nat} (ha : a < 256) (hb : b < 256) : gm a b = gm b a := by
  refine lin_ext (f := fun a => gm a b) (g := fun a => gm b a) (lin_left b) (lin_right b) (fun i hi => ?_) ha
  exact lin_ext (f := fun b => gm (2 ^ i) b) (g := fun b => gm b (2 ^ i)) (lin_right _) (lin_left _) (fun j hj => gm_comm_base i hi j hj) hb
theorem gm_assoc_base : ∀ i < 8, ∀ j < 8, ∀ k < 8, gm (2 ^ i) (gm (2 ^ j) (2 ^ k)) = gm (gm (2 ^ i) (2 ^ j)) (2 ^ k) := by decide +kernel
theorem gm_assoc {a b c : Nat} (ha : a < 256) (hb : b < 256) (hc : c < 256) : gm a (gm b c) = gm (gm a b) c := by
  refine lin_ext (f := fun a => gm a (gm b c)) (g := fun a => gm (gm a b) c) (lin_left _) (fun x y hx hy => by simp only [add_gm _ hx hy]; rw [add_gm _ (gm_lt hx) (gm_lt hy)]) (fun i hi => ?_) ha
  refine lin_ext (f := fun b => gm (2 ^ i) (gm b c)) (g := fun b => gm (gm (2 ^ i) b) c) (fun x y hx hy => by simp only [add_gm _ hx hy, gm_add]) (fun x y hx hy => by simp only [gm_add]; rw [add_gm _ (gm_lt (two_lt i hi)) (gm_lt (two_lt i hi))]) (fun j hj => ?_) hb
  exact lin_ext (f := fun c => gm (2 ^ i) (gm (2 ^ j) c)) (g := fun c => gm (gm (2 ^ i) (2 ^ j)) c) (fun x y hx hy => by simp only [gm_add]) (lin_right _) (fun k hk => gm_assoc_base i hi j hj k hk) hc
theorem gm_one_all : ∀ a < 256, gm a 1 = a := by decide +kernel
theorem gm_one {a : Nat} (ha : a < 256) : gm a 1 = a := gm_one_all a ha
theorem one_gm {a : Nat} (ha : a < 256) : gm 1 a = a := by rw [gm_comm (by decide) ha, gm_one ha]
theorem zero_gm (b : Nat) : gm 0 b = 0 := gmF_zero_left 8 b
theorem gm_zero (a : Nat) : gm a 0 = 0 := gmF_zero 8 a
theorem gm_two_all : ∀ a < 256, gm a 2 = tw a := by decide +kernel
theorem gm_two {a : Nat} (ha : a < 256) : gm a 2 = tw a := gm_two_all a ha

theorem pw_lt {a : Nat} (ha : a < 256) : ∀ n, pw a n < 256
  | 0 => by simp [pw]
  | n + 1 => gm_lt (pw_lt ha n)
theorem pw_one {a : Nat} (ha : a < 256) : pw a 1 = a := by simp only [pw]; exact one_gm ha
theorem pw_add {a : Nat} (ha : a < 256) (m : Nat) : ∀ n, pw a (m + n) = gm (pw a m) (pw a n)
  | 0 => (gm_one (pw_lt ha m)).symm
  | n + 1 => by
    show gm (pw a (m + n)) a = gm (pw a m) (gm (pw a n) a)
    rw [pw_add ha m n, gm_assoc (pw_lt ha m) (pw_lt ha n) ha]
theorem pw_mul {a : Nat} (ha : a < 256) (m : Nat) : ∀ n, pw (pw a m) n = pw a (m * n)
  | 0 => rfl
  | n + 1 => by rw [pw, pw_mul ha m n, Nat.mul_succ, pw_add ha]
theorem pw_sq {a : Nat} (ha : a < 256) (n : Nat) : pw (gm a a) n = pw a (2 * n) := by
  have h2 : pw a 2 = gm a a := by show gm (pw a 1) a = _; rw [pw_one ha]
  rw [← h2, pw_mul ha]
theorem pw_gm {a : Nat} (ha : a < 256) (n : Nat) : gm a (pw a n) = pw a (n + 1) := by
  rw [Nat.add_comm, pw_add ha, pw_one ha]
theorem pw_zero : ∀ {n : Nat}, 1 ≤ n → pw 0 n = 0
  | _ + 1, _ => gm_zero _
theorem one_pw : ∀ (n : Nat), pw 1 n = 1
  | 0 => rfl
  | n + 1 => by rw [pw, one_pw n]; decide

/-- The power 255, by squares. -/
def p255 (a : Nat) : Nat :=
  let b := gm a a; let c := gm b b; let d := gm c c; let e := gm d d; let f := gm e e; let g := gm f f; let h := gm g g
  gm a (gm b (gm c (gm d (gm e (gm f (gm g h))))))
theorem p255_all : ∀ a < 256, a ≠ 0 → p255 a = 1 := by decide +kernel
theorem pw_255 {a : Nat} (ha : a < 256) (h0 : a ≠ 0) : pw a 255 = 1 := by
  have s : ∀ k, gm (pw a k) (pw a k) = pw a (k + k) := fun k => (pw_add ha k k).symm
  have t : ∀ k m, gm (pw a k) (pw a m) = pw a (k + m) := fun k m => (pw_add ha k m).symm
  have key : ∀ b, b = pw a 1 → p255 b = pw a 255 := by
    rintro b rfl
    unfold p255
    simp only [s, t]
  rw [← key a (pw_one ha).symm]
  exact p255_all a ha h0
theorem pw_255_mul {a : Nat} (ha : a < 256) (h0 : a ≠ 0) (q : Nat) : pw a (255 * q) = 1 := by rw [← pw_mul ha, pw_255 ha h0, one_pw]
theorem pw_mod {a : Nat} (ha : a < 256) (h0 : a ≠ 0) (n : Nat) : pw a (n % 255) = pw a n := by
  have := Nat.div_add_mod n 255
  rw [← this, pw_add ha, pw_255_mul ha h0, one_gm (pw_lt ha _), Nat.mul_add_mod, Nat.mod_mod]
theorem pw_few {a : Nat} (ha : a < 256) (n : Nat) (hn : 1 ≤ n) : pw a ((n - 1) % 255 + 1) = pw a n := by
  by_cases h0 : a = 0
  · subst h0; rw [pw_zero (by omega), pw_zero hn]
  · rw [pw, pw_mod ha h0]
    obtain ⟨m, rfl⟩ : ∃ m, n = m + 1 := ⟨n - 1, by omega⟩
    rfl
theorem pw_256 {a : Nat} (ha : a < 256) : pw a 256 = a := by
  by_cases h0 : a = 0
  · subst h0; exact pw_zero (by decide)
  · show gm (pw a 255) a = a
    rw [pw_255 ha h0, one_gm ha]

/-! ### inverses -/
theorem gm_inv {a : Nat} (ha : a < 256) (h0 : a ≠ 0) : gm a (pw a 254) = 1 := by rw [pw_gm ha]; exact pw_255 ha h0
theorem inv_only {a b : Nat} (ha : a < 256) (hb : b < 256) (h : gm a b = 1) : b = pw a 254 := by
  have h0 : a ≠ 0 := by rintro rfl; rw [zero_gm] at h; omega
  have e : gm (pw a 254) (gm a b) = gm (pw a 254) 1 := by rw [h]
  rw [gm_assoc (pw_lt ha _) ha hb, gm_one (pw_lt ha _), gm_comm (pw_lt ha _) ha, gm_inv ha h0, one_gm hb] at e
  exact e
theorem inv_pos {a : Nat} (ha : a < 256) (h0 : a ≠ 0) : 1 ≤ pw a 254 := by
  have := gm_inv ha h0
  rcases Nat.eq_zero_or_pos (pw a 254) with h | h
  · rw [h, gm_zero] at this; omega
  · exact h

/-! ### orders -/
/-- d is the order of a. -/
def IsOrd (a d : Nat) : Prop := 1 ≤ d ∧ d ≤ 255 ∧ pw a d = 1 ∧ ∀ m, 1 ≤ m → m < d → pw a m ≠ 1
theorem least (p : Nat → Prop) (l : Nat) : ∀ n, l ≤ n → p n → ∃ d, l ≤ d ∧ d ≤ n ∧ p d ∧ ∀ m, l ≤ m → m < d → ¬ p m := by
  intro n
  induction n using Nat.strongRecOn with
  | _ n ih =>
    intro h1 h2
    by_cases h : ∃ m, l ≤ m ∧ m < n ∧ p m
    · obtain ⟨m, a, b, c⟩ := h
      obtain ⟨d, d1, d2, d3, d4⟩ := ih m b a c
      exact ⟨d, d1, by omega, d3, d4⟩
    · exact ⟨n, h1, Nat.le_refl _, h2, fun m a b c => h ⟨m, a, b, c⟩⟩
theorem ord_is {a : Nat} (ha : a < 256) (h0 : a ≠ 0) : ∃ d, IsOrd a d := by
  obtain ⟨d, h1, h2, h3, h4⟩ := least (fun n => pw a n = 1) 1 255 (by decide) (pw_255 ha h0)
  exact ⟨d, h1, h2, h3, h4⟩
theorem IsOrd.divides {a d : Nat} (ha : a < 256) (h : IsOrd a d) : 255 % d = 0 := by
  obtain ⟨h1, h2, h3, h4⟩ := h
  have h0 : a ≠ 0 := by rintro rfl; rw [pw_zero h1] at h3; omega
  rcases Nat.eq_zero_or_pos (255 % d) with h | h
  · exact h
  · have e : pw a (d * (255 / d) + 255 % d) = 1 := by rw [Nat.div_add_mod]; exact pw_255 ha h0
    rw [pw_add ha, ← pw_mul ha, h3, one_pw, one_gm (pw_lt ha _)] at e
    exact absurd e (h4 _ h (Nat.mod_lt _ h1))

/-! ### powers of 3 -/
/-- The n-th power of 3, and which numbers are powers below n. -/
def seen : Nat → Nat × Nat
  | 0 => (1, 0)
  | n + 1 => let s := seen n; (gm s.1 3, s.2 ||| 1 <<< s.1)
theorem seen_fst : ∀ n, (seen n).1 = pw 3 n
  | 0 => rfl
  | n + 1 => by show gm (seen n).1 3 = gm (pw 3 n) 3; rw [seen_fst n]
theorem seen_snd (a : Nat) : ∀ n, (seen n).2.testBit a = true → ∃ i < n, pw 3 i = a
  | 0, h => by simp [seen] at h
  | n + 1, h => by
    have e : (seen (n + 1)).2 = (seen n).2 ||| 1 <<< pw 3 n := by show _ = _ ||| _; rw [← seen_fst n]; rfl
    rw [e, Nat.testBit_or, Bool.or_eq_true] at h
    rcases h with h | h
    · obtain ⟨i, hi, e⟩ := seen_snd a n h
      exact ⟨i, by omega, e⟩
    · refine ⟨n, by omega, ?_⟩
      rw [Nat.testBit_shiftLeft] at h
      simp only [Bool.and_eq_true, decide_eq_true_eq] at h
      rcases Nat.lt_or_ge (pw 3 n) a with hlt | hge
      · have : Nat.testBit 1 (a - pw 3 n) = false := by
          obtain ⟨k, hk⟩ : ∃ k, a - pw 3 n = k + 1 := ⟨a - pw 3 n - 1, by omega⟩
          rw [hk, Nat.testBit_succ]; simp
        rw [this] at h; simp at h
      · omega
theorem seen_all : (seen 255).2 = 2 ^ 256 - 2 := by decide +kernel
theorem bit_all : ∀ a < 256, a ≠ 0 → (2 ^ 256 - 2 : Nat).testBit a = true := by decide +kernel
/-- l is the logarithm of a. -/
def IsLog (a l : Nat) : Prop := l ≤ 254 ∧ pw 3 l = a ∧ ∀ m, m < l → pw 3 m ≠ a
theorem log_is {a : Nat} (ha : a < 256) (h0 : a ≠ 0) : ∃ l, IsLog a l := by
  obtain ⟨i, hi, e⟩ := seen_snd a 255 (by rw [seen_all]; exact bit_all a ha h0)
  obtain ⟨d, _, h2, h3, h4⟩ := least (fun n => pw 3 n = a) 0 i (Nat.zero_le _) e
  exact ⟨d, by omega, h3, fun m hm => h4 m (Nat.zero_le _) hm⟩
theorem IsLog.only {a l l' : Nat} (h : IsLog a l) (h' : IsLog a l') : l = l' := by
  rcases Nat.lt_trichotomy l l' with c | c | c
  · exact absurd h.2.1 (h'.2.2 _ c)
  · exact c
  · exact absurd h'.2.1 (h.2.2 _ c)

/-! ### loops, as invariants -/
/-- A product under way: S and what is left, A times B. -/
def MulInv (a b A B S : Nat) : Prop := A < 256 ∧ B < 256 ∧ S < 256 ∧ ∃ k, B < 2 ^ k ∧ S ^^^ gmF k A B = gm a b
theorem MulInv.start {a b : Nat} (ha : a < 256) (hb : b < 256) : MulInv a b a b 0 := ⟨ha, hb, by decide, 8, hb, Nat.zero_xor _⟩
theorem MulInv.done {a b A S : Nat} (h : MulInv a b A 0 S) : S = gm a b := by
  obtain ⟨_, _, _, k, _, e⟩ := h
  rwa [gmF_zero, Nat.xor_zero] at e
theorem MulInv.odd {a b A B S : Nat} (h : MulInv a b A B S) (hB : B % 2 = 1) : MulInv a b (tw A) (B / 2) (S ^^^ A) := by
  obtain ⟨h1, h2, h3, k, h4, e⟩ := h
  refine ⟨tw_lt h1, by omega, xor_lt h3 h1, ?_⟩
  obtain ⟨j, rfl⟩ : ∃ j, k = j + 1 := ⟨k - 1, by
    have : k ≠ 0 := by rintro rfl; omega
    omega⟩
  refine ⟨j, by rw [Nat.pow_succ] at h4; omega, ?_⟩
  rw [gmF, if_pos hB] at e
  rw [Nat.xor_assoc]; exact e
theorem MulInv.even {a b A B S : Nat} (h : MulInv a b A B S) (hB : B % 2 ≠ 1) (h0 : B ≠ 0) : MulInv a b (tw A) (B / 2) S := by
  obtain ⟨h1, h2, h3, k, h4, e⟩ := h
  refine ⟨tw_lt h1, by omega, h3, ?_⟩
  obtain ⟨j, rfl⟩ : ∃ j, k = j + 1 := ⟨k - 1, by
    have : k ≠ 0 := by rintro rfl; omega
    omega⟩
  refine ⟨j, by rw [Nat.pow_succ] at h4; omega, ?_⟩
  rwa [gmF, if_neg hB, Nat.zero_xor] at e

/-- A power under way: p, times the n-th power of A. -/
def PowInv (a n A N p : Nat) : Prop := A < 256 ∧ p < 256 ∧ gm p (pw A N) = pw a n
theorem PowInv.start {a n : Nat} (ha : a < 256) : PowInv a n a n 1 := ⟨ha, by decide, one_gm (pw_lt ha n)⟩
theorem PowInv.done {a n A p : Nat} (h : PowInv a n A 0 p) : p = pw a n := by
  obtain ⟨_, h2, e⟩ := h
  rwa [pw, gm_one h2] at e
theorem PowInv.odd {a n A N p : Nat} (h : PowInv a n A N p) (hN : N % 2 = 1) : PowInv a n (gm A A) (N / 2) (gm p A) := by
  obtain ⟨h1, h2, e⟩ := h
  refine ⟨gm_lt h1, gm_lt h2, ?_⟩
  obtain ⟨m, rfl⟩ : ∃ m, N = 2 * m + 1 := ⟨N / 2, by omega⟩
  rw [show (2 * m + 1) / 2 = m by omega, pw_sq h1, ← gm_assoc h2 h1 (pw_lt h1 _), pw_gm h1]; exact e
theorem PowInv.even {a n A N p : Nat} (h : PowInv a n A N p) (hN : N % 2 ≠ 1) : PowInv a n (gm A A) (N / 2) p := by
  obtain ⟨h1, h2, e⟩ := h
  refine ⟨gm_lt h1, h2, ?_⟩
  obtain ⟨m, rfl⟩ : ∃ m, N = 2 * m := ⟨N / 2, by omega⟩
  rw [show (2 * m) / 2 = m by omega, pw_sq h1]; exact e

/-! ### the document's product: the polynomials' product, and what is left of it -/
/-- The polynomials' product over the first i bits of b. -/
def clF (a b : Nat) : Nat → Nat
  | 0 => 0
  | i + 1 => if b / 2 ^ i % 2 = 1 then clF a b i ^^^ (a * 2 ^ i) else clF a b i
/-- One step of what is left. -/
def rd (n i : Nat) : Nat := if n / 2 ^ i % 2 = 1 then n ^^^ (283 * 2 ^ (i - 8)) else n
/-- What is left after the steps 14 down to 15 - j. -/
def rdF (n : Nat) : Nat → Nat
  | 0 => n
  | j + 1 => rd (rdF n j) (14 - j)
theorem rd_lt {n i : Nat} (h : n < 2 ^ 16) (hi : i ≤ 14) : rd n i < 2 ^ 16 := by
  unfold rd; split
  · refine Nat.xor_lt_two_pow h ?_
    have := Nat.pow_le_pow_right (show 0 < 2 by decide) (show i - 8 ≤ 6 by omega)
    omega
  · exact h
theorem rdF_lt {n : Nat} (h : n < 2 ^ 16) : ∀ j, rdF n j < 2 ^ 16
  | 0 => h
  | j + 1 => rd_lt (rdF_lt h j) (by omega)
theorem rd_add (m n i : Nat) : rd (m ^^^ n) i = rd m i ^^^ rd n i := by
  have key : ∀ m, rd m i = m ^^^ (if m / 2 ^ i % 2 = 1 then 283 * 2 ^ (i - 8) else 0) := fun m => by unfold rd; split <;> simp
  rw [key, key m, key n, xor4, Nat.xor_div_two_pow]
  congr 1
  simp only [Nat.xor_mod_two_eq_one]
  exact sel_add _ _ _
theorem rdF_add (m n : Nat) : ∀ j, rdF (m ^^^ n) j = rdF m j ^^^ rdF n j
  | 0 => rfl
  | j + 1 => by rw [rdF, rdF_add m n j, rd_add, rdF, rdF]
theorem clF_lt {a : Nat} (b : Nat) (ha : a < 256) : ∀ i ≤ 8, clF a b i < 2 ^ 16
  | 0, _ => by simp [clF]
  | i + 1, hi => by
    unfold clF; split
    · refine Nat.xor_lt_two_pow (clF_lt b ha i (by omega)) ?_
      have := Nat.pow_le_pow_right (show 0 < 2 by decide) (show i ≤ 7 by omega)
      have := Nat.mul_le_mul (show a ≤ 255 by omega) this
      omega
    · exact clF_lt b ha i (by omega)
theorem clF_add_left {a c b : Nat} : ∀ i, clF (a ^^^ c) b i = clF a b i ^^^ clF c b i
  | 0 => by simp [clF]
  | i + 1 => by
    unfold clF
    rw [clF_add_left i]
    split
    · rw [xor4, ← Nat.shiftLeft_eq, ← Nat.shiftLeft_eq, ← Nat.shiftLeft_eq, Nat.shiftLeft_xor_distrib]
    · rfl
theorem clF_add_right {a b c : Nat} : ∀ i, clF a (b ^^^ c) i = clF a b i ^^^ clF a c i
  | 0 => by simp [clF]
  | i + 1 => by
    have key : ∀ b, clF a b (i + 1) = clF a b i ^^^ (if b / 2 ^ i % 2 = 1 then a * 2 ^ i else 0) := fun b => by
      rw [clF]; split <;> simp
    rw [key, key b, key c, clF_add_right i, xor4, Nat.xor_div_two_pow]
    congr 1
    simp only [Nat.xor_mod_two_eq_one]
    exact sel_add _ _ _
theorem doc_base : ∀ i < 8, ∀ j < 8, rdF (clF (2 ^ i) (2 ^ j) 8) 7 = gm (2 ^ i) (2 ^ j) := by decide +kernel
theorem doc_gm {a b : Nat} (ha : a < 256) (hb : b < 256) : rdF (clF a b 8) 7 = gm a b := by
  refine lin_ext (f := fun a => rdF (clF a b 8) 7) (g := fun a => gm a b) (fun x y _ _ => by simp only [clF_add_left, rdF_add]) (lin_left b) (fun i hi => ?_) ha
  exact lin_ext (f := fun b => rdF (clF (2 ^ i) b 8) 7) (g := fun b => gm (2 ^ i) b) (fun x y _ _ => by simp only [clF_add_right, rdF_add]) (lin_right _) (fun j hj => doc_base i hi j hj) hb
end Go.Proofs.YthhkhcacljgelaaGreat

/- Matrices of bits as plain numbers: what they turn bytes into, products, rows as columns, ranks. No program is named. -/
namespace Go.Proofs.YthhkhcacljgelaaGreat

/-! ### sums of bits -/
def bsum (h : Nat → Bool) : Nat → Bool
  | 0 => false
  | k + 1 => xor (bsum h k) (h k)
theorem bsum_ext {h g : Nat → Bool} : ∀ {n : Nat}, (∀ k, k < n → h k = g k) → bsum h n = bsum g n
  | 0, _ => rfl
  | n + 1, e => by rw [bsum, bsum, bsum_ext (fun k hk => e k (by omega)), e n (by omega)]
theorem bsum_xor (h g : Nat → Bool) : ∀ n, bsum (fun k => xor (h k) (g k)) n = xor (bsum h n) (bsum g n)
  | 0 => rfl
  | n + 1 => by
    rw [bsum, bsum, bsum, bsum_xor h g n]
    cases bsum h n <;> cases bsum g n <;> cases h n <;> cases g n <;> rfl
theorem bsum_false : ∀ n, bsum (fun _ => false) n = false
  | 0 => rfl
  | n + 1 => by rw [bsum, bsum_false n]; rfl
theorem bsum_and (a : Bool) (h : Nat → Bool) : ∀ n, bsum (fun k => a && h k) n = (a && bsum h n)
  | 0 => by simp [bsum]
  | n + 1 => by
    rw [bsum, bsum, bsum_and a h n]
    cases a <;> cases bsum h n <;> cases h n <;> rfl
theorem bsum_comm (h : Nat → Nat → Bool) (n : Nat) : ∀ m, bsum (fun i => bsum (fun j => h i j) n) m = bsum (fun j => bsum (fun i => h i j) m) n
  | 0 => (bsum_false n).symm
  | m + 1 => by
    rw [bsum, bsum_comm h n m, ← bsum_xor]
    rfl
theorem bsum_one {h : Nat → Bool} {j : Nat} : ∀ {n : Nat}, (∀ k, k < n → k ≠ j → h k = false) → bsum h n = (decide (j < n) && h j)
  | 0, _ => by simp [bsum]
  | n + 1, e => by
    rw [bsum, bsum_one (fun k hk => e k (by omega))]
    by_cases hj : n = j
    · subst hj; simp
    · rw [e n (by omega) hj]
      by_cases h1 : j < n
      · simp [h1, show j < n + 1 by omega]
      · simp [h1, show ¬ j < n + 1 by omega]

/-! ### a byte put together out of bits -/
def pk (p : Nat → Bool) : Nat → Nat
  | 0 => 0
  | k + 1 => pk p k + (if p k then 2 ^ k else 0)
theorem pk_lt (p : Nat → Bool) : ∀ n, pk p n < 2 ^ n
  | 0 => by simp [pk]
  | n + 1 => by
    have := pk_lt p n
    rw [pk, Nat.pow_succ]
    split <;> omega
theorem pk_bit (p : Nat → Bool) : ∀ n i, (pk p n).testBit i = (decide (i < n) && p i)
  | 0, i => by simp [pk]
  | n + 1, i => by
    have hl := pk_lt p n
    rw [pk]
    by_cases hp : p n = true
    · rw [if_pos hp, Nat.add_comm]
      by_cases hi : i = n
      · subst hi
        rw [Nat.testBit_two_pow_add_eq, pk_bit p i i]; simp [hp]
      · by_cases h1 : i < n
        · rw [Nat.testBit_two_pow_add_gt h1, pk_bit p n i]
          simp [h1, show i < n + 1 by omega]
        · have hlt : 2 ^ n + pk p n < 2 ^ i := Nat.lt_of_lt_of_le (by rw [Nat.pow_succ]; omega) (Nat.pow_le_pow_right (by decide) (show n + 1 ≤ i by omega))
          rw [Nat.testBit_lt_two_pow hlt]
          simp [show ¬ i < n + 1 by omega]
    · rw [if_neg hp, Nat.add_zero, pk_bit p n i]
      by_cases hi : i = n
      · subst hi; simp [hp]
      · by_cases h1 : i < n
        · simp [h1, show i < n + 1 by omega]
        · simp [h1, show ¬ i < n + 1 by omega]
theorem pk8_lt (p : Nat → Bool) : pk p 8 < 256 := pk_lt p 8
theorem pk8_bit (p : Nat → Bool) {i : Nat} (hi : i < 8) : (pk p 8).testBit i = p i := by rw [pk_bit]; simp [hi]
theorem pk_ext {p q : Nat → Bool} : ∀ {n : Nat}, (∀ i, i < n → p i = q i) → pk p n = pk q n
  | 0, _ => rfl
  | n + 1, e => by rw [pk, pk, pk_ext (fun k hk => e k (by omega)), e n (by omega)]
theorem byte_ext {a b : Nat} (ha : a < 256) (hb : b < 256) (h : ∀ i, i < 8 → a.testBit i = b.testBit i) : a = b := by
  apply Nat.eq_of_testBit_eq
  intro i
  by_cases hi : i < 8
  · exact h i hi
  · have hp : 2 ^ 8 ≤ 2 ^ i := Nat.pow_le_pow_right (by decide) (by omega)
    rw [Nat.testBit_lt_two_pow (show a < 2 ^ i by omega), Nat.testBit_lt_two_pow (show b < 2 ^ i by omega)]
theorem bit_ge {a i : Nat} (ha : a < 256) (hi : 8 ≤ i) : a.testBit i = false := by
  have hp : 2 ^ 8 ≤ 2 ^ i := Nat.pow_le_pow_right (by decide) hi
  exact Nat.testBit_lt_two_pow (show a < 2 ^ i by omega)
theorem pk_self {a : Nat} (ha : a < 256) : pk (fun i => a.testBit i) 8 = a := byte_ext (pk8_lt _) ha (fun _ hi => pk8_bit _ hi)

/-! ### bits that two bytes have both -/
def dot (a x : Nat) : Bool := bsum (fun k => a.testBit k && x.testBit k) 8
theorem dot_comm (a x : Nat) : dot a x = dot x a := bsum_ext (fun _ _ => Bool.and_comm _ _)
theorem dot_xor (a x y : Nat) : dot a (x ^^^ y) = xor (dot a x) (dot a y) := by
  unfold dot
  rw [← bsum_xor]
  refine bsum_ext (fun k _ => ?_)
  rw [Nat.testBit_xor]
  cases a.testBit k <;> cases x.testBit k <;> cases y.testBit k <;> rfl
theorem xor_dot (a b x : Nat) : dot (a ^^^ b) x = xor (dot a x) (dot b x) := by rw [dot_comm, dot_xor, dot_comm x a, dot_comm x b]
theorem dot_zero (a : Nat) : dot a 0 = false := by
  unfold dot
  rw [show (fun k => a.testBit k && (0 : Nat).testBit k) = fun _ => false by funext k; simp]
  exact bsum_false 8
theorem dot_two (a : Nat) {j : Nat} (hj : j < 8) : dot a (2 ^ j) = a.testBit j := by
  unfold dot
  rw [bsum_one (j := j) (fun k _ hk => by rw [Nat.testBit_two_pow_of_ne (fun e => hk e.symm)]; simp)]
  rw [Nat.testBit_two_pow_self]; simp [hj]
theorem two_dot (a : Nat) {j : Nat} (hj : j < 8) : dot (2 ^ j) a = a.testBit j := by rw [dot_comm, dot_two a hj]
/-- Bytes that meet every byte alike are one. -/
theorem dot_ext {a b : Nat} (ha : a < 256) (hb : b < 256) (h : ∀ x, x < 256 → dot x a = dot x b) : a = b :=
  byte_ext ha hb (fun i hi => by rw [← two_dot a hi, ← two_dot b hi]; exact h _ (two_lt i hi))

/-! ### what a matrix turns a byte into -/
def By (f : Nat → Nat) : Prop := ∀ i, i < 8 → f i < 256
def ap (f : Nat → Nat) (x : Nat) : Nat := pk (fun i => dot (f i) x) 8
theorem ap_lt (f : Nat → Nat) (x : Nat) : ap f x < 256 := pk8_lt _
theorem ap_bit (f : Nat → Nat) (x : Nat) {i : Nat} (hi : i < 8) : (ap f x).testBit i = dot (f i) x := pk8_bit _ hi
theorem ap_ext {f g : Nat → Nat} (h : ∀ i, i < 8 → f i = g i) (x : Nat) : ap f x = ap g x := pk_ext (fun i hi => by rw [h i hi])
theorem ap_xor (f : Nat → Nat) (x y : Nat) : ap f (x ^^^ y) = ap f x ^^^ ap f y :=
  byte_ext (ap_lt _ _) (xor_lt (ap_lt _ _) (ap_lt _ _)) (fun i hi => by rw [Nat.testBit_xor, ap_bit _ _ hi, ap_bit _ _ hi, ap_bit _ _ hi, dot_xor])
theorem ap_lin (f : Nat → Nat) : Lin (ap f) := fun x y _ _ => ap_xor f x y
theorem ap_zero (f : Nat → Nat) : ap f 0 = 0 := byte_ext (ap_lt _ _) (by decide) (fun i hi => by rw [ap_bit _ _ hi, dot_zero]; simp)
/-- Matrices that turn alike are one. -/
theorem mat_ext {f g : Nat → Nat} (hf : By f) (hg : By g) (h : ∀ x, x < 256 → ap f x = ap g x) : ∀ i, i < 8 → f i = g i := fun i hi =>
  byte_ext (hf i hi) (hg i hi) (fun j hj => by rw [← dot_two (f i) hj, ← dot_two (g i) hj, ← ap_bit f _ hi, ← ap_bit g _ hi, h _ (two_lt j hj)])

def one : Nat → Nat := fun i => 2 ^ i
theorem one_by : By one := fun i hi => two_lt i hi
theorem ap_one {x : Nat} (hx : x < 256) : ap one x = x := byte_ext (ap_lt _ _) hx (fun i hi => by rw [ap_bit _ _ hi]; exact two_dot x hi)

/-! ### rows as columns -/
def flip (f : Nat → Nat) : Nat → Nat := fun j => pk (fun i => (f i).testBit j) 8
theorem flip_by (f : Nat → Nat) : By (flip f) := fun _ _ => pk8_lt _
theorem flip_bit (f : Nat → Nat) (j : Nat) {i : Nat} (hi : i < 8) : (flip f j).testBit i = (f i).testBit j := pk8_bit _ hi
theorem flip_flip {f : Nat → Nat} (hf : By f) : ∀ i, i < 8 → flip (flip f) i = f i := fun i hi =>
  byte_ext (flip_by _ i hi) (hf i hi) (fun j hj => by rw [flip_bit _ _ hj, flip_bit _ _ hi])
theorem flip_ext {f g : Nat → Nat} (h : ∀ i, i < 8 → f i = g i) (j : Nat) : flip f j = flip g j := pk_ext (fun i hi => by rw [h i hi])
theorem ap_flip_two {c : Nat → Nat} (hc : By c) {j : Nat} (hj : j < 8) : ap (flip c) (2 ^ j) = c j :=
  byte_ext (ap_lt _ _) (hc j hj) (fun i hi => by rw [ap_bit _ _ hi, dot_two _ hj, flip_bit _ _ hj])
/-- What keeps sums is a matrix's turning. -/
theorem ap_cols {t : Nat → Nat} (ht : Lin t) (hb : ∀ x, x < 256 → t x < 256) {x : Nat} (hx : x < 256) : ap (flip (fun j => t (2 ^ j))) x = t x :=
  lin_ext (ap_lin _) ht (fun _ hj => ap_flip_two (fun i hi => hb _ (two_lt i hi)) hj) hx
/-- Rows as columns: the other side of the meeting. -/
theorem dot_flip (f : Nat → Nat) (x y : Nat) : dot (ap f x) y = dot x (ap (flip f) y) := by
  have e1 : dot (ap f x) y = bsum (fun i => bsum (fun j => ((f i).testBit j && x.testBit j) && y.testBit i) 8) 8 := by
    refine bsum_ext (fun i hi => ?_)
    rw [ap_bit _ _ hi, Bool.and_comm]
    unfold dot
    rw [← bsum_and]
    exact bsum_ext (fun j _ => Bool.and_comm _ _)
  have e2 : dot x (ap (flip f) y) = bsum (fun j => bsum (fun i => ((f i).testBit j && x.testBit j) && y.testBit i) 8) 8 := by
    refine bsum_ext (fun j hj => ?_)
    rw [ap_bit _ _ hj]
    unfold dot
    rw [← bsum_and]
    refine bsum_ext (fun i hi => ?_)
    rw [flip_bit _ _ hi]
    cases (f i).testBit j <;> cases x.testBit j <;> cases y.testBit i <;> rfl
  rw [e1, e2, bsum_comm]

/-! ### products -/
def xsum (h : Nat → Nat) : Nat → Nat
  | 0 => 0
  | k + 1 => xsum h k ^^^ h k
theorem xsum_lt {h : Nat → Nat} : ∀ {n : Nat}, (∀ k, k < n → h k < 256) → xsum h n < 256
  | 0, _ => by simp [xsum]
  | n + 1, e => xor_lt (xsum_lt (fun k hk => e k (by omega))) (e n (by omega))
theorem xsum_bit (h : Nat → Nat) (i : Nat) : ∀ n, (xsum h n).testBit i = bsum (fun k => (h k).testBit i) n
  | 0 => by simp [xsum, bsum]
  | n + 1 => by rw [xsum, Nat.testBit_xor, xsum_bit h i n]; rfl
theorem xsum_dot (h : Nat → Nat) (x : Nat) : ∀ n, dot (xsum h n) x = bsum (fun k => dot (h k) x) n
  | 0 => by rw [xsum, dot_comm, dot_zero]; rfl
  | n + 1 => by rw [xsum, xor_dot, xsum_dot h x n]; rfl
def mu (f g : Nat → Nat) : Nat → Nat := fun i => xsum (fun k => if (f i).testBit k then g k else 0) 8
theorem mu_by (f : Nat → Nat) {g : Nat → Nat} (hg : By g) : By (mu f g) := fun i _ => xsum_lt (fun k hk => by split; exact hg k hk; decide)
theorem ap_mu (f g : Nat → Nat) (x : Nat) : ap (mu f g) x = ap f (ap g x) := by
  refine byte_ext (ap_lt _ _) (ap_lt _ _) (fun i hi => ?_)
  rw [ap_bit _ _ hi, ap_bit _ _ hi]
  unfold mu
  rw [xsum_dot]
  refine bsum_ext (fun k hk => ?_)
  rw [ap_bit _ _ hk]
  cases h : (f i).testBit k
  · rw [if_neg (by simp), dot_comm, dot_zero]; rfl
  · rw [if_pos rfl]; rfl
/-- The document's product. -/
theorem mu_cols {f g : Nat → Nat} (hg : By g) : ∀ i, i < 8 → flip (fun j => ap f (ap g (2 ^ j))) i = mu f g i :=
  mat_ext (flip_by _) (mu_by f hg) (fun x hx => by
    rw [ap_cols (t := fun x => ap f (ap g x)) (fun x y _ _ => by simp only [ap_xor]) (fun _ _ => ap_lt _ _) hx, ap_mu])
end Go.Proofs.YthhkhcacljgelaaGreat

/- Ranks of matrices of bits: rows put together till each has a column of its own; how many bytes are told. No program is named. -/
namespace Go.Proofs.YthhkhcacljgelaaGreat

/-! ### counting -/
theorem sub_len : ∀ {l m : List Nat}, l.Nodup → (∀ x, x ∈ l → x ∈ m) → l.length ≤ m.length
  | [], _, _, _ => by simp
  | a :: l, m, hn, h => by
    have hn' := List.nodup_cons.1 hn
    have hm : a ∈ m := h a (by simp)
    have ih := sub_len (m := m.erase a) hn'.2 (fun x hx => (List.mem_erase_of_ne (by rintro rfl; exact hn'.1 hx)).2 (h x (by simp [hx])))
    rw [List.length_erase_of_mem hm] at ih
    have : 0 < m.length := List.length_pos_of_mem hm
    simp; omega
theorem same_len {l m : List Nat} (hl : l.Nodup) (hm : m.Nodup) (h : ∀ x, x ∈ l ↔ x ∈ m) : l.length = m.length :=
  Nat.le_antisymm (sub_len hl (fun x hx => (h x).1 hx)) (sub_len hm (fun x hx => (h x).2 hx))
theorem nodup_map {g : Nat → Nat} {n : Nat} (h : ∀ i, i < n → ∀ j, j < n → g i = g j → i = j) : ((List.range n).map g).Nodup := by
  unfold List.Nodup
  rw [List.pairwise_map]
  refine List.Pairwise.imp_of_mem ?_ (List.nodup_range (n := n))
  intro a b ha hb hne e
  exact hne (h a (List.mem_range.1 ha) b (List.mem_range.1 hb) e)

/-- The values of the first n numbers, each once. -/
def vals (h : Nat → Nat) : Nat → List Nat
  | 0 => []
  | n + 1 => if h n ∈ vals h n then vals h n else h n :: vals h n
theorem vals_nodup (h : Nat → Nat) : ∀ n, (vals h n).Nodup
  | 0 => by simp [vals]
  | n + 1 => by
    rw [vals]; split
    · exact vals_nodup h n
    · rename_i hn; exact List.nodup_cons.2 ⟨hn, vals_nodup h n⟩
theorem mem_vals (h : Nat → Nat) (y : Nat) : ∀ n, y ∈ vals h n ↔ ∃ x, x < n ∧ h x = y
  | 0 => by simp [vals]
  | n + 1 => by
    have ih := mem_vals h y n
    rw [vals]
    constructor
    · intro hy
      by_cases hm : h n ∈ vals h n
      · rw [if_pos hm] at hy
        obtain ⟨x, hx, e⟩ := ih.1 hy
        exact ⟨x, by omega, e⟩
      · rw [if_neg hm] at hy
        rcases List.mem_cons.1 hy with rfl | hy
        · exact ⟨n, by omega, rfl⟩
        · obtain ⟨x, hx, e⟩ := ih.1 hy
          exact ⟨x, by omega, e⟩
    · rintro ⟨x, hx, e⟩
      by_cases hxn : x = n
      · subst hxn; subst e
        split
        · assumption
        · simp
      · have := ih.2 ⟨x, by omega, e⟩
        split
        · exact this
        · exact List.mem_cons_of_mem _ this
/-- How many values the first n numbers have. -/
def nd (h : Nat → Nat) (n : Nat) : Nat := (vals h n).length
theorem nd_le (h : Nat → Nat) : ∀ n, nd h n ≤ n
  | 0 => by simp [nd, vals]
  | n + 1 => by
    have := nd_le h n
    unfold nd at *
    rw [vals]; split
    · omega
    · simp; omega

/-! ### rows put to rows -/
def sel (c : Nat → Bool) (a : Nat → Nat) (d : Nat) : Nat → Nat := fun k => if c k then a k ^^^ a d else a k
def swp (a : Nat → Nat) (d i : Nat) : Nat → Nat := fun k => if k = i then a d else if k = d then a i else a k
/-- What putting row d to the rows c does to what comes out. -/
def selV (c : Nat → Bool) (d y : Nat) : Nat := if y.testBit d then y ^^^ pk c 8 else y
theorem selV_lt {c : Nat → Bool} {d y : Nat} (hy : y < 256) : selV c d y < 256 := by
  unfold selV; split
  · exact xor_lt hy (pk8_lt c)
  · exact hy
theorem selV_selV {c : Nat → Bool} {d : Nat} (hd : d < 8) (hc : c d = false) (y : Nat) : selV c d (selV c d y) = y := by
  unfold selV
  by_cases h : y.testBit d = true
  · have h2 : (y ^^^ pk c 8).testBit d = true := by rw [Nat.testBit_xor, pk8_bit c hd, hc, h]; rfl
    rw [if_pos h, if_pos h2, Nat.xor_assoc, Nat.xor_self, Nat.xor_zero]
  · rw [if_neg h, if_neg h]
theorem ap_sel (c : Nat → Bool) (a : Nat → Nat) {d : Nat} (hd : d < 8) (x : Nat) : ap (sel c a d) x = selV c d (ap a x) := by
  refine byte_ext (ap_lt _ _) (selV_lt (ap_lt _ _)) (fun i hi => ?_)
  rw [ap_bit _ _ hi]
  unfold sel selV
  cases hc : c i
  · rw [if_neg (by simp)]
    by_cases h : (ap a x).testBit d = true
    · rw [if_pos h, Nat.testBit_xor, pk8_bit c hi, hc, ap_bit _ _ hi]; simp
    · rw [if_neg h, ap_bit _ _ hi]
  · rw [if_pos rfl, xor_dot]
    by_cases h : (ap a x).testBit d = true
    · rw [if_pos h, Nat.testBit_xor, pk8_bit c hi, hc, ap_bit _ _ hi]
      rw [ap_bit _ _ hd] at h; rw [h]
    · rw [if_neg h, ap_bit _ _ hi]
      rw [ap_bit _ _ hd] at h; rw [Bool.eq_false_iff.2 h]; simp
def swpV (d i y : Nat) : Nat := pk (fun k => if k = i then y.testBit d else if k = d then y.testBit i else y.testBit k) 8
theorem swpV_lt (d i y : Nat) : swpV d i y < 256 := pk8_lt _
theorem swpV_swpV {d i y : Nat} (hd : d < 8) (hi : i < 8) (hy : y < 256) : swpV d i (swpV d i y) = y := by
  refine byte_ext (pk8_lt _) hy (fun k hk => ?_)
  unfold swpV
  rw [pk8_bit _ hk]
  rw [pk8_bit _ hd, pk8_bit _ hi, pk8_bit _ hk]
  by_cases h1 : k = i
  · subst h1
    rw [if_pos rfl]
    by_cases h2 : d = k
    · subst h2; simp
    · simp [h2]
  · rw [if_neg h1]
    by_cases h2 : k = d
    · subst h2; simp
    · simp [h1, h2]
theorem ap_swp (a : Nat → Nat) {d i : Nat} (hd : d < 8) (hi : i < 8) (x : Nat) : ap (swp a d i) x = swpV d i (ap a x) := by
  refine byte_ext (ap_lt _ _) (pk8_lt _) (fun k hk => ?_)
  unfold swpV
  rw [pk8_bit _ hk, ap_bit _ _ hk, ap_bit _ _ hd, ap_bit _ _ hi, ap_bit _ _ hk]
  unfold swp
  by_cases h1 : k = i
  · rw [if_pos h1, if_pos h1]
  · rw [if_neg h1, if_neg h1]
    by_cases h2 : k = d
    · rw [if_pos h2, if_pos h2]
    · rw [if_neg h2, if_neg h2]

/-- The first row from d on with a bit in column j; 8 if there is none: looked for over n rows. -/
def rowF (m : Nat → Nat) (j : Nat) : Nat → Nat → Nat
  | 0, i => i
  | n + 1, i => if (m i).testBit j then i else rowF m j n (i + 1)
def rowW (m : Nat → Nat) (d j : Nat) : Nat := if d ≤ 8 then rowF m j (8 - d) d else 8
theorem rowF_spec (m : Nat → Nat) (j : Nat) : ∀ n i, i ≤ rowF m j n i ∧ rowF m j n i ≤ i + n ∧ (∀ k, i ≤ k → k < rowF m j n i → (m k).testBit j = false) ∧ (rowF m j n i < i + n → (m (rowF m j n i)).testBit j = true)
  | 0, i => ⟨Nat.le_refl _, Nat.le_refl _, fun k h1 h2 => by simp only [rowF] at h2; omega, fun h => by simp only [rowF] at h; omega⟩
  | n + 1, i => by
    have ih := rowF_spec m j n (i + 1)
    rw [rowF]
    split
    · rename_i h
      exact ⟨Nat.le_refl _, by omega, fun k h1 h2 => by omega, fun _ => h⟩
    · rename_i h
      obtain ⟨h1, h2, h3, h4⟩ := ih
      refine ⟨by omega, by omega, fun k k1 k2 => ?_, fun hh => h4 (by omega)⟩
      by_cases e : k = i
      · subst e; exact Bool.eq_false_iff.2 h
      · exact h3 k (by omega) k2
theorem rowW_spec (m : Nat → Nat) {d : Nat} (j : Nat) (hd : d ≤ 8) : d ≤ rowW m d j ∧ rowW m d j ≤ 8 ∧ (∀ k, d ≤ k → k < rowW m d j → (m k).testBit j = false) ∧ (rowW m d j < 8 → (m (rowW m d j)).testBit j = true) := by
  obtain ⟨h1, h2, h3, h4⟩ := rowF_spec m j (8 - d) d
  unfold rowW
  rw [if_pos hd]
  exact ⟨h1, by omega, h3, fun h => h4 (by omega)⟩

/-- Which rows row d is put to. -/
def cond (m : Nat → Nat) (d j : Nat) : Nat → Bool := fun k => decide (k ≠ d) && (m k).testBit j
/-- How far the work has come: columns up to j are done, d rows have a column of their own. -/
structure RInv (f m s : Nat → Nat) (d j : Nat) : Prop where
  dj : d ≤ j
  j8 : j ≤ 8
  bm : By m
  bs : By s
  steps : ∀ x, x < 256 → ap m x = ap s (ap f x)
  back : ∃ t : Nat → Nat, (∀ x, x < 256 → t x < 256) ∧ (∀ x, x < 256 → t (ap s x) = x) ∧ (∀ x, x < 256 → ap s (t x) = x)
  own : ∃ p : Nat → Nat, (∀ i, i < d → p i < j ∧ ∀ k, k < 8 → (m k).testBit (p i) = decide (k = i)) ∧ (d = j → ∀ i, i < d → p i = i)
  low : ∀ k, d ≤ k → k < 8 → ∀ c, c < j → (m k).testBit c = false

theorem RInv.start {f : Nat → Nat} (hf : By f) : RInv f f one 0 0 :=
  ⟨Nat.le_refl _, by omega, hf, one_by, fun x _ => (ap_one (ap_lt f x)).symm, ⟨id, fun _ h => h, fun x hx => ap_one hx, fun x hx => ap_one hx⟩, ⟨id, fun i h => by omega, fun _ i h => by omega⟩, fun _ _ _ c h => by omega⟩
theorem RInv.none {f m s : Nat → Nat} {d j : Nat} (h : RInv f m s d j) (hj : j < 8) (hr : rowW m d j = 8) : RInv f m s d (j + 1) := by
  obtain ⟨_, _, h3, _⟩ := rowW_spec m j (show d ≤ 8 from Nat.le_trans h.dj h.j8)
  obtain ⟨p, hp, _⟩ := h.own
  refine ⟨by have := h.dj; omega, by omega, h.bm, h.bs, h.steps, h.back, ⟨p, fun i hi => ⟨by have := (hp i hi).1; omega, (hp i hi).2⟩, fun e => by have := h.dj; omega⟩, fun k hk hk8 c hc => ?_⟩
  by_cases e : c = j
  · subst e; exact h3 k hk (by omega)
  · exact h.low k hk hk8 c (by omega)
theorem RInv.swap {f m s : Nat → Nat} {d j i : Nat} (h : RInv f m s d j) (hi : i < 8) (hd : d ≤ i) : RInv f (swp m d i) (swp s d i) d j := by
  have hd8 : d < 8 := by omega
  obtain ⟨t, t1, t2, t3⟩ := h.back
  obtain ⟨p, hp, hp2⟩ := h.own
  have by_swp : ∀ {a : Nat → Nat}, By a → By (swp a d i) := fun {a} ha k hk => by
    unfold swp; split
    · exact ha d hd8
    · split
      · exact ha i hi
      · exact ha k hk
  refine ⟨h.dj, h.j8, by_swp h.bm, by_swp h.bs, fun x hx => ?_, ⟨fun y => t (swpV d i y), fun x _ => t1 _ (swpV_lt _ _ _), fun x hx => ?_, fun x hx => ?_⟩, ⟨p, fun a ha => ⟨(hp a ha).1, fun k hk => ?_⟩, hp2⟩, fun k hk hk8 c hc => ?_⟩
  · rw [ap_swp m hd8 hi, ap_swp s hd8 hi, h.steps x hx]
  · dsimp only; rw [ap_swp s hd8 hi, swpV_swpV hd8 hi (ap_lt _ _), t2 x hx]
  · rw [ap_swp s hd8 hi, t3 _ (swpV_lt _ _ _), swpV_swpV hd8 hi hx]
  · have h1 := (hp a ha).2
    unfold swp
    by_cases e1 : k = i
    · subst e1; rw [if_pos rfl, h1 d hd8]; simp; omega
    · rw [if_neg e1]
      by_cases e2 : k = d
      · subst e2; rw [if_pos rfl, h1 i hi]; simp; omega
      · rw [if_neg e2, h1 k hk]
  · unfold swp
    split
    · exact h.low d (Nat.le_refl _) hd8 c hc
    · split
      · exact h.low i hd hi c hc
      · exact h.low k hk hk8 c hc
theorem RInv.clear {f m s : Nat → Nat} {d j : Nat} (h : RInv f m s d j) (hj : j < 8) (hb : (m d).testBit j = true) : RInv f (sel (cond m d j) m d) (sel (cond m d j) s d) (d + 1) (j + 1) := by
  have hdj := h.dj
  have hd8 : d < 8 := by omega
  obtain ⟨t, t1, t2, t3⟩ := h.back
  obtain ⟨p, hp, hp2⟩ := h.own
  have hcd : cond m d j d = false := by simp [cond]
  have by_sel : ∀ {a : Nat → Nat}, By a → By (sel (cond m d j) a d) := fun {a} ha k hk => by
    unfold sel; split
    · exact xor_lt (ha k hk) (ha d hd8)
    · exact ha k hk
  -- row d has no bit in another row's own column, nor in a column that is done
  have hdp : ∀ a, a < d → (m d).testBit (p a) = false := fun a ha => by rw [(hp a ha).2 d hd8]; simp; omega
  have hlow := h.low d (Nat.le_refl _) hd8
  have keep : ∀ k c, (m d).testBit c = false → (sel (cond m d j) m d k).testBit c = (m k).testBit c := fun k c hc => by
    unfold sel; split
    · rw [Nat.testBit_xor, hc]; simp
    · rfl
  have col : ∀ k, k < 8 → (sel (cond m d j) m d k).testBit j = decide (k = d) := fun k hk => by
    unfold sel
    by_cases e : k = d
    · subst e; rw [hcd]; simp [hb]
    · cases hm : (m k).testBit j
      · have : cond m d j k = false := by simp [cond, hm]
        rw [this, if_neg (by simp), hm]; simp [e]
      · have : cond m d j k = true := by simp [cond, hm, e]
        rw [this, if_pos rfl, Nat.testBit_xor, hm, hb]; simp [e]
  refine ⟨by omega, by omega, by_sel h.bm, by_sel h.bs, fun x hx => ?_, ⟨fun y => t (selV (cond m d j) d y), fun x hx => t1 _ (selV_lt hx), fun x hx => ?_, fun x hx => ?_⟩, ⟨fun a => if a = d then j else p a, fun a ha => ⟨?_, fun k hk => ?_⟩, fun e a ha => ?_⟩, fun k hk hk8 c hc => ?_⟩
  · rw [ap_sel _ m hd8, ap_sel _ s hd8, h.steps x hx]
  · dsimp only; rw [ap_sel _ s hd8, selV_selV hd8 hcd, t2 x hx]
  · rw [ap_sel _ s hd8, t3 _ (selV_lt hx), selV_selV hd8 hcd]
  · dsimp only; by_cases e : a = d
    · rw [if_pos e]; omega
    · rw [if_neg e]; have := (hp a (by omega)).1; omega
  · dsimp only; by_cases e : a = d
    · rw [if_pos e, col k hk, e]
    · rw [if_neg e, keep k _ (hdp a (by omega)), (hp a (by omega)).2 k hk]
  · dsimp only; by_cases e2 : a = d
    · rw [if_pos e2]; omega
    · rw [if_neg e2]; exact hp2 (by omega) a (by omega)
  · by_cases e : c = j
    · subst e; rw [col k hk8]; simp; omega
    · rw [keep k c (hlow c (by omega))]; exact h.low k (by omega) hk8 c (by omega)
/-- One column. -/
theorem RInv.some {f m s : Nat → Nat} {d j : Nat} (h : RInv f m s d j) (hj : j < 8) (hr : rowW m d j < 8) :
    RInv f (sel (cond (swp m d (rowW m d j)) d j) (swp m d (rowW m d j)) d) (sel (cond (swp m d (rowW m d j)) d j) (swp s d (rowW m d j)) d) (d + 1) (j + 1) := by
  obtain ⟨h1, _, _, h4⟩ := rowW_spec m j (show d ≤ 8 from Nat.le_trans h.dj h.j8)
  have := h.swap hr h1
  refine this.clear hj ?_
  unfold swp
  by_cases e : d = rowW m d j
  · rw [if_pos e]
    have := h4 hr
    rwa [← e] at this
  · rw [if_neg e, if_pos rfl]; exact h4 hr
theorem red_all {f : Nat → Nat} (hf : By f) : ∀ j, j ≤ 8 → ∃ m s d, RInv f m s d j
  | 0, _ => ⟨_, _, _, RInv.start hf⟩
  | j + 1, hj => by
    obtain ⟨m, s, d, h⟩ := red_all hf j (by omega)
    obtain ⟨_, h2, _, _⟩ := rowW_spec m j (show d ≤ 8 from Nat.le_trans h.dj h.j8)
    by_cases hr : rowW m d j = 8
    · exact ⟨_, _, _, h.none (by omega) hr⟩
    · exact ⟨_, _, _, h.some (by omega) (by omega)⟩
end Go.Proofs.YthhkhcacljgelaaGreat

/- Ranks of matrices of bits, inverses, what is turned into 0, powers. No program is named. -/
namespace Go.Proofs.YthhkhcacljgelaaGreat

/-! ### what is left when all columns are done -/
theorem RInv.zero {f m s : Nat → Nat} {d : Nat} (h : RInv f m s d 8) : ∀ k, d ≤ k → k < 8 → m k = 0 := fun k hk hk8 =>
  byte_ext (h.bm k hk8) (by decide) (fun c hc => by rw [h.low k hk hk8 c hc]; simp)
theorem RInv.nonzero {f m s : Nat → Nat} {d : Nat} (h : RInv f m s d 8) : ∀ k, k < d → m k ≠ 0 := fun k hk e => by
  obtain ⟨p, hp, _⟩ := h.own
  have h8 := h.dj
  have := (hp k hk).2 k (by omega)
  rw [e] at this
  simp at this
theorem RInv.image_lt {f m s : Nat → Nat} {d : Nat} (h : RInv f m s d 8) (x : Nat) : ap m x < 2 ^ d := by
  refine Nat.lt_of_not_le fun hge => ?_
  obtain ⟨i, hi, hb⟩ := Nat.exists_ge_and_testBit_of_ge_two_pow hge
  by_cases h8 : i < 8
  · rw [ap_bit _ _ h8, h.zero i hi h8, dot_comm, dot_zero] at hb
    cases hb
  · rw [bit_ge (ap_lt _ _) (by omega)] at hb
    cases hb
theorem RInv.image_all {f m s : Nat → Nat} {d : Nat} (h : RInv f m s d 8) {z : Nat} (hz : z < 2 ^ d) : ∃ x, x < 256 ∧ ap m x = z := by
  obtain ⟨p, hp, _⟩ := h.own
  have h8 : d ≤ 8 := h.dj
  have hz8 : z < 256 := Nat.lt_of_lt_of_le hz (Nat.pow_le_pow_right (by decide) h8)
  refine ⟨xsum (fun i => if z.testBit i then 2 ^ p i else 0) d, xsum_lt (fun i hi => ?_), byte_ext (ap_lt _ _) hz8 (fun k hk => ?_)⟩
  · split
    · exact two_lt _ (hp i hi).1
    · decide
  · rw [ap_bit _ _ hk, dot_comm, xsum_dot, bsum_one (j := k) (fun i hi hne => ?_)]
    · by_cases hkd : k < d
      · have := (hp k hkd).2 k hk
        cases hzk : z.testBit k
        · simp [hkd, dot_comm, dot_zero]
        · simp only [hkd, decide_true, Bool.true_and, if_true]
          rw [two_dot _ (hp k hkd).1, this]; simp
      · have : z.testBit k = false := Nat.testBit_lt_two_pow (Nat.lt_of_lt_of_le hz (Nat.pow_le_pow_right (by decide) (by omega)))
        simp [hkd, this]
    · cases hzi : z.testBit i
      · simp [dot_comm, dot_zero]
      · simp only [if_true]
        rw [two_dot _ (hp i hi).1, (hp i hi).2 k hk]; simp; omega
/-- As many bytes are told as 2 to the number of rows that are left. -/
theorem RInv.told {f m s : Nat → Nat} {d : Nat} (h : RInv f m s d 8) : nd (ap f) 256 = 2 ^ d := by
  obtain ⟨t, t1, t2, t3⟩ := h.back
  have hd : 2 ^ d ≤ 256 := Nat.pow_le_pow_right (by decide) (show d ≤ 8 from h.dj)
  have e := same_len (vals_nodup (ap f) 256) (m := (List.range (2 ^ d)).map t) (nodup_map (fun i hi j hj e => by
    rw [← t3 i (by omega), ← t3 j (by omega), e])) (fun y => ?_)
  · simpa [nd] using e
  · rw [mem_vals, List.mem_map]
    constructor
    · rintro ⟨x, hx, rfl⟩
      refine ⟨ap m x, List.mem_range.2 (h.image_lt x), ?_⟩
      rw [h.steps x hx, t2 _ (ap_lt _ _)]
    · rintro ⟨z, hz, rfl⟩
      obtain ⟨x, hx, e⟩ := h.image_all (List.mem_range.1 hz)
      refine ⟨x, hx, ?_⟩
      rw [h.steps x hx] at e
      rw [← e, t2 _ (ap_lt _ _)]

/-- The rank. -/
def rk (f : Nat → Nat) : Nat := (nd (ap f) 256).log2
theorem RInv.rank {f m s : Nat → Nat} {d : Nat} (h : RInv f m s d 8) : rk f = d := by
  unfold rk; rw [h.told, Nat.log2_two_pow]
theorem red_end {f : Nat → Nat} (hf : By f) : ∃ m s, RInv f m s (rk f) 8 := by
  obtain ⟨m, s, d, h⟩ := red_all hf 8 (Nat.le_refl _)
  have := h.rank
  exact ⟨m, s, by rw [this]; exact h⟩
theorem rk_le {f : Nat → Nat} (hf : By f) : rk f ≤ 8 := by
  obtain ⟨m, s, h⟩ := red_end hf
  exact h.dj
theorem nd_rk {f : Nat → Nat} (hf : By f) : nd (ap f) 256 = 2 ^ rk f := by
  obtain ⟨m, s, h⟩ := red_end hf
  exact h.told
theorem vals_ext {h g : Nat → Nat} : ∀ {n : Nat}, (∀ k, k < n → h k = g k) → vals h n = vals g n
  | 0, _ => rfl
  | n + 1, e => by rw [vals, vals, vals_ext (fun k hk => e k (by omega)), e n (by omega)]
theorem rk_ext {f g : Nat → Nat} (h : ∀ i, i < 8 → f i = g i) : rk f = rk g := by
  unfold rk nd; rw [vals_ext (fun x _ => ap_ext h x)]
theorem pow_le_inj {a b : Nat} (h : 2 ^ a ≤ 2 ^ b) : a ≤ b := by
  refine Nat.le_of_not_lt fun hlt => ?_
  have := Nat.pow_lt_pow_right (a := 2) (by decide) hlt
  omega
theorem rk_mu_le {f g : Nat → Nat} (hf : By f) (hg : By g) : rk (mu f g) ≤ rk f := by
  have h1 := nd_rk (mu_by f hg)
  have h2 := nd_rk hf
  refine pow_le_inj ?_
  rw [← h1, ← h2]
  refine sub_len (vals_nodup _ _) (fun y hy => ?_)
  rw [mem_vals] at hy ⊢
  obtain ⟨x, hx, rfl⟩ := hy
  exact ⟨ap g x, ap_lt _ _, (ap_mu f g x).symm⟩
/-- Rows as columns do not raise the rank. -/
theorem rk_flip_le {f : Nat → Nat} (hf : By f) : rk (flip f) ≤ rk f := by
  obtain ⟨m, s, h⟩ := red_end hf
  obtain ⟨t, t1, t2, t3⟩ := h.back
  have tlin : Lin t := fun x y hx hy => by
    have e : ap s (t x ^^^ t y) = x ^^^ y := by rw [ap_xor, t3 x hx, t3 y hy]
    rw [← e, t2 _ (xor_lt (t1 x hx) (t1 y hy))]
  have hT : ∀ x, x < 256 → ap (flip fun j => t (2 ^ j)) x = t x := fun x hx => ap_cols tlin t1 hx
  have key : ∀ y, y < 256 → ap (flip f) y = ap (flip m) (ap (flip (flip fun j => t (2 ^ j))) y % 2 ^ rk f) := fun y hy => by
    refine dot_ext (ap_lt _ _) (ap_lt _ _) (fun x hx => ?_)
    rw [← dot_flip, ← dot_flip]
    have e1 : ap f x = ap (flip fun j => t (2 ^ j)) (ap m x) := by rw [hT _ (ap_lt _ _), h.steps x hx, t2 _ (ap_lt _ _)]
    rw [e1, dot_flip]
    refine bsum_ext (fun k hk => ?_)
    by_cases hkd : k < rk f
    · rw [Nat.testBit_mod_two_pow]; simp [hkd]
    · rw [ap_bit m x hk, h.zero k (by omega) hk, dot_comm, dot_zero]; rfl
  have h1 := nd_rk (flip_by f)
  refine pow_le_inj ?_
  rw [← h1]
  have := sub_len (vals_nodup (ap (flip f)) 256) (m := (List.range (2 ^ rk f)).map (ap (flip m))) (fun y hy => by
    rw [mem_vals] at hy
    obtain ⟨x, hx, rfl⟩ := hy
    exact List.mem_map.2 ⟨_, List.mem_range.2 (Nat.mod_lt _ (Nat.two_pow_pos _)), (key x hx).symm⟩)
  simpa [nd] using this
theorem rk_flip {f : Nat → Nat} (hf : By f) : rk (flip f) = rk f := by
  refine Nat.le_antisymm (rk_flip_le hf) ?_
  have := rk_flip_le (flip_by f)
  rwa [rk_ext (flip_flip hf)] at this

/-! ### inverses -/
/-- The last of the first n bytes that is turned into y; is there one? -/
def lastx (f : Nat → Nat) (y : Nat) : Nat → Nat
  | 0 => 0
  | n + 1 => if ap f n = y then n else lastx f y n
def hits (f : Nat → Nat) (y : Nat) : Nat → Bool
  | 0 => false
  | n + 1 => if ap f n = y then true else hits f y n
theorem hits_iff (f : Nat → Nat) (y : Nat) : ∀ n, hits f y n = true ↔ ∃ x, x < n ∧ ap f x = y
  | 0 => by simp [hits]
  | n + 1 => by
    rw [hits]; split
    · rename_i h; exact ⟨fun _ => ⟨n, by omega, h⟩, fun _ => rfl⟩
    · rename_i h
      rw [hits_iff f y n]
      constructor
      · rintro ⟨x, hx, e⟩; exact ⟨x, by omega, e⟩
      · rintro ⟨x, hx, e⟩
        refine ⟨x, ?_, e⟩
        by_cases hxn : x = n
        · subst hxn; exact absurd e h
        · omega
theorem lastx_hit {f : Nat → Nat} {y : Nat} : ∀ {n}, hits f y n = true → ap f (lastx f y n) = y
  | 0, h => by simp [hits] at h
  | n + 1, h => by
    rw [lastx]; rw [hits] at h
    split
    · assumption
    · rename_i hn; rw [if_neg hn] at h; exact lastx_hit h
theorem lastx_lt (f : Nat → Nat) (y : Nat) : ∀ n, n ≤ 256 → lastx f y n < 256
  | 0, _ => by simp [lastx]
  | n + 1, h => by
    rw [lastx]; split
    · omega
    · exact lastx_lt f y n (by omega)
/-- What turns back. -/
def inv (f : Nat → Nat) : Nat → Nat := if rk f = 8 then flip (fun j => lastx f (2 ^ j) 256) else fun _ => 0
theorem lasts_by (f : Nat → Nat) : By (fun j => lastx f (2 ^ j) 256) := fun _ _ => lastx_lt f _ 256 (Nat.le_refl _)
theorem RInv.full {f m s : Nat → Nat} {d : Nat} (h : RInv f m s d 8) : d = 8 ↔ ∀ i, i < 8 → m i = one i := by
  constructor
  · intro e k hk
    subst e
    obtain ⟨p, hp, hp2⟩ := h.own
    refine byte_ext (h.bm k hk) (one_by k hk) (fun i hi => ?_)
    have h1 := (hp i hi).2 k hk
    rw [hp2 rfl i hi] at h1
    rw [h1]
    unfold one
    by_cases e : k = i
    · subst e; simp
    · rw [Nat.testBit_two_pow_of_ne e]; simp [e]
  · intro e
    have hd := h.dj
    refine Nat.le_antisymm hd (Nat.le_of_not_lt fun hlt => ?_)
    have h1 := h.zero d (Nat.le_refl _) hlt
    have h2 := e d hlt
    have h3 : 0 < 2 ^ d := Nat.two_pow_pos d
    unfold one at h2
    omega
/-- There is a turning back just if each power of 2 is hit. -/
theorem hits_all {f : Nat → Nat} (hf : By f) : (∀ j, j < 8 → hits f (2 ^ j) 256 = true) ↔ rk f = 8 := by
  obtain ⟨m, s, h⟩ := red_end hf
  constructor
  · intro hh
    have hsec : ∀ x, x < 256 → ap f (ap (flip (fun j => lastx f (2 ^ j) 256)) x) = x := fun x hx =>
      lin_ext (f := fun x => ap f (ap (flip (fun j => lastx f (2 ^ j) 256)) x)) (g := fun x => x) (fun x y _ _ => by simp only [ap_xor]) (fun _ _ _ _ => rfl)
        (fun j hj => by rw [ap_flip_two (lasts_by f) hj, lastx_hit (hh j hj)]) hx
    have h1 := nd_rk hf
    have h2 : (List.range 256).length ≤ nd (ap f) 256 := sub_len List.nodup_range (fun x hx => (mem_vals _ _ _).2 ⟨_, ap_lt _ _, hsec x (List.mem_range.1 hx)⟩)
    rw [h1, List.length_range] at h2
    exact Nat.le_antisymm (rk_le hf) (pow_le_inj (a := 8) h2)
  · intro e j hj
    have hone := h.full.1 e
    obtain ⟨t, t1, t2, t3⟩ := h.back
    have hfs : ∀ x, x < 256 → ap s (ap f x) = x := fun x hx => by rw [← h.steps x hx, ap_ext hone, ap_one hx]
    have hsf : ∀ y, y < 256 → ap f (ap s y) = y := fun y hy => by
      have := t2 _ (ap_lt f (ap s y))
      rw [hfs _ (ap_lt _ _), t2 y hy] at this
      exact this.symm
    exact (hits_iff _ _ _).2 ⟨ap s (2 ^ j), ap_lt _ _, hsf _ (two_lt j hj)⟩
theorem inv_right {f : Nat → Nat} (hf : By f) (hr : rk f = 8) : ∀ x, x < 256 → ap f (ap (inv f) x) = x := fun x hx => by
  have hh := (hits_all hf).2 hr
  unfold inv
  rw [if_pos hr]
  exact lin_ext (f := fun x => ap f (ap (flip (fun j => lastx f (2 ^ j) 256)) x)) (g := fun x => x) (fun x y _ _ => by simp only [ap_xor]) (fun _ _ _ _ => rfl)
        (fun j hj => by rw [ap_flip_two (lasts_by f) hj, lastx_hit (hh j hj)]) hx
theorem RInv.inv {f m s : Nat → Nat} (hf : By f) (h : RInv f m s 8 8) : ∀ i, i < 8 → s i = inv f i := by
  have hr : rk f = 8 := h.rank
  have hb : By (Proofs.YthhkhcacljgelaaGreat.inv f) := by unfold Proofs.YthhkhcacljgelaaGreat.inv; rw [if_pos hr]; exact flip_by _
  refine mat_ext h.bs hb (fun x hx => ?_)
  have h1 := h.steps _ (ap_lt (Proofs.YthhkhcacljgelaaGreat.inv f) x)
  rw [inv_right hf hr x hx, ap_ext (h.full.1 rfl), ap_one (ap_lt _ _)] at h1
  exact h1.symm
theorem inv_by (f : Nat → Nat) : By (inv f) := by
  unfold inv; split
  · exact flip_by _
  · intro i _; show 0 < 256; decide
theorem inv_left {f : Nat → Nat} (hf : By f) (hr : rk f = 8) : ∀ x, x < 256 → ap (inv f) (ap f x) = x := fun x hx => by
  obtain ⟨m, s, h⟩ := red_end hf
  rw [hr] at h
  rw [← ap_ext (h.inv hf), ← h.steps x hx, ap_ext (h.full.1 rfl), ap_one hx]
theorem mu_inv {f : Nat → Nat} (hf : By f) (hr : rk f = 8) : ∀ i, i < 8 → mu f (inv f) i = one i :=
  mat_ext (mu_by f (inv_by f)) one_by (fun x hx => by rw [ap_mu, inv_right hf hr x hx, ap_one hx])

/-! ### what is turned into 0 -/
def ker (f : Nat → Nat) (n : Nat) : List Nat := (List.range n).filter (fun x => ap f x = 0)
theorem mem_ker {f : Nat → Nat} {n x : Nat} : x ∈ ker f n ↔ x < n ∧ ap f x = 0 := by simp [ker]
theorem ker_succ (f : Nat → Nat) (n : Nat) : ker f (n + 1) = if ap f n = 0 then ker f n ++ [n] else ker f n := by
  unfold ker
  rw [List.range_succ, List.filter_append]
  split
  · rename_i h; simp [h]
  · rename_i h; simp [h]
theorem ker_sorted (f : Nat → Nat) (n : Nat) : (ker f n).Pairwise (· < ·) := List.Pairwise.filter _ List.pairwise_lt_range
theorem getD_in {l : List Nat} {i : Nat} (h : i < l.length) : l.getD i 0 = l[i] := by simp [List.getD, h]
theorem xor_cancel {a b c : Nat} (h : a ^^^ b = c) : a = c ^^^ b := by rw [← h, Nat.xor_assoc, Nat.xor_self, Nat.xor_zero]
theorem ker_len {f : Nat → Nat} (hf : By f) : (ker f 256).length = 2 ^ (8 - rk f) := by
  obtain ⟨m, s, h⟩ := red_end hf
  have hr := rk_le hf
  obtain ⟨t, t1, t2, t3⟩ := h.back
  have pre : ∀ z, ∃ x, z < 2 ^ rk f → x < 256 ∧ ap m x = z := fun z => by
    by_cases hz : z < 2 ^ rk f
    · obtain ⟨x, hx⟩ := h.image_all hz; exact ⟨x, fun _ => hx⟩
    · exact ⟨0, fun hz' => absurd hz' hz⟩
  obtain ⟨X, hX⟩ := Classical.axiomOfChoice pre
  have hker : ∀ x, x < 256 → (ap f x = 0 ↔ ap m x = 0) := fun x hx => by
    rw [h.steps x hx]
    constructor
    · intro e; rw [e, ap_zero]
    · intro e
      have h1 := t2 _ (ap_lt f x)
      rw [e] at h1
      have h2 := t2 0 (by decide)
      rw [ap_zero] at h2
      rw [← h1, h2]
  have hkl : ∀ i, i < (ker f 256).length → (ker f 256).getD i 0 < 256 ∧ ap m ((ker f 256).getD i 0) = 0 := fun i hi => by
    have : (ker f 256).getD i 0 ∈ ker f 256 := by rw [getD_in hi]; exact List.getElem_mem hi
    obtain ⟨h1, h2⟩ := mem_ker.1 this
    exact ⟨h1, (hker _ h1).1 h2⟩
  have kinj : ∀ i, i < (ker f 256).length → ∀ j, j < (ker f 256).length → (ker f 256).getD i 0 = (ker f 256).getD j 0 → i = j := fun i hi j hj e => by
    have hn := List.pairwise_iff_getElem.1 (ker_sorted f 256)
    rw [getD_in hi, getD_in hj] at e
    rcases Nat.lt_trichotomy i j with h1 | h1 | h1
    · have := hn i j hi hj h1; omega
    · exact h1
    · have := hn j i hj hi h1; omega
  generalize hL : (ker f 256).length = L at hkl kinj
  have hLp : 0 < L := by
    rw [← hL]; exact List.length_pos_of_mem (mem_ker.2 ⟨by decide, ap_zero f⟩)
  have hGm : ∀ i, i < 2 ^ rk f * L → i / L < 2 ^ rk f := fun i hi => Nat.div_lt_of_lt_mul (by rwa [Nat.mul_comm] at hi)
  have hGa : ∀ i, i < 2 ^ rk f * L → ap m ((ker f 256).getD (i % L) 0 ^^^ X (i / L)) = i / L := fun i hi => by
    rw [ap_xor, (hkl _ (Nat.mod_lt _ hLp)).2, (hX _ (hGm i hi)).2, Nat.zero_xor]
  have e := same_len (l := (List.range (2 ^ rk f * L)).map (fun i => (ker f 256).getD (i % L) 0 ^^^ X (i / L))) (m := List.range 256) (nodup_map (fun i hi j hj e => ?_)) List.nodup_range (fun y => ?_)
  · simp only [List.length_map, List.length_range] at e
    have h8 : 2 ^ rk f * 2 ^ (8 - rk f) = 256 := by rw [← Nat.pow_add, show rk f + (8 - rk f) = 8 by omega]
    exact Nat.eq_of_mul_eq_mul_left (Nat.two_pow_pos (rk f)) (e.trans h8.symm)
  · have hd : i / L = j / L := by rw [← hGa i hi, ← hGa j hj, e]
    rw [hd] at e
    have h2 : (ker f 256).getD (i % L) 0 = (ker f 256).getD (j % L) 0 := by
      have := xor_cancel e
      rwa [Nat.xor_assoc, Nat.xor_self, Nat.xor_zero] at this
    have h3 := kinj _ (Nat.mod_lt _ hLp) _ (Nat.mod_lt _ hLp) h2
    rw [← Nat.div_add_mod i L, ← Nat.div_add_mod j L, hd, h3]
  · rw [List.mem_map, List.mem_range]
    constructor
    · rintro ⟨i, hi, rfl⟩
      have hi := List.mem_range.1 hi
      exact xor_lt (hkl _ (Nat.mod_lt _ hLp)).1 (hX _ (hGm i hi)).1
    · intro hy
      have hz : ap m y < 2 ^ rk f := h.image_lt y
      obtain ⟨hx1, hx2⟩ := hX _ hz
      have hk : y ^^^ X (ap m y) ∈ ker f 256 := by
        refine mem_ker.2 ⟨xor_lt hy hx1, (hker _ (xor_lt hy hx1)).2 ?_⟩
        rw [ap_xor, hx2, Nat.xor_self]
      obtain ⟨a, ha, e⟩ := List.getElem_of_mem hk
      rw [hL] at ha
      refine ⟨L * ap m y + a, List.mem_range.2 ?_, ?_⟩
      · have : L * (ap m y + 1) ≤ L * 2 ^ rk f := Nat.mul_le_mul_left _ hz
        rw [Nat.mul_add] at this
        rw [Nat.mul_comm (2 ^ rk f)]; omega
      · have hdiv : (L * ap m y + a) / L = ap m y := by rw [Nat.mul_add_div hLp, Nat.div_eq_of_lt ha]; omega
        have hmod : (L * ap m y + a) % L = a := by rw [Nat.mul_add_mod, Nat.mod_eq_of_lt ha]
        rw [hdiv, hmod, getD_in (by omega), e, Nat.xor_assoc, Nat.xor_self, Nat.xor_zero]

/-! ### again and again -/
def it (f : Nat → Nat) : Nat → Nat → Nat
  | 0, x => x
  | n + 1, x => ap f (it f n x)
theorem it_lt (f : Nat → Nat) {x : Nat} (hx : x < 256) : ∀ n, it f n x < 256
  | 0 => hx
  | _ + 1 => ap_lt _ _
theorem it_mu (f : Nat → Nat) (x : Nat) : ∀ n, it (mu f f) n x = it f (2 * n) x
  | 0 => rfl
  | n + 1 => by
    rw [it, it_mu f x n, ap_mu]
    rfl
/-- Where a power stands: what is done, what is left. -/
def PInv (f g h : Nat → Nat) (N n : Nat) : Prop := By g ∧ By h ∧ ∀ x, x < 256 → ap g (it h n x) = it f N x
theorem PInv.start {f : Nat → Nat} (hf : By f) (N : Nat) : PInv f one f N N := ⟨one_by, hf, fun _ hx => ap_one (it_lt f hx N)⟩
theorem PInv.odd {f g h : Nat → Nat} {N n : Nat} (p : PInv f g h N n) (ho : n % 2 = 1) : PInv f (mu g h) (mu h h) N (n / 2) := by
  obtain ⟨h1, h2, h3⟩ := p
  refine ⟨mu_by g h2, mu_by h h2, fun x hx => ?_⟩
  rw [it_mu, ap_mu, ← h3 x hx]
  have e : n = 2 * (n / 2) + 1 := by omega
  conv => rhs; rw [e]
  rfl
theorem PInv.even {f g h : Nat → Nat} {N n : Nat} (p : PInv f g h N n) (ho : n % 2 ≠ 1) : PInv f g (mu h h) N (n / 2) := by
  obtain ⟨h1, h2, h3⟩ := p
  refine ⟨h1, mu_by h h2, fun x hx => ?_⟩
  rw [it_mu, ← h3 x hx]
  have e : n = 2 * (n / 2) := by omega
  conv => rhs; rw [e]
theorem PInv.done {f g h : Nat → Nat} {N : Nat} (p : PInv f g h N 0) : ∀ x, x < 256 → ap g x = it f N x := p.2.2
end Go.Proofs.YthhkhcacljgelaaGreat
