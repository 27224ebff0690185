/- Matrices of bits as plain numbers: what they turn bytes into, products, rows as columns, ranks. No program is named. -/
import Derived.Test.YtnklljlgghenpaaGfm
namespace Go.Proofs.Ytnklljlgghenpaa

/-! ### sums of bits -/
def bsum (h : Nat → Bool) : Nat → Bool
  | 0 => false
  | k + 1 => xor (bsum h k) (h k)
theorem bsum_ext {h g : Nat → Bool} : ∀ {n : Nat}, (∀ k, k < n → h k = g k) → bsum h n = bsum g n
  | 0, _ => rfl
  | n + 1, e => by rw [bsum, bsum, bsum_ext (fun k hk => e k (by omega)), e n (by omega)]
theorem bsum_xor (h g : Nat → Bool) : ∀ n, bsum (fun k => xor (h k) (g k)) n = xor (bsum h n) (bsum g n)
  | 0 => rfl
  | n + 1 => by
    rw [bsum, bsum, bsum, bsum_xor h g n]
    cases bsum h n <;> cases bsum g n <;> cases h n <;> cases g n <;> rfl
theorem bsum_false : ∀ n, bsum (fun _ => false) n = false
  | 0 => rfl
  | n + 1 => by rw [bsum, bsum_false n]; rfl
theorem bsum_and (a : Bool) (h : Nat → Bool) : ∀ n, bsum (fun k => a && h k) n = (a && bsum h n)
  | 0 => by simp [bsum]
  | n + 1 => by
    rw [bsum, bsum, bsum_and a h n]
    cases a <;> cases bsum h n <;> cases h n <;> rfl
theorem bsum_comm (h : Nat → Nat → Bool) (n : Nat) : ∀ m, bsum (fun i => bsum (fun j => h i j) n) m = bsum (fun j => bsum (fun i => h i j) m) n
  | 0 => (bsum_false n).symm
  | m + 1 => by
    rw [bsum, bsum_comm h n m, ← bsum_xor]
    rfl
theorem bsum_one {h : Nat → Bool} {j : Nat} : ∀ {n : Nat}, (∀ k, k < n → k ≠ j → h k = false) → bsum h n = (decide (j < n) && h j)
  | 0, _ => by simp [bsum]
  | n + 1, e => by
    rw [bsum, bsum_one (fun k hk => e k (by omega))]
    by_cases hj : n = j
    · subst hj; simp
    · rw [e n (by omega) hj]
      by_cases h1 : j < n
      · simp [h1, show j < n + 1 by omega]
      · simp [h1, show ¬ j < n + 1 by omega]

/-! ### a byte put together out of bits -/
def pk (p : Nat → Bool) : Nat → Nat
  | 0 => 0
  | k + 1 => pk p k + (if p k then 2 ^ k else 0)
theorem pk_lt (p : Nat → Bool) : ∀ n, pk p n < 2 ^ n
  | 0 => by simp [pk]
  | n + 1 => by
    have := pk_lt p n
    rw [pk, Nat.pow_succ]
    split <;> omega
theorem pk_bit (p : Nat → Bool) : ∀ n i, (pk p n).testBit i = (decide (i < n) && p i)
  | 0, i => by simp [pk]
  | n + 1, i => by
    have hl := pk_lt p n
    rw [pk]
    by_cases hp : p n = true
    · rw [if_pos hp, Nat.add_comm]
      by_cases hi : i = n
      · subst hi
        rw [Nat.testBit_two_pow_add_eq, pk_bit p i i]; simp [hp]
      · by_cases h1 : i < n
        · rw [Nat.testBit_two_pow_add_gt h1, pk_bit p n i]
          simp [h1, show i < n + 1 by omega]
        · have hlt : 2 ^ n + pk p n < 2 ^ i := Nat.lt_of_lt_of_le (by rw [Nat.pow_succ]; omega) (Nat.pow_le_pow_right (by decide) (show n + 1 ≤ i by omega))
          rw [Nat.testBit_lt_two_pow hlt]
          simp [show ¬ i < n + 1 by omega]
    · rw [if_neg hp, Nat.add_zero, pk_bit p n i]
      by_cases hi : i = n
      · subst hi; simp [hp]
      · by_cases h1 : i < n
        · simp [h1, show i < n + 1 by omega]
        · simp [h1, show ¬ i < n + 1 by omega]
theorem pk8_lt (p : Nat → Bool) : pk p 8 < 256 := pk_lt p 8
theorem pk8_bit (p : Nat → Bool) {i : Nat} (hi : i < 8) : (pk p 8).testBit i = p i := by rw [pk_bit]; simp [hi]
theorem pk_ext {p q : Nat → Bool} : ∀ {n : Nat}, (∀ i, i < n → p i = q i) → pk p n = pk q n
  | 0, _ => rfl
  | n + 1, e => by rw [pk, pk, pk_ext (fun k hk => e k (by omega)), e n (by omega)]
theorem byte_ext {a b : Nat} (ha : a < 256) (hb : b < 256) (h : ∀ i, i < 8 → a.testBit i = b.testBit i) : a = b := by
  apply Nat.eq_of_testBit_eq
  intro i
  by_cases hi : i < 8
  · exact h i hi
  · have hp : 2 ^ 8 ≤ 2 ^ i := Nat.pow_le_pow_right (by decide) (by omega)
    rw [Nat.testBit_lt_two_pow (show a < 2 ^ i by omega), Nat.testBit_lt_two_pow (show b < 2 ^ i by omega)]
theorem bit_ge {a i : Nat} (ha : a < 256) (hi : 8 ≤ i) : a.testBit i = false := by
  have hp : 2 ^ 8 ≤ 2 ^ i := Nat.pow_le_pow_right (by decide) hi
  exact Nat.testBit_lt_two_pow (show a < 2 ^ i by omega)
theorem pk_self {a : Nat} (ha : a < 256) : pk (fun i => a.testBit i) 8 = a := byte_ext (pk8_lt _) ha (fun _ hi => pk8_bit _ hi)

/-! ### bits that two bytes have both -/
def dot (a x : Nat) : Bool := bsum (fun k => a.testBit k && x.testBit k) 8
theorem dot_comm (a x : Nat) : dot a x = dot x a := bsum_ext (fun _ _ => Bool.and_comm _ _)
theorem dot_xor (a x y : Nat) : dot a (x ^^^ y) = xor (dot a x) (dot a y) := by
  unfold dot
  rw [← bsum_xor]
  refine bsum_ext (fun k _ => ?_)
  rw [Nat.testBit_xor]
  cases a.testBit k <;> cases x.testBit k <;> cases y.testBit k <;> rfl
theorem xor_dot (a b x : Nat) : dot (a ^^^ b) x = xor (dot a x) (dot b x) := by rw [dot_comm, dot_xor, dot_comm x a, dot_comm x b]
theorem dot_zero (a : Nat) : dot a 0 = false := by
  unfold dot
  rw [show (fun k => a.testBit k && (0 : Nat).testBit k) = fun _ => false by funext k; simp]
  exact bsum_false 8
theorem dot_two (a : Nat) {j : Nat} (hj : j < 8) : dot a (2 ^ j) = a.testBit j := by
  unfold dot
  rw [bsum_one (j := j) (fun k _ hk => by rw [Nat.testBit_two_pow_of_ne (fun e => hk e.symm)]; simp)]
  rw [Nat.testBit_two_pow_self]; simp [hj]
theorem two_dot (a : Nat) {j : Nat} (hj : j < 8) : dot (2 ^ j) a = a.testBit j := by rw [dot_comm, dot_two a hj]
/-- Bytes that meet every byte alike are one. -/
theorem dot_ext {a b : Nat} (ha : a < 256) (hb : b < 256) (h : ∀ x, x < 256 → dot x a = dot x b) : a = b :=
  byte_ext ha hb (fun i hi => by rw [← two_dot a hi, ← two_dot b hi]; exact h _ (two_lt i hi))

/-! ### what a matrix turns a byte into -/
def By (f : Nat → Nat) : Prop := ∀ i, i < 8 → f i < 256
def ap (f : Nat → Nat) (x : Nat) : Nat := pk (fun i => dot (f i) x) 8
theorem ap_lt (f : Nat → Nat) (x : Nat) : ap f x < 256 := pk8_lt _
theorem ap_bit (f : Nat → Nat) (x : Nat) {i : Nat} (hi : i < 8) : (ap f x).testBit i = dot (f i) x := pk8_bit _ hi
theorem ap_ext {f g : Nat → Nat} (h : ∀ i, i < 8 → f i = g i) (x : Nat) : ap f x = ap g x := pk_ext (fun i hi => by rw [h i hi])
theorem ap_xor (f : Nat → Nat) (x y : Nat) : ap f (x ^^^ y) = ap f x ^^^ ap f y :=
  byte_ext (ap_lt _ _) (xor_lt (ap_lt _ _) (ap_lt _ _)) (fun i hi => by rw [Nat.testBit_xor, ap_bit _ _ hi, ap_bit _ _ hi, ap_bit _ _ hi, dot_xor])
theorem ap_lin (f : Nat → Nat) : Lin (ap f) := fun x y _ _ => ap_xor f x y
theorem ap_zero (f : Nat → Nat) : ap f 0 = 0 := byte_ext (ap_lt _ _) (by decide) (fun i hi => by rw [ap_bit _ _ hi, dot_zero]; simp)
/-- Matrices that turn alike are one. -/
theorem mat_ext {f g : Nat → Nat} (hf : By f) (hg : By g) (h : ∀ x, x < 256 → ap f x = ap g x) : ∀ i, i < 8 → f i = g i := fun i hi =>
  byte_ext (hf i hi) (hg i hi) (fun j hj => by rw [← dot_two (f i) hj, ← dot_two (g i) hj, ← ap_bit f _ hi, ← ap_bit g _ hi, h _ (two_lt j hj)])

def one : Nat → Nat := fun i => 2 ^ i
theorem one_by : By one := fun i hi => two_lt i hi
theorem ap_one {x : Nat} (hx : x < 256) : ap one x = x := byte_ext (ap_lt _ _) hx (fun i hi => by rw [ap_bit _ _ hi]; exact two_dot x hi)

/-! ### rows as columns -/
def flip (f : Nat → Nat) : Nat → Nat := fun j => pk (fun i => (f i).testBit j) 8
theorem flip_by (f : Nat → Nat) : By (flip f) := fun _ _ => pk8_lt _
theorem flip_bit (f : Nat → Nat) (j : Nat) {i : Nat} (hi : i < 8) : (flip f j).testBit i = (f i).testBit j := pk8_bit _ hi
theorem flip_flip {f : Nat → Nat} (hf : By f) : ∀ i, i < 8 → flip (flip f) i = f i := fun i hi =>
  byte_ext (flip_by _ i hi) (hf i hi) (fun j hj => by rw [flip_bit _ _ hj, flip_bit _ _ hi])
theorem flip_ext {f g : Nat → Nat} (h : ∀ i, i < 8 → f i = g i) (j : Nat) : flip f j = flip g j := pk_ext (fun i hi => by rw [h i hi])
theorem ap_flip_two {c : Nat → Nat} (hc : By c) {j : Nat} (hj : j < 8) : ap (flip c) (2 ^ j) = c j :=
  byte_ext (ap_lt _ _) (hc j hj) (fun i hi => by rw [ap_bit _ _ hi, dot_two _ hj, flip_bit _ _ hj])
/-- What keeps sums is a matrix's turning. -/
theorem ap_cols {t : Nat → Nat} (ht : Lin t) (hb : ∀ x, x < 256 → t x < 256) {x : Nat} (hx : x < 256) : ap (flip (fun j => t (2 ^ j))) x = t x :=
  lin_ext (ap_lin _) ht (fun _ hj => ap_flip_two (fun i hi => hb _ (two_lt i hi)) hj) hx
/-- Rows as columns: the other side of the meeting. -/
theorem dot_flip (f : Nat → Nat) (x y : Nat) : dot (ap f x) y = dot x (ap (flip f) y) := by
  have e1 : dot (ap f x) y = bsum (fun i => bsum (fun j => ((f i).testBit j && x.testBit j) && y.testBit i) 8) 8 := by
    refine bsum_ext (fun i hi => ?_)
    rw [ap_bit _ _ hi, Bool.and_comm]
    unfold dot
    rw [← bsum_and]
    exact bsum_ext (fun j _ => Bool.and_comm _ _)
  have e2 : dot x (ap (flip f) y) = bsum (fun j => bsum (fun i => ((f i).testBit j && x.testBit j) && y.testBit i) 8) 8 := by
    refine bsum_ext (fun j hj => ?_)
    rw [ap_bit _ _ hj]
    unfold dot
    rw [← bsum_and]
    refine bsum_ext (fun i hi => ?_)
    rw [flip_bit _ _ hi]
    cases (f i).testBit j <;> cases x.testBit j <;> cases y.testBit i <;> rfl
  rw [e1, e2, bsum_comm]

/-! ### products -/
def xsum (h : Nat → Nat) : Nat → Nat
  | 0 => 0
  | k + 1 => xsum h k ^^^ h k
theorem xsum_lt {h : Nat → Nat} : ∀ {n : Nat}, (∀ k, k < n → h k < 256) → xsum h n < 256
  | 0, _ => by simp [xsum]
  | n + 1, e => xor_lt (xsum_lt (fun k hk => e k (by omega))) (e n (by omega))
theorem xsum_bit (h : Nat → Nat) (i : Nat) : ∀ n, (xsum h n).testBit i = bsum (fun k => (h k).testBit i) n
  | 0 => by simp [xsum, bsum]
  | n + 1 => by rw [xsum, Nat.testBit_xor, xsum_bit h i n]; rfl
theorem xsum_dot (h : Nat → Nat) (x : Nat) : ∀ n, dot (xsum h n) x = bsum (fun k => dot (h k) x) n
  | 0 => by rw [xsum, dot_comm, dot_zero]; rfl
  | n + 1 => by rw [xsum, xor_dot, xsum_dot h x n]; rfl
def mu (f g : Nat → Nat) : Nat → Nat := fun i => xsum (fun k => if (f i).testBit k then g k else 0) 8
theorem mu_by (f : Nat → Nat) {g : Nat → Nat} (hg : By g) : By (mu f g) := fun i _ => xsum_lt (fun k hk => by split; exact hg k hk; decide)
theorem ap_mu (f g : Nat → Nat) (x : Nat) : ap (mu f g) x = ap f (ap g x) := by
  refine byte_ext (ap_lt _ _) (ap_lt _ _) (fun i hi => ?_)
  rw [ap_bit _ _ hi, ap_bit _ _ hi]
  unfold mu
  rw [xsum_dot]
  refine bsum_ext (fun k hk => ?_)
  rw [ap_bit _ _ hk]
  cases h : (f i).testBit k
  · rw [if_neg (by simp), dot_comm, dot_zero]; rfl
  · rw [if_pos rfl]; rfl
/-- The document's product. -/
theorem mu_cols {f g : Nat → Nat} (hg : By g) : ∀ i, i < 8 → flip (fun j => ap f (ap g (2 ^ j))) i = mu f g i :=
  mat_ext (flip_by _) (mu_by f hg) (fun x hx => by
    rw [ap_cols (t := fun x => ap f (ap g x)) (fun x y _ _ => by simp only [ap_xor]) (fun _ _ => ap_lt _ _) hx, ap_mu])
end Go.Proofs.Ytnklljlgghenpaa
