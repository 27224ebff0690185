/- Keccak's permutation, as numbers: words below 2^64 by place x + 5 y. No program is named. -/
namespace Go.Proofs.Ytffoinnllihdeaa

/-- A word, rotated to the left by m. -/
def rt (x m : Nat) : Nat := x * 2 ^ m % 2 ^ 64 ||| x / 2 ^ (64 - m)
theorem rt_lt {x m : Nat} (hx : x < 2 ^ 64) : rt x m < 2 ^ 64 := by
  unfold rt
  exact Nat.or_lt_two_pow (Nat.mod_lt _ (by decide)) (Nat.lt_of_le_of_lt (Nat.div_le_self _ _) hx)
theorem bit_none {x j : Nat} (hx : x < 2 ^ 64) (hj : 64 ≤ j) : x.testBit j = false :=
  Nat.testBit_lt_two_pow (Nat.lt_of_lt_of_le hx (Nat.pow_le_pow_right (by decide) hj))
theorem rt_bit {x m j : Nat} (hx : x < 2 ^ 64) (hm : m ≤ 64) (hj : j < 64) : (rt x m).testBit j = x.testBit ((j + (64 - m)) % 64) := by
  unfold rt
  rw [Nat.testBit_or, Nat.testBit_mod_two_pow, Nat.testBit_mul_two_pow, Nat.testBit_div_two_pow]
  simp only [hj, decide_true, Bool.true_and]
  by_cases h : m ≤ j
  · rw [show (j + (64 - m)) % 64 = j - m by omega]
    by_cases h0 : m = 0
    · subst h0
      rw [bit_none hx (show 64 ≤ j + (64 - 0) by omega)]
      simp
    · rw [bit_none hx (show 64 ≤ j + (64 - m) by omega)]
      simp [h]
  · rw [show (j + (64 - m)) % 64 = j + (64 - m) by omega]
    simp [h]
theorem word_ext {x y : Nat} (hx : x < 2 ^ 64) (hy : y < 2 ^ 64) (h : ∀ j, j < 64 → x.testBit j = y.testBit j) : x = y :=
  Nat.eq_of_testBit_eq fun j => by
    by_cases hj : j < 64
    · exact h j hj
    · rw [bit_none hx (by omega), bit_none hy (by omega)]
theorem rt_zero {x : Nat} (hx : x < 2 ^ 64) : rt x 0 = x := word_ext (rt_lt hx) hx fun j hj => by rw [rt_bit hx (by omega) hj, show (j + (64 - 0)) % 64 = j by omega]
theorem rt_full {x : Nat} (hx : x < 2 ^ 64) : rt x 64 = x := word_ext (rt_lt hx) hx fun j hj => by rw [rt_bit hx (by omega) hj, show (j + (64 - 64)) % 64 = j by omega]
theorem rt_rt {x a b c : Nat} (hx : x < 2 ^ 64) (ha : a ≤ 64) (hb : b ≤ 64) (hc : c ≤ 64) (h : c % 64 = (a + b) % 64) : rt (rt x a) b = rt x c :=
  word_ext (rt_lt (rt_lt hx)) (rt_lt hx) fun j hj => by
    rw [rt_bit (rt_lt hx) hb hj, rt_bit hx ha (Nat.mod_lt _ (by decide)), rt_bit hx hc hj]
    congr 1; omega
theorem rt_xor {x y m : Nat} (hx : x < 2 ^ 64) (hy : y < 2 ^ 64) (hm : m ≤ 64) : rt (x ^^^ y) m = rt x m ^^^ rt y m :=
  word_ext (rt_lt (Nat.xor_lt_two_pow hx hy)) (Nat.xor_lt_two_pow (rt_lt hx) (rt_lt hy)) fun j hj => by
    rw [Nat.testBit_xor, rt_bit (Nat.xor_lt_two_pow hx hy) hm hj, rt_bit hx hm hj, rt_bit hy hm hj, Nat.testBit_xor]

/-- A state: 25 words. -/
def W25 (f : Nat → Nat) : Prop := ∀ i, i < 25 → f i < 2 ^ 64
/-- Two states are one. -/
def Eq25 (f g : Nat → Nat) : Prop := ∀ i, i < 25 → f i = g i
theorem Eq25.refl (f : Nat → Nat) : Eq25 f f := fun _ _ => rfl
theorem Eq25.symm {f g : Nat → Nat} (h : Eq25 f g) : Eq25 g f := fun i hi => (h i hi).symm
theorem Eq25.trans {f g k : Nat → Nat} (h : Eq25 f g) (h' : Eq25 g k) : Eq25 f k := fun i hi => (h i hi).trans (h' i hi)
/-- Two states, put together. -/
def sm (f g : Nat → Nat) : Nat → Nat := fun i => f i ^^^ g i
theorem sm_w {f g : Nat → Nat} (hf : W25 f) (hg : W25 g) : W25 (sm f g) := fun i hi => Nat.xor_lt_two_pow (hf i hi) (hg i hi)
theorem xr_left (a b c : Nat) : a ^^^ (b ^^^ c) = b ^^^ (a ^^^ c) := by rw [← Nat.xor_assoc, Nat.xor_comm a b, Nat.xor_assoc]
theorem xr_can (a b : Nat) : a ^^^ (a ^^^ b) = b := by rw [← Nat.xor_assoc, Nat.xor_self, Nat.zero_xor]

/-! ### theta -/
/-- The sum of a column. -/
def co (f : Nat → Nat) (x : Nat) : Nat := f x ^^^ f (x + 5) ^^^ f (x + 10) ^^^ f (x + 15) ^^^ f (x + 20)
/-- A map of the columns' sums c, laid onto each word of its column. -/
def ly (f : Nat → Nat) (c : Nat → Nat) : Nat → Nat := fun i => f i ^^^ c (i % 5)
/-- What theta lays: the columns k ahead, and k behind, that rotated by k. -/
def ek (k : Nat) (c : Nat → Nat) : Nat → Nat := fun x => c ((x + 4 * k) % 5) ^^^ rt (c ((x + k) % 5)) (k % 64)
def th (f : Nat → Nat) : Nat → Nat := ly f (ek 1 (co f))
/-- Five words. -/
def W5 (c : Nat → Nat) : Prop := ∀ x, x < 5 → c x < 2 ^ 64
theorem co_w {f : Nat → Nat} (hf : W25 f) : W5 (co f) := fun x hx =>
  Nat.xor_lt_two_pow (Nat.xor_lt_two_pow (Nat.xor_lt_two_pow (Nat.xor_lt_two_pow (hf _ (by omega)) (hf _ (by omega))) (hf _ (by omega))) (hf _ (by omega))) (hf _ (by omega))
theorem ek_w {c : Nat → Nat} (hc : W5 c) (k : Nat) : W5 (ek k c) := fun x _ => Nat.xor_lt_two_pow (hc _ (Nat.mod_lt _ (by decide))) (rt_lt (hc _ (Nat.mod_lt _ (by decide))))
theorem ly_w {f c : Nat → Nat} (hf : W25 f) (hc : W5 c) : W25 (ly f c) := fun i hi => Nat.xor_lt_two_pow (hf i hi) (hc _ (Nat.mod_lt _ (by decide)))
theorem th_w {f : Nat → Nat} (hf : W25 f) : W25 (th f) := ly_w hf (ek_w (co_w hf) 1)
theorem co_e {f g : Nat → Nat} (h : Eq25 f g) : ∀ x, x < 5 → co f x = co g x := fun x hx => by
  unfold co; rw [h _ (by omega), h _ (by omega), h _ (by omega), h _ (by omega), h _ (by omega)]
theorem ek_e {c c' : Nat → Nat} (h : ∀ x, x < 5 → c x = c' x) (k : Nat) : ∀ x, x < 5 → ek k c x = ek k c' x := fun x _ => by
  unfold ek; rw [h _ (Nat.mod_lt _ (by decide)), h _ (Nat.mod_lt _ (by decide))]
theorem th_e {f g : Nat → Nat} (h : Eq25 f g) : Eq25 (th f) (th g) := fun i hi => by
  show f i ^^^ ek 1 (co f) (i % 5) = g i ^^^ ek 1 (co g) (i % 5)
  rw [h i hi, ek_e (co_e h) 1 _ (Nat.mod_lt _ (by decide))]
theorem co_sm (f g : Nat → Nat) (x : Nat) : co (sm f g) x = co f x ^^^ co g x := by
  unfold co sm
  simp only [Nat.xor_assoc, Nat.xor_comm, xr_left]
/-- Theta keeps sums. -/
theorem th_sm {f g : Nat → Nat} (hf : W25 f) (hg : W25 g) : Eq25 (th (sm f g)) (sm (th f) (th g)) := fun i _ => by
  have h1 : ∀ x, co (sm f g) x = co f x ^^^ co g x := co_sm f g
  show (f i ^^^ g i) ^^^ (co (sm f g) ((i % 5 + 4 * 1) % 5) ^^^ rt (co (sm f g) ((i % 5 + 1) % 5)) (1 % 64)) = (f i ^^^ (co f ((i % 5 + 4 * 1) % 5) ^^^ rt (co f ((i % 5 + 1) % 5)) (1 % 64))) ^^^ (g i ^^^ (co g ((i % 5 + 4 * 1) % 5) ^^^ rt (co g ((i % 5 + 1) % 5)) (1 % 64)))
  rw [h1, h1, rt_xor (co_w hf _ (Nat.mod_lt _ (by decide))) (co_w hg _ (Nat.mod_lt _ (by decide))) (by decide)]
  simp only [Nat.xor_assoc, xr_left]
/-- A sum of columns behind what is laid: laid five times, it counts once. -/
theorem co_ly (f c : Nat → Nat) (x : Nat) (hx : x < 5) : co (ly f c) x = co f x ^^^ c x := by
  unfold co ly
  rw [show (x + 5) % 5 = x by omega, show (x + 10) % 5 = x by omega, show (x + 15) % 5 = x by omega, show (x + 20) % 5 = x by omega, show x % 5 = x by omega]
  simp only [Nat.xor_assoc, Nat.xor_comm, xr_left, xr_can]
/-- What is laid twice in the same way is laid by twice as many columns: the two mixed parts are one, and fall out. -/
theorem ek_ek {c : Nat → Nat} (hc : W5 c) (k : Nat) (x : Nat) : ek k (ek k c) x = ek (2 * k) c x := by
  have h1 : ∀ y, c (y % 5) < 2 ^ 64 := fun y => hc _ (Nat.mod_lt _ (by decide))
  unfold ek
  rw [show ((x + 4 * k) % 5 + 4 * k) % 5 = (x + 4 * (2 * k)) % 5 by omega, show ((x + 4 * k) % 5 + k) % 5 = x % 5 by omega, show ((x + k) % 5 + 4 * k) % 5 = x % 5 by omega, show ((x + k) % 5 + k) % 5 = (x + 2 * k) % 5 by omega,
    rt_xor (h1 _) (rt_lt (h1 _)) (by omega), rt_rt (c := 2 * k % 64) (h1 _) (by omega) (by omega) (by omega) (by omega)]
  simp only [Nat.xor_assoc, xr_left, xr_can]
/-- n times theta: laid by n. -/
def thN : Nat → (Nat → Nat) → Nat → Nat
  | 0, f => f
  | n + 1, f => th (thN n f)
theorem thN_w {f : Nat → Nat} (hf : W25 f) : ∀ n, W25 (thN n f)
  | 0 => hf
  | n + 1 => th_w (thN_w hf n)
theorem thN_add (f : Nat → Nat) (a : Nat) : ∀ b, thN (a + b) f = thN b (thN a f)
  | 0 => rfl
  | b + 1 => congrArg th (thN_add f a b)
theorem thN_e {f g : Nat → Nat} (h : Eq25 f g) : ∀ n, Eq25 (thN n f) (thN n g)
  | 0 => h
  | n + 1 => th_e (thN_e h n)
/-- k = 2^j times theta lays the columns k ahead and k behind. -/
theorem thN_pow {f : Nat → Nat} (hf : W25 f) : ∀ j, Eq25 (thN (2 ^ j) f) (ly f (ek (2 ^ j) (co f))) := fun j => by
  induction j generalizing f with
  | zero => exact Eq25.refl _
  | succ j ih =>
    rw [show 2 ^ (j + 1) = 2 ^ j + 2 ^ j by omega, thN_add]
    refine (ih (thN_w hf _)).trans fun i hi => ?_
    have h5 : i % 5 < 5 := Nat.mod_lt _ (by decide)
    have hc : ∀ x, x < 5 → co (thN (2 ^ j) f) x = co f x ^^^ ek (2 ^ j) (co f) x := fun x hx => (co_e (ih hf) x hx).trans (co_ly _ _ x hx)
    have hs : ek (2 ^ j) (co (thN (2 ^ j) f)) (i % 5) = ek (2 ^ j) (co f) (i % 5) ^^^ ek (2 ^ j) (ek (2 ^ j) (co f)) (i % 5) := by
      show co (thN (2 ^ j) f) ((i % 5 + 4 * 2 ^ j) % 5) ^^^ rt (co (thN (2 ^ j) f) ((i % 5 + 2 ^ j) % 5)) (2 ^ j % 64) = _
      rw [hc _ (Nat.mod_lt _ (by decide)), hc _ (Nat.mod_lt _ (by decide)), rt_xor (co_w hf _ (Nat.mod_lt _ (by decide))) (ek_w (co_w hf) _ _ (Nat.mod_lt _ (by decide))) (by omega)]
      show _ = (co f ((i % 5 + 4 * 2 ^ j) % 5) ^^^ rt (co f ((i % 5 + 2 ^ j) % 5)) (2 ^ j % 64)) ^^^ (ek (2 ^ j) (co f) ((i % 5 + 4 * 2 ^ j) % 5) ^^^ rt (ek (2 ^ j) (co f) ((i % 5 + 2 ^ j) % 5)) (2 ^ j % 64))
      simp only [Nat.xor_assoc, xr_left]
    show thN (2 ^ j) f i ^^^ ek (2 ^ j) (co (thN (2 ^ j) f)) (i % 5) = f i ^^^ ek (2 ^ j + 2 ^ j) (co f) (i % 5)
    rw [ih hf i hi, hs, ek_ek (co_w hf), show 2 ^ j + 2 ^ j = 2 * 2 ^ j by omega]
    show (f i ^^^ ek (2 ^ j) (co f) (i % 5)) ^^^ _ = _
    simp only [Nat.xor_assoc, xr_left, xr_can]
/-- Theta, 192 times, is nothing. -/
theorem th192 {f : Nat → Nat} (hf : W25 f) : Eq25 (thN 192 f) f := by
  have h64 := thN_pow hf 6
  have h128 := thN_pow (thN_w hf 64) 7
  rw [show 192 = 64 + 128 from rfl, thN_add]
  refine Eq25.trans h128 fun i hi => ?_
  have h5 : i % 5 < 5 := Nat.mod_lt _ (by decide)
  have hr : ∀ x, rt (co f (x % 5)) 0 = co f (x % 5) := fun x => rt_zero (co_w hf _ (Nat.mod_lt _ (by decide)))
  have hc : ∀ x, x < 5 → co (thN 64 f) x = co f x ^^^ (co f ((x + 1) % 5) ^^^ co f ((x + 4) % 5)) := fun x hx => by
    rw [co_e h64 x hx, co_ly _ _ x hx]
    show _ ^^^ (co f ((x + 4 * 64) % 5) ^^^ rt (co f ((x + 64) % 5)) 0) = _
    rw [hr, show (x + 4 * 64) % 5 = (x + 1) % 5 by omega, show (x + 64) % 5 = (x + 4) % 5 by omega]
  show thN 64 f i ^^^ (co (thN 64 f) ((i % 5 + 4 * 128) % 5) ^^^ rt (co (thN 64 f) ((i % 5 + 128) % 5)) 0) = f i
  rw [rt_zero (co_w (thN_w hf 64) _ (Nat.mod_lt _ (by decide))), h64 i hi, hc _ (Nat.mod_lt _ (by decide)), hc _ (Nat.mod_lt _ (by decide))]
  show (f i ^^^ (co f ((i % 5 + 4 * 64) % 5) ^^^ rt (co f ((i % 5 + 64) % 5)) 0)) ^^^ _ = f i
  rw [hr]
  generalize i % 5 = x at *
  rw [show (x + 4 * 64) % 5 = (x + 1) % 5 by omega, show (x + 64) % 5 = (x + 4) % 5 by omega, show (x + 4 * 128) % 5 = (x + 2) % 5 by omega, show (x + 128) % 5 = (x + 3) % 5 by omega,
    show ((x + 2) % 5 + 1) % 5 = (x + 3) % 5 by omega, show ((x + 2) % 5 + 4) % 5 = (x + 1) % 5 by omega, show ((x + 3) % 5 + 1) % 5 = (x + 4) % 5 by omega, show ((x + 3) % 5 + 4) % 5 = (x + 2) % 5 by omega]
  simp only [Nat.xor_assoc, Nat.xor_comm, xr_left, xr_can, Nat.xor_self, Nat.xor_zero]
theorem th_inj {f g : Nat → Nat} (hf : W25 f) (hg : W25 g) (h : Eq25 (th f) (th g)) : Eq25 f g := by
  have h1 : Eq25 (thN 191 (th f)) (thN 191 (th g)) := thN_e h 191
  have e : ∀ k : Nat → Nat, thN 191 (th k) = thN 192 k := fun k => (thN_add k 1 191).symm
  rw [e, e] at h1
  exact ((th192 hf).symm.trans h1).trans (th192 hg)

/-! ### move -/
/-- Where the word at j comes from, and where the word at i goes to. -/
def src (j : Nat) : Nat := (j % 5 + 3 * (j / 5)) % 5 + 5 * (j % 5)
def dst (i : Nat) : Nat := i / 5 + 5 * ((2 * (i % 5) + 3 * (i / 5)) % 5)
theorem src_dst : ∀ i, i < 25 → src (dst i) = i ∧ dst i < 25 ∧ dst (src i) = i ∧ src i < 25 := by decide
/-- The word of each place is rotated by t, and goes to its place. -/
def mo (t : Nat → Nat) (f : Nat → Nat) : Nat → Nat := fun j => rt (f (src j)) (t (src j))
def bm (t : Nat → Nat) (f : Nat → Nat) : Nat → Nat := fun i => rt (f (dst i)) ((64 - t i) % 64)
/-- Turns. -/
def T25 (t : Nat → Nat) : Prop := ∀ i, i < 25 → t i < 64
section
variable {t f g : Nat → Nat}
theorem mo_w (hf : W25 f) : W25 (mo t f) := fun j hj => rt_lt (hf _ (src_dst j hj).2.2.2)
theorem bm_w (hf : W25 f) : W25 (bm t f) := fun i hi => rt_lt (hf _ (src_dst i hi).2.1)
theorem mo_e (h : Eq25 f g) : Eq25 (mo t f) (mo t g) := fun j hj => by unfold mo; rw [h _ (src_dst j hj).2.2.2]
theorem bm_e (h : Eq25 f g) : Eq25 (bm t f) (bm t g) := fun i hi => by unfold bm; rw [h _ (src_dst i hi).2.1]
theorem bm_mo (ht : T25 t) (hf : W25 f) : Eq25 (bm t (mo t f)) f := fun i hi => by
  show rt (rt (f (src (dst i))) (t (src (dst i)))) ((64 - t i) % 64) = f i
  rw [(src_dst i hi).1]
  have := ht i hi
  rw [rt_rt (c := 0) (hf i hi) (by omega) (by omega) (by omega) (by omega), rt_zero (hf i hi)]
theorem mo_bm (ht : T25 t) (hf : W25 f) : Eq25 (mo t (bm t f)) f := fun j hj => by
  show rt (rt (f (dst (src j))) ((64 - t (src j)) % 64)) (t (src j)) = f j
  rw [(src_dst j hj).2.2.1]
  have := ht _ (src_dst j hj).2.2.2
  rw [rt_rt (c := 0) (hf j hj) (by omega) (by omega) (by omega) (by omega), rt_zero (hf j hj)]
theorem mo_inj (ht : T25 t) (hf : W25 f) (hg : W25 g) (h : Eq25 (mo t f) (mo t g)) : Eq25 f g := ((bm_mo ht hf).symm.trans (bm_e h)).trans (bm_mo ht hg)
theorem mo_sm (ht : T25 t) (hf : W25 f) (hg : W25 g) : Eq25 (mo t (sm f g)) (sm (mo t f) (mo t g)) := fun j hj =>
  rt_xor (hf _ (src_dst j hj).2.2.2) (hg _ (src_dst j hj).2.2.2) (by have := ht _ (src_dst j hj).2.2.2; omega)
end
/-! ### chi -/
/-- A word is put together with what the word two ahead has, and the next one has not. -/
def ch (f : Nat → Nat) : Nat → Nat := fun i => f i ^^^ f (i / 5 * 5 + (i + 2) % 5) ^^^ f (i / 5 * 5 + (i + 2) % 5) &&& f (i / 5 * 5 + (i + 1) % 5)
/-- .. bit by bit, of five bits. -/
def cb (q : Fin 5 → Bool) : Fin 5 → Bool := fun x => (q x).xor (q (x + 2) && !(q (x + 1)))
theorem cb_four : ∀ a b c d e : Bool, ∀ x : Fin 5, cb (cb (cb (cb (fun y => [a, b, c, d, e].getD y.1 false)))) x = [a, b, c, d, e].getD x.1 false := by decide
theorem cb4 (q : Fin 5 → Bool) : cb (cb (cb (cb q))) = q := by
  have h : q = fun y => [q 0, q 1, q 2, q 3, q 4].getD y.1 false := by
    funext y
    match y with
    | 0 => rfl
    | 1 => rfl
    | 2 => rfl
    | 3 => rfl
    | 4 => rfl
  rw [h]
  funext x
  exact cb_four _ _ _ _ _ x
/-- The bits z of a row y. -/
def rw5 (f : Nat → Nat) (y z : Nat) : Fin 5 → Bool := fun x => (f (5 * y + x.1)).testBit z
theorem ch_rw (f : Nat → Nat) (y z : Nat) : rw5 (ch f) y z = cb (rw5 f y z) := by
  funext x
  obtain ⟨x, hx⟩ := x
  have h1 : (5 * y + x) / 5 * 5 + (5 * y + x + 2) % 5 = 5 * y + (x + 2) % 5 := by omega
  have h2 : (5 * y + x) / 5 * 5 + (5 * y + x + 1) % 5 = 5 * y + (x + 1) % 5 := by omega
  have e1 : ((⟨x, hx⟩ : Fin 5) + 2).1 = (x + 2) % 5 := by simp [Fin.val_add]
  have e2 : ((⟨x, hx⟩ : Fin 5) + 1).1 = (x + 1) % 5 := by simp [Fin.val_add]
  show (f (5 * y + x) ^^^ f ((5 * y + x) / 5 * 5 + (5 * y + x + 2) % 5) ^^^ f ((5 * y + x) / 5 * 5 + (5 * y + x + 2) % 5) &&& f ((5 * y + x) / 5 * 5 + (5 * y + x + 1) % 5)).testBit z = ((f (5 * y + x)).testBit z).xor ((f (5 * y + ((⟨x, hx⟩ : Fin 5) + 2).1)).testBit z && !((f (5 * y + ((⟨x, hx⟩ : Fin 5) + 1).1)).testBit z))
  rw [h1, h2, e1, e2]
  simp only [Nat.testBit_xor, Nat.testBit_and]
  cases (f (5 * y + x)).testBit z <;> cases (f (5 * y + (x + 2) % 5)).testBit z <;> cases (f (5 * y + (x + 1) % 5)).testBit z <;> rfl
theorem ch_w {f : Nat → Nat} (hf : W25 f) : W25 (ch f) := fun i hi => by
  have h1 := hf (i / 5 * 5 + (i + 2) % 5) (by omega)
  exact Nat.xor_lt_two_pow (Nat.xor_lt_two_pow (hf i hi) h1) (Nat.and_lt_two_pow _ (hf _ (by omega)))
theorem ch_e {f g : Nat → Nat} (h : Eq25 f g) : Eq25 (ch f) (ch g) := fun i hi => by
  unfold ch; rw [h i hi, h _ (by omega), h _ (by omega)]
theorem rw5_ext {f g : Nat → Nat} (h : ∀ y z, y < 5 → rw5 f y z = rw5 g y z) : Eq25 f g := fun i hi => Nat.eq_of_testBit_eq fun z => by
  have := congrFun (h (i / 5) z (by omega)) ⟨i % 5, Nat.mod_lt _ (by decide)⟩
  simp only [rw5] at this
  rwa [show 5 * (i / 5) + i % 5 = i by omega] at this
/-- Chi, four times, is nothing. -/
theorem ch4 (f : Nat → Nat) : Eq25 (ch (ch (ch (ch f)))) f := rw5_ext fun y z _ => by rw [ch_rw, ch_rw, ch_rw, ch_rw, cb4]
theorem ch_inj {f g : Nat → Nat} (h : Eq25 (ch f) (ch g)) : Eq25 f g := ((ch4 f).symm.trans (ch_e (ch_e (ch_e h)))).trans (ch4 g)
/-! ### rounds -/
/-- Word 0 put together with m. -/
def io (m : Nat) (f : Nat → Nat) : Nat → Nat := fun i => if i = 0 then f 0 ^^^ m else f i
theorem io_w {m : Nat} {f : Nat → Nat} (hm : m < 2 ^ 64) (hf : W25 f) : W25 (io m f) := fun i hi => by
  unfold io; split
  · exact Nat.xor_lt_two_pow (hf 0 (by decide)) hm
  · exact hf i hi
theorem io_io (m : Nat) (f : Nat → Nat) : io m (io m f) = f := funext fun i => by
  unfold io; split
  · rename_i h; subst h; rw [if_pos rfl, Nat.xor_assoc, Nat.xor_self, Nat.xor_zero]
  · rfl
theorem io_e {m : Nat} {f g : Nat → Nat} (h : Eq25 f g) : Eq25 (io m f) (io m g) := fun i hi => by
  unfold io; rw [h 0 (by decide), h i hi]
section
variable {t mk f g : Nat → Nat}
/-- A round. -/
def rd1 (t : Nat → Nat) (m : Nat) (f : Nat → Nat) : Nat → Nat := io m (ch (mo t (th f)))
/-- n rounds. -/
def pm (t mk : Nat → Nat) : Nat → (Nat → Nat) → Nat → Nat
  | 0, f => f
  | n + 1, f => rd1 t (mk n) (pm t mk n f)
/-- Marks. -/
def M24 (mk : Nat → Nat) : Prop := ∀ i, i < 24 → mk i < 2 ^ 64
theorem rd1_w {m : Nat} (hm : m < 2 ^ 64) (hf : W25 f) : W25 (rd1 t m f) := io_w hm (ch_w (mo_w (th_w hf)))
theorem rd1_e {m : Nat} (h : Eq25 f g) : Eq25 (rd1 t m f) (rd1 t m g) := io_e (ch_e (mo_e (th_e h)))
theorem rd1_inj {m : Nat} (ht : T25 t) (hf : W25 f) (hg : W25 g) (h : Eq25 (rd1 t m f) (rd1 t m g)) : Eq25 f g := by
  have h1 := io_e (m := m) h
  unfold rd1 at h1
  rw [io_io, io_io] at h1
  exact th_inj hf hg (mo_inj ht (th_w hf) (th_w hg) (ch_inj h1))
theorem pm_w (hm : M24 mk) (hf : W25 f) : ∀ n, n ≤ 24 → W25 (pm t mk n f)
  | 0, _ => hf
  | n + 1, h => rd1_w (hm n (by omega)) (pm_w hm hf n (by omega))
theorem pm_e (h : Eq25 f g) : ∀ n, Eq25 (pm t mk n f) (pm t mk n g)
  | 0 => h
  | n + 1 => rd1_e (pm_e h n)
/-- No two states are permuted into one. -/
theorem pm_inj (ht : T25 t) (hm : M24 mk) (hf : W25 f) (hg : W25 g) : ∀ n, n ≤ 24 → Eq25 (pm t mk n f) (pm t mk n g) → Eq25 f g
  | 0, _, h => h
  | n + 1, hn, h => pm_inj ht hm hf hg n (by omega) (rd1_inj ht (pm_w hm hf n (by omega)) (pm_w hm hg n (by omega)) h)
/-- A round back. -/
def rb1 (t : Nat → Nat) (m : Nat) (f : Nat → Nat) : Nat → Nat := thN 191 (bm t (ch (ch (ch (io m f)))))
theorem rb1_rd1 {m : Nat} (ht : T25 t) (hf : W25 f) : Eq25 (rb1 t m (rd1 t m f)) f := by
  unfold rb1 rd1
  rw [io_io]
  have h1 : Eq25 (bm t (ch (ch (ch (ch (mo t (th f))))))) (th f) := (bm_e (ch4 _)).trans (bm_mo ht (th_w hf))
  have h2 := thN_e h1 191
  have e : thN 191 (th f) = thN 192 f := (thN_add f 1 191).symm
  rw [e] at h2
  exact h2.trans (th192 hf)
theorem rd1_rb1 {m : Nat} (ht : T25 t) (hm : m < 2 ^ 64) (hf : W25 f) : Eq25 (rd1 t m (rb1 t m f)) f := by
  have hw : W25 (bm t (ch (ch (ch (io m f))))) := bm_w (ch_w (ch_w (ch_w (io_w hm hf))))
  have h1 : Eq25 (th (rb1 t m f)) (bm t (ch (ch (ch (io m f))))) := th192 hw
  have h2 : Eq25 (mo t (th (rb1 t m f))) (ch (ch (ch (io m f)))) := (mo_e h1).trans (mo_bm ht (ch_w (ch_w (ch_w (io_w hm hf)))))
  have h3 : Eq25 (ch (mo t (th (rb1 t m f)))) (io m f) := (ch_e h2).trans (ch4 _)
  have h4 := io_e (m := m) h3
  rw [io_io] at h4
  exact h4
end
end Go.Proofs.Ytffoinnllihdeaa
