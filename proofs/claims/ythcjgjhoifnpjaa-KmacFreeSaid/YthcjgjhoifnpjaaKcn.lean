/- Keccak's tables and what stands in its loops: turns, marks, arrays turned so far. No program is named. -/
import Derived.Test.YthcjgjhoifnpjaaKcm
import Derived.Test.YthcjgjhoifnpjaaGen
namespace Go.Proofs.Ythcjgjhoifnpjaa

/-! ### arrays turned so far -/
/-- The first n rows of g, and f behind. -/
def mix (n : Nat) (f g : Nat → Nat) : Nat → Nat := fun i => if i < n then g i else f i
theorem mix_zero (f g : Nat → Nat) : mix 0 f g = f := funext fun i => if_neg (Nat.not_lt_zero i)
theorem mix_here (n : Nat) (f g : Nat → Nat) : mix n f g n = f n := if_neg (Nat.lt_irrefl n)
theorem mix_step (n : Nat) (f g : Nat → Nat) {z : Nat} (h : z = g n) : upd (mix n f g) n z = mix (n + 1) f g := funext fun i => by
  subst h
  unfold upd mix
  by_cases e : i = n
  · subst e; rw [if_pos rfl, if_pos (Nat.lt_succ_self _)]
  · rw [if_neg e]
    by_cases h1 : i < n
    · rw [if_pos h1, if_pos (by omega)]
    · rw [if_neg h1, if_neg (by omega)]
theorem mix_all {n m : Nat} {f g : Nat → Nat} (h : m ≤ n) : ∀ i, i < m → mix n f g i = g i := fun i hi => if_pos (by omega)
/-- The rows j of g with p j < n, and f else. -/
def mip (p : Nat → Nat) (n : Nat) (f g : Nat → Nat) : Nat → Nat := fun j => if p j < n then g j else f j
theorem mip_zero (p f g : Nat → Nat) : mip p 0 f g = f := funext fun _ => if_neg (Nat.not_lt_zero _)
theorem mip_step {p : Nat → Nat} {n m j : Nat} {f g : Nat → Nat} {z : Nat} (hp : ∀ i, i < m → (p i = n ↔ i = j)) (h : z = g j) : ∀ i, i < m → upd (mip p n f g) j z i = mip p (n + 1) f g i := fun i hi => by
  subst h
  have := hp i hi
  unfold upd mip
  by_cases e : i = j
  · subst e; rw [if_pos rfl, if_pos (by have := this.2 rfl; omega)]
  · rw [if_neg e]
    have hne : p i ≠ n := fun h => e (this.1 h)
    by_cases h1 : p i < n
    · rw [if_pos h1, if_pos (by omega)]
    · rw [if_neg h1, if_neg (by omega)]
theorem mip_all {p : Nat → Nat} {n m : Nat} {f g : Nat → Nat} (h : ∀ i, i < m → p i < n) : ∀ i, i < m → mip p n f g i = g i := fun i hi => if_pos (h i hi)

/-! ### sums of columns, on the way -/
def suN (f : Nat → Nat) : Nat → Nat → Nat
  | 0 => fun _ => 0
  | j + 1 => upd (suN f j) (j % 5) (suN f j (j % 5) ^^^ f j)
theorem suN_lt {f : Nat → Nat} (hf : W25 f) : ∀ j, j ≤ 25 → ∀ x, suN f j x < 2 ^ 64
  | 0, _, _ => Nat.two_pow_pos 64
  | j + 1, h, x => by
    unfold suN upd
    split
    · exact Nat.xor_lt_two_pow (suN_lt hf j (by omega) _) (hf j (by omega))
    · exact suN_lt hf j (by omega) x
theorem suN_all (f : Nat → Nat) : ∀ x, x < 5 → suN f 25 x = co f x := by
  intro x hx
  have h : x = 0 ∨ x = 1 ∨ x = 2 ∨ x = 3 ∨ x = 4 := by omega
  rcases h with rfl | rfl | rfl | rfl | rfl <;> simp [suN, upd, co]

/-! ### turns -/
def pth : Nat → Nat
  | 0 => 1
  | t + 1 => dst (pth t)
theorem pth_lt : ∀ t, pth t < 25
  | 0 => by decide
  | t + 1 => (src_dst _ (pth_lt t)).2.1
def tuN : Nat → Nat → Nat
  | 0 => fun _ => 0
  | t + 1 => upd (tuN t) (pth t) ((t + 1) * (t + 2) / 2 % 64)
def tun : Nat → Nat := tuN 24
theorem tun_lt : T25 tun := (by decide +kernel : ∀ i, i < 25 → tun i < 64)
theorem tun_pth : ∀ t, t < 24 → tun (pth t) = (t + 1) * (t + 2) / 2 % 64 := by decide +kernel
theorem tun_none : ∀ i, i < 25 → (∀ t, t < 24 → pth t ≠ i) → tun i = 0 := by decide +kernel
theorem tuN_lt : ∀ t, t ≤ 24 → ∀ i, i < 25 → tuN t i < 64 := by decide +kernel
/-- The turn of any two numbers. -/
def tq (x y : Int) : Nat := if 0 ≤ x ∧ x < 5 ∧ 0 ≤ y ∧ y < 5 then tun (x.toNat + 5 * y.toNat) else 0
theorem tq_in {x y : Nat} (hx : x < 5) (hy : y < 5) : tq x y = tun (x + 5 * y) := by
  unfold tq; rw [if_pos (by omega)]; simp
theorem tq_out {x y : Int} (h : ¬ (0 ≤ x ∧ x < 5 ∧ 0 ≤ y ∧ y < 5)) : tq x y = 0 := if_neg h
theorem tq_pth {t : Nat} (ht : t < 24) : tq ((pth t % 5 : Nat) : Int) ((pth t / 5 : Nat) : Int) = (t + 1) * (t + 2) / 2 % 64 := by
  have := pth_lt t
  rw [tq_in (by omega) (by omega), show pth t % 5 + 5 * (pth t / 5) = pth t by omega, tun_pth t ht]
theorem tq_none {x y : Int} (h : ∀ t, t < 24 → ¬ (((pth t % 5 : Nat) : Int) = x ∧ ((pth t / 5 : Nat) : Int) = y)) : tq x y = 0 := by
  unfold tq
  split
  · rename_i hb
    refine tun_none _ (by omega) fun t ht e => h t ht ⟨?_, ?_⟩ <;> omega
  · rfl

/-! ### the row of bits, and marks -/
def nxt (r : Nat) : Nat := if 128 ≤ r then (r * 2 % 256) ^^^ 113 else r * 2
def rwN : Nat → Nat
  | 0 => 1
  | n + 1 => nxt (rwN n)
theorem nxt_lt {r : Nat} (h : r < 256) : nxt r < 256 := by
  unfold nxt; split
  · exact Nat.xor_lt_two_pow (n := 8) (Nat.mod_lt _ (by decide)) (by decide)
  · omega
theorem rwN_lt : ∀ n, rwN n < 256
  | 0 => by decide
  | n + 1 => nxt_lt (rwN_lt n)
/-- A bit of the row's byte behind a step, told by the bits ahead of it. -/
def lf (r : Nat) (i : Nat) : Bool := r.testBit i
theorem lf_next : ∀ r, r < 256 → lf (nxt r) 0 = lf r 7 ∧ lf (nxt r) 1 = lf r 0 ∧ lf (nxt r) 2 = lf r 1 ∧ lf (nxt r) 3 = lf r 2 ∧ lf (nxt r) 4 = (lf r 3 != lf r 7) ∧ lf (nxt r) 5 = (lf r 4 != lf r 7) ∧ lf (nxt r) 6 = (lf r 5 != lf r 7) ∧ lf (nxt r) 7 = lf r 6 := by decide +kernel
theorem lf_zero (r : Nat) : r % 2 = (if lf r 0 then 1 else 0) := by
  unfold lf
  rw [Nat.testBit_zero]
  by_cases h : r % 2 = 1
  · simp [h]
  · have : r % 2 = 0 := by omega
    simp [this]
def mkP (i : Nat) : Nat → Nat
  | 0 => 0
  | j + 1 => mkP i j ||| (rwN (7 * i + j) % 2) * 2 ^ (2 ^ j - 1)
def mkf (i : Nat) : Nat := mkP i 7
theorem mkf_lt : M24 mkf := (by decide +kernel : ∀ i, i < 24 → mkf i < 2 ^ 64)
theorem mkP_lt : ∀ i, i < 24 → ∀ j, j ≤ 7 → mkP i j < 2 ^ 64 := by decide +kernel
theorem mkP_add : ∀ i, i < 24 → ∀ j, j < 7 → mkP i (j + 1) = mkP i j + (if lf (rwN (7 * i + j)) 0 then 2 ^ (2 ^ j - 1) else 0) := by decide +kernel
/-- Rows ahead of i are marks, row i is under way. -/
def mkN (i j : Nat) : Nat → Nat := fun k => if k < i then mkf k else if k = i then mkP i j else 0
theorem mkN_here (i j : Nat) : mkN i j i = mkP i j := by unfold mkN; rw [if_neg (Nat.lt_irrefl i), if_pos rfl]
theorem mkN_step (i j : Nat) {z : Nat} (h : z = mkP i (j + 1)) : upd (mkN i j) i z = mkN i (j + 1) := funext fun k => by
  subst h
  unfold upd mkN
  by_cases e : k = i
  · subst e; rw [if_pos rfl, if_neg (Nat.lt_irrefl k), if_pos rfl]
  · rw [if_neg e, if_neg e, if_neg e]
theorem mkN_next (i : Nat) : mkN i 7 = mkN (i + 1) 0 := funext fun k => by
  unfold mkN mkf
  by_cases h : k < i
  · rw [if_pos h, if_pos (by omega)]
  · rw [if_neg h]
    by_cases e : k = i
    · subst e; rw [if_pos rfl, if_pos (by omega)]
    · rw [if_neg e, if_neg (by omega)]
      split <;> rfl
theorem mkN_zero : mkN 0 0 = fun _ => 0 := funext fun k => by
  unfold mkN; rw [if_neg (Nat.not_lt_zero k)]; split <;> rfl
theorem mkN_all : ∀ k, k < 24 → mkN 24 0 k = mkf k := fun _ hk => if_pos hk
/-- The mark of any number. -/
def mkq (i : Int) : Nat := if 0 ≤ i ∧ i < 24 then mkf i.toNat else 0
theorem mkq_in {i : Nat} (h : i < 24) : mkq i = mkf i := by unfold mkq; rw [if_pos (by omega)]; simp
theorem mkq_out {i : Int} (h : ¬ (0 ≤ i ∧ i < 24)) : mkq i = 0 := if_neg h

/-! ### chi, move: row by row -/
theorem andnot_xor (a b : Nat) (m : Nat) (ha : a < 2 ^ m) : a ^^^ (a &&& b) = a &&& (2 ^ m - 1 - b % 2 ^ m) := Nat.eq_of_testBit_eq fun j => by
  rw [Nat.testBit_xor, Nat.testBit_and, Nat.testBit_and]
  by_cases hj : j < m
  · rw [show 2 ^ m - 1 - b % 2 ^ m = 2 ^ m - (b % 2 ^ m + 1) by omega, Nat.testBit_two_pow_sub_succ (Nat.mod_lt _ (Nat.two_pow_pos m)), Nat.testBit_mod_two_pow]
    cases a.testBit j <;> cases b.testBit j <;> simp [hj]
  · rw [Nat.testBit_lt_two_pow (Nat.lt_of_lt_of_le ha (Nat.pow_le_pow_right (by decide) (by omega)))]
    simp
theorem ch_at (f : Nat → Nat) {x y : Nat} (hx : x < 5) : ch f (x + 5 * y) = f (x + 5 * y) ^^^ (f ((x + 2) % 5 + 5 * y) ^^^ (f ((x + 2) % 5 + 5 * y) &&& f ((x + 1) % 5 + 5 * y))) := by
  unfold ch
  rw [show (x + 5 * y) / 5 * 5 + (x + 5 * y + 2) % 5 = (x + 2) % 5 + 5 * y by omega, show (x + 5 * y) / 5 * 5 + (x + 5 * y + 1) % 5 = (x + 1) % 5 + 5 * y by omega, Nat.xor_assoc]
theorem src_at {n : Nat} (hn : n < 25) : ∀ i, i < 25 → (src i = n ↔ i = dst n) := fun i hi => by
  have h1 := src_dst i hi
  have h2 := src_dst n hn
  constructor
  · rintro rfl; exact h1.2.2.1.symm
  · rintro rfl; exact h2.1
/-- The document's order: by columns. -/
def srd (j : Nat) : Nat := 5 * (src j % 5) + src j / 5
theorem srd_lt : ∀ j, j < 25 → srd j < 25 := by decide
theorem srd_at : ∀ x, x < 5 → ∀ y, y < 5 → ∀ i, i < 25 → (srd i = 5 * x + y ↔ i = dst (x + 5 * y)) := by decide
theorem mo_at (t f : Nat → Nat) {n : Nat} (hn : n < 25) : mo t f (dst n) = rt (f n) (t n) := by
  unfold mo; rw [(src_dst n hn).1]
theorem dst_xy {x y : Nat} (hx : x < 5) : dst (x + 5 * y) = y + 5 * ((2 * x + 3 * y) % 5) := by
  unfold dst; rw [show (x + 5 * y) / 5 = y by omega, show (x + 5 * y) % 5 = x by omega]

/-! ### theta, again and again: 191 times -/
def tms (j : Nat) : Nat := [1, 2, 4, 8, 16, 32, 128].getD j 0
def tmE (j : Nat) : Nat := [0, 1, 2, 3, 4, 5, 7].getD j 0
def tmS (j : Nat) : Nat := [0, 1, 3, 7, 15, 31, 63, 191].getD j 0
theorem tms_facts : ∀ j, j < 7 → tms j = 2 ^ tmE j ∧ tmS (j + 1) = tmS j + tms j ∧ 1 ≤ tms j ∧ tms j ≤ 128 := by decide
theorem tms_step {f : Nat → Nat} (hf : W25 f) {j : Nat} (hj : j < 7) : Eq25 (ly (thN (tmS j) f) (ek (tms j) (co (thN (tmS j) f)))) (thN (tmS (j + 1)) f) := by
  obtain ⟨h1, h2, _⟩ := tms_facts j hj
  rw [h2, thN_add, h1]
  exact (thN_pow (thN_w hf _) _).symm
/-- A state, some rounds back: round n first. -/
def bkN (t mk : Nat → Nat) : Nat → (Nat → Nat) → Nat → Nat
  | 0, f => f
  | n + 1, f => bkN t mk n (rb1 t (mk n) f)
theorem rb1_e {t f g : Nat → Nat} {m : Nat} (h : Eq25 f g) : Eq25 (rb1 t m f) (rb1 t m g) := thN_e (bm_e (ch_e (ch_e (ch_e (io_e h))))) 191
theorem bkN_pm {t mk f : Nat → Nat} (ht : T25 t) (hm : M24 mk) (hf : W25 f) : ∀ n, n ≤ 24 → ∀ g, Eq25 g (pm t mk n f) → Eq25 (bkN t mk n g) f
  | 0, _, _, h => h
  | n + 1, hn, g, h => bkN_pm ht hm hf n (by omega) _ ((rb1_e (t := t) (m := mk n) h).trans (rb1_rd1 ht (pm_w hm hf n (by omega))))
theorem rb1_w {t f : Nat → Nat} {m : Nat} (hm : m < 2 ^ 64) (hf : W25 f) : W25 (rb1 t m f) := thN_w (bm_w (ch_w (ch_w (ch_w (io_w hm hf))))) 191
theorem bkN_w {t mk : Nat → Nat} (hm : M24 mk) : ∀ n, n ≤ 24 → ∀ {f : Nat → Nat}, W25 f → W25 (bkN t mk n f)
  | 0, _, _, h => h
  | n + 1, hn, _, h => bkN_w hm n (by omega) (rb1_w (hm n (by omega)) h)
theorem pm_bkN {t mk : Nat → Nat} (ht : T25 t) (hm : M24 mk) : ∀ n, n ≤ 24 → ∀ {f : Nat → Nat}, W25 f → Eq25 (pm t mk n (bkN t mk n f)) f
  | 0, _, _, _ => Eq25.refl _
  | n + 1, hn, f, hf => (rd1_e (pm_bkN ht hm n (by omega) (rb1_w (hm n (by omega)) hf))).trans (rd1_rb1 ht (hm n (by omega)) hf)
end Go.Proofs.Ythcjgjhoifnpjaa
