/- General: words of 64 bits, and what ops make of them, as numbers. No program is named. -/
import Derived.Test.YtffoinnllihdeaaKcm
import Derived.Laws.Bits64
namespace Go.Proofs.Ytffoinnllihdeaa

theorem wx64 {a b : Nat} (ha : a < 2 ^ 64) (hb : b < 2 ^ 64) : bits .xor .u64 (a : Int) (b : Int) = ((a ^^^ b : Nat) : Int) := bits_xor_u64_nat a b (by omega) (by omega)
theorem wn64 {a b : Nat} (ha : a < 2 ^ 64) (hb : b < 2 ^ 64) : bits .and .u64 (a : Int) (b : Int) = ((a &&& b : Nat) : Int) := by
  have h1 : (BitVec.ofInt 64 (a : Int)).toNat = a := by
    rw [BitVec.ofInt_natCast, BitVec.toNat_ofNat]; exact Nat.mod_eq_of_lt (by omega)
  have h2 : (BitVec.ofInt 64 (b : Int)).toNat = b := by
    rw [BitVec.ofInt_natCast, BitVec.toNat_ofNat]; exact Nat.mod_eq_of_lt (by omega)
  have hx : a &&& b < 2 ^ 64 := Nat.and_lt_two_pow _ hb
  show IntKind.u64.wrap ((BitVec.ofInt 64 (a : Int) &&& BitVec.ofInt 64 (b : Int)).toNat : Int) = _
  rw [BitVec.toNat_and, h1, h2, IntKind.wrap_u64]
  omega
theorem xr_lt {a b : Nat} (ha : a < 2 ^ 64) (hb : b < 2 ^ 64) : a ^^^ b < 2 ^ 64 := Nat.xor_lt_two_pow ha hb
theorem an_lt {a b : Nat} (ha : a < 2 ^ 64) : a &&& b < 2 ^ 64 := Nat.lt_of_le_of_lt Nat.and_le_left ha

/-- A word with each bit turned. -/
def wnt (a : Nat) : Nat := 2 ^ 64 - 1 - a
theorem wnt_lt (a : Nat) : wnt a < 2 ^ 64 := by unfold wnt; omega
theorem wnt_bit {a j : Nat} (ha : a < 2 ^ 64) (hj : j < 64) : (wnt a).testBit j = !a.testBit j := by
  unfold wnt
  rw [show 2 ^ 64 - 1 - a = 2 ^ 64 - (a + 1) by omega, Nat.testBit_two_pow_sub_succ ha]
  simp [hj]
theorem wnt_wnt {a b : Nat} (ha : a < 2 ^ 64) (hb : b < 2 ^ 64) : wnt a ^^^ wnt b = a ^^^ b :=
  word_ext (xr_lt (wnt_lt _) (wnt_lt _)) (xr_lt ha hb) fun j hj => by
    rw [Nat.testBit_xor, Nat.testBit_xor, wnt_bit ha hj, wnt_bit hb hj]; cases a.testBit j <;> cases b.testBit j <;> rfl

theorem wnt_max {a : Nat} (ha : a < 2 ^ 64) : (2 ^ 64 - 1) ^^^ a = wnt a :=
  word_ext (xr_lt (by decide) ha) (wnt_lt _) fun j hj => by
    rw [Nat.testBit_xor, wnt_bit ha hj, Nat.testBit_two_pow_sub_one, decide_eq_true hj]; cases a.testBit j <;> rfl
/-- A word, moved up, 0s from below. -/
def wsl (a k : Nat) : Nat := a * 2 ^ k % 2 ^ 64
theorem wsl_lt (a k : Nat) : wsl a k < 2 ^ 64 := Nat.mod_lt _ (by decide)
theorem wsl_bit (a k : Nat) {j : Nat} (hj : j < 64) : (wsl a k).testBit j = (decide (k ≤ j) && a.testBit (j - k)) := by
  unfold wsl
  rw [Nat.testBit_mod_two_pow, ← Nat.shiftLeft_eq, Nat.testBit_shiftLeft]
  simp [hj]
/-- A word, moved down. -/
def wsr (a k : Nat) : Nat := a / 2 ^ k
theorem wsr_lt {a : Nat} (ha : a < 2 ^ 64) (k : Nat) : wsr a k < 2 ^ 64 := Nat.lt_of_le_of_lt (Nat.div_le_self _ _) ha
theorem wsr_bit (a k j : Nat) : (wsr a k).testBit j = a.testBit (j + k) := by
  unfold wsr
  rw [← Nat.shiftRight_eq_div_pow, Nat.testBit_shiftRight, Nat.add_comm]
theorem low_bit (n j : Nat) : (2 ^ n - 1).testBit j = decide (j < n) := Nat.testBit_two_pow_sub_one n j
theorem low_lt {n : Nat} (h : n ≤ 64) : 2 ^ n - 1 < 2 ^ 64 := by
  have := Nat.pow_le_pow_right (n := 2) (by decide) h
  omega
/-- The document's way: what is low enough, rotated. -/
theorem wsl_doc {a k : Nat} (ha : a < 2 ^ 64) (hk : k < 64) : rt (a &&& (2 ^ (64 - k) - 1)) k = wsl a k :=
  word_ext (rt_lt (an_lt ha)) (wsl_lt _ _) fun j hj => by
    rw [rt_bit (an_lt ha) (by omega) hj, wsl_bit _ _ hj, Nat.testBit_and, low_bit]
    by_cases h : k ≤ j
    · rw [show (j + (64 - k)) % 64 = j - k by omega, decide_eq_true (by omega : j - k < 64 - k), decide_eq_true h, Bool.and_true, Bool.true_and]
    · rw [decide_eq_false (by omega : ¬ (j + (64 - k)) % 64 < 64 - k), decide_eq_false h, Bool.and_false, Bool.false_and]
theorem wsr_doc {a k m : Nat} (ha : a < 2 ^ 64) (hk : k < 64) (hm : m = (64 - k) % 64) : rt a m &&& (2 ^ (64 - k) - 1) = wsr a k :=
  word_ext (an_lt (rt_lt ha)) (wsr_lt ha _) fun j hj => by
    rw [Nat.testBit_and, rt_bit ha (by omega) hj, low_bit, wsr_bit]
    by_cases h : j < 64 - k
    · rw [decide_eq_true h, Bool.and_true, show (j + (64 - m)) % 64 = j + k by omega]
    · rw [decide_eq_false h, Bool.and_false, bit_none ha (by omega)]
theorem wsl_xor (a b k : Nat) : wsl (a ^^^ b) k = wsl a k ^^^ wsl b k :=
  word_ext (wsl_lt _ _) (xr_lt (wsl_lt _ _) (wsl_lt _ _)) fun j hj => by
    rw [Nat.testBit_xor, wsl_bit _ _ hj, wsl_bit _ _ hj, wsl_bit _ _ hj, Nat.testBit_xor]
    cases decide (k ≤ j) <;> simp
theorem wsr_xor {a b : Nat} (ha : a < 2 ^ 64) (hb : b < 2 ^ 64) (k : Nat) : wsr (a ^^^ b) k = wsr a k ^^^ wsr b k :=
  word_ext (wsr_lt (xr_lt ha hb) _) (xr_lt (wsr_lt ha _) (wsr_lt hb _)) fun j _ => by
    rw [Nat.testBit_xor, wsr_bit, wsr_bit, wsr_bit, Nat.testBit_xor]
theorem wan_xor {a a' b b' : Nat} : (a ^^^ a') &&& (b ^^^ b') = a &&& b ^^^ a' &&& b' ^^^ a &&& b' ^^^ a' &&& b := by
  refine Nat.eq_of_testBit_eq fun j => ?_
  simp only [Nat.testBit_and, Nat.testBit_xor]
  cases a.testBit j <;> cases a'.testBit j <;> cases b.testBit j <;> cases b'.testBit j <;> rfl
theorem wmk_xor {a a' c : Nat} : (a ^^^ a') &&& c = a &&& c ^^^ a' &&& c := by
  refine Nat.eq_of_testBit_eq fun j => ?_
  simp only [Nat.testBit_and, Nat.testBit_xor]
  cases a.testBit j <;> cases a'.testBit j <;> cases c.testBit j <;> rfl
theorem x4 (a b c d : Nat) : (a ^^^ b) ^^^ (c ^^^ d) = (a ^^^ c) ^^^ (b ^^^ d) := by
  simp only [Nat.xor_assoc, xr_left b c d]

/-- What an op of kind K with constant C makes of words. -/
def evN (K : Int) (C a b d x : Nat) : Nat :=
  if K = 1 then x else if K = 2 then x ^^^ a ^^^ b else if K = 3 then C else if K = 4 then C else if K = 5 then a ^^^ b else if K = 6 then wnt a else if K = 7 then a &&& b else if K = 8 then a &&& C
  else if K = 9 then wsl a (C % 64) else if K = 10 then wsr a (C % 64) else if K = 11 then rt a (C % 64) else if K = 12 then a ^^^ b ^^^ d else 0
theorem ev1 (C a b d x : Nat) : evN 1 C a b d x = x := by simp [evN]
theorem ev2 (C a b d x : Nat) : evN 2 C a b d x = x ^^^ a ^^^ b := by simp [evN]
theorem ev3 (C a b d x : Nat) : evN 3 C a b d x = C := by simp [evN]
theorem ev4 (C a b d x : Nat) : evN 4 C a b d x = C := by simp [evN]
theorem ev5 (C a b d x : Nat) : evN 5 C a b d x = a ^^^ b := by simp [evN]
theorem ev6 (C a b d x : Nat) : evN 6 C a b d x = wnt a := by simp [evN]
theorem ev7 (C a b d x : Nat) : evN 7 C a b d x = a &&& b := by simp [evN]
theorem ev8 (C a b d x : Nat) : evN 8 C a b d x = a &&& C := by simp [evN]
theorem ev9 (C a b d x : Nat) : evN 9 C a b d x = wsl a (C % 64) := by simp [evN]
theorem ev10 (C a b d x : Nat) : evN 10 C a b d x = wsr a (C % 64) := by simp [evN]
theorem ev11 (C a b d x : Nat) : evN 11 C a b d x = rt a (C % 64) := by simp [evN]
theorem ev12 (C a b d x : Nat) : evN 12 C a b d x = a ^^^ b ^^^ d := by simp [evN]
theorem ev0 {K : Int} (h : K < 1 ∨ 12 < K) (C a b d x : Nat) : evN K C a b d x = 0 := by
  unfold evN
  rw [if_neg (by omega), if_neg (by omega), if_neg (by omega), if_neg (by omega), if_neg (by omega), if_neg (by omega), if_neg (by omega), if_neg (by omega), if_neg (by omega), if_neg (by omega), if_neg (by omega), if_neg (by omega)]
theorem kinds12 (K : Int) : K = 1 ∨ K = 2 ∨ K = 3 ∨ K = 4 ∨ K = 5 ∨ K = 6 ∨ K = 7 ∨ K = 8 ∨ K = 9 ∨ K = 10 ∨ K = 11 ∨ K = 12 ∨ (K < 1 ∨ 12 < K) := by omega
theorem evN_lt {K : Int} {C a b d x : Nat} (hC : C < 2 ^ 64) (ha : a < 2 ^ 64) (hb : b < 2 ^ 64) (hd : d < 2 ^ 64) (hx : x < 2 ^ 64) : evN K C a b d x < 2 ^ 64 := by
  rcases kinds12 K with rfl | rfl | rfl | rfl | rfl | rfl | rfl | rfl | rfl | rfl | rfl | rfl | h
  · rw [ev1]; exact hx
  · rw [ev2]; exact xr_lt (xr_lt hx ha) hb
  · rw [ev3]; exact hC
  · rw [ev4]; exact hC
  · rw [ev5]; exact xr_lt ha hb
  · rw [ev6]; exact wnt_lt _
  · rw [ev7]; exact an_lt ha
  · rw [ev8]; exact an_lt ha
  · rw [ev9]; exact wsl_lt _ _
  · rw [ev10]; exact wsr_lt ha _
  · rw [ev11]; exact rt_lt ha
  · rw [ev12]; exact xr_lt (xr_lt ha hb) hd
  · rw [ev0 h]; decide
/-- What is made of sums, put right for the kinds that don't keep them. -/
def evT (K : Int) (C t p0 p1 q0 q1 : Nat) : Nat := if K = 7 then t ^^^ p0 &&& q1 ^^^ q0 &&& p1 else if K = 3 ∨ K = 4 then t ^^^ C else if K = 6 then wnt t else t
theorem ev_sum (K : Int) {C a b d x a' b' d' x' : Nat} (_ : C < 2 ^ 64) (ha : a < 2 ^ 64) (_ : b < 2 ^ 64) (_ : d < 2 ^ 64) (_ : x < 2 ^ 64) (ha' : a' < 2 ^ 64) (_ : b' < 2 ^ 64) (_ : d' < 2 ^ 64) (_ : x' < 2 ^ 64) :
    evN K C (a ^^^ a') (b ^^^ b') (d ^^^ d') (x ^^^ x') = evT K C (evN K C a b d x ^^^ evN K C a' b' d' x') a b a' b' := by
  rcases kinds12 K with rfl | rfl | rfl | rfl | rfl | rfl | rfl | rfl | rfl | rfl | rfl | rfl | h
  · simp [evT, ev1]
  · simp only [evT, ev2]; simp; rw [x4 x x' a a', x4 (x ^^^ a) (x' ^^^ a') b b']
  · simp [evT, ev3]
  · simp [evT, ev4]
  · simp only [evT, ev5]; simp; exact x4 a a' b b'
  · simp only [evT, ev6]; simp; rw [wnt_wnt ha ha']
  · simp only [evT, ev7]; simp; rw [wan_xor]
  · simp only [evT, ev8]; simp; exact wmk_xor
  · simp only [evT, ev9]; simp; exact wsl_xor _ _ _
  · simp only [evT, ev10]; simp; exact wsr_xor ha ha' _
  · simp only [evT, ev11]; simp; exact rt_xor ha ha' (Nat.le_of_lt (Nat.mod_lt _ (by decide)))
  · simp only [evT, ev12]; simp; rw [x4 a a' b b', x4 (a ^^^ b) (a' ^^^ b') d d']
  · rw [ev0 h, ev0 h, ev0 h, evT, if_neg (by omega), if_neg (by omega), if_neg (by omega)]; rfl
end Go.Proofs.Ytffoinnllihdeaa
