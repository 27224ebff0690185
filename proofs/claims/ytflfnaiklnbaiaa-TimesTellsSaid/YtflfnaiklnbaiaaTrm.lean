import Derived.Test.YtflfnaiklnbaiaaGen
import Derived.Laws.Bits64
import Derived.Test.YtflfnaiklnbaiaaProg
import Derived.Laws.CopyOwn
/- General: traces: what may be, tallies, what is opened; as numbers. No program is named. -/
namespace Go.Proofs.Ytflfnaiklnbaiaa

/-- Do all of the first n have p? -/
def allB (p : Nat → Bool) : Nat → Bool
  | 0 => true
  | n + 1 => allB p n && p n
theorem allB_all {p : Nat → Bool} : ∀ {n : Nat}, allB p n = true → ∀ i, i < n → p i = true
  | n + 1, h, i, hi => by
    rw [allB, Bool.and_eq_true] at h
    by_cases e : i = n
    · subst e; exact h.2
    · exact allB_all h.1 i (by omega)
theorem allB_of {p : Nat → Bool} : ∀ {n : Nat}, (∀ i, i < n → p i = true) → allB p n = true
  | 0, _ => rfl
  | n + 1, h => by rw [allB, allB_of (fun i hi => h i (by omega)), h n (by omega)]; rfl
theorem allB_no {p : Nat → Bool} {n i : Nat} (hi : i < n) (h : p i = false) : allB p n = false := by
  cases e : allB p n
  · rfl
  · have := allB_all e i hi; rw [h] at this; cases this
/-- How many registers an op of kind K is of, in a machine of n shares. -/
def rgN (K n : Int) : Int := if n ≠ 2 ∧ n ≠ 3 then 0 else if K = 2 then n - 1 else if K = 5 ∨ K = 7 then 2 else if K = 6 ∨ K = 8 ∨ K = 9 ∨ K = 10 ∨ K = 11 then 1 else if K = 12 then n else 0
/-- The three registers of an op. -/
def rgL (o : Op6) (j : Nat) : Int := if j = 0 then o.A else if j = 1 then o.B else o.E
/-- Is the register of place j as it should be? -/
def rgB (o : Op6) (at_ n : Int) (j : Nat) : Bool := if (j : Int) < rgN o.K n then decide (0 ≤ rgL o j ∧ rgL o j < at_) else decide (rgL o j = -1)
def okC (K : Int) (C : Nat) : Bool := if K = 9 ∨ K = 10 ∨ K = 11 then decide (C < 64) else if K = 2 then decide (C < 1048576) else if K = 3 ∨ K = 4 ∨ K = 8 then true else decide (C = 0)
def okH (o : Op6) (n : Int) : Bool := decide ((n = 2 ∨ n = 3) ∧ 1 ≤ o.K ∧ o.K ≤ 12 ∧ -1 ≤ o.D ∧ o.D < n ∧ (o.K = 12 → o.D = -1))
/-- May an op stand at a place? -/
def okOp (o : Op6) (at_ n : Int) : Bool := okH o n && allB (rgB o at_ n) 3 && okC o.K o.C
/-- How many ops of the first i are of kind k. -/
def cnt (p : Op6 → Bool) (f : Nat → Op6) : Nat → Nat
  | 0 => 0
  | i + 1 => cnt p f i + (if p (f i) then 1 else 0)
/-- An op's class: its kind, or 0. -/
def kd (o : Op6) : Nat := if o.K < 1 ∨ 12 < o.K then 0 else o.K.toNat
/-- Is the op of place i as it should be, in a trace of N shares? -/
def okO (N : Int) (f : Nat → Op6) (i : Nat) : Bool := okOp (f i) (i : Int) N && decide ((f i).K = 2 → (f i).C = cnt (fun o => decide (o.K = 2)) f i)
/-- Where the block ahead ends. -/
def lastT (g : Nat → Sp3) (j : Nat) : Int := if j = 0 then 0 else (g (j - 1)).T
def okS (L : Nat) (g : Nat → Sp3) (j : Nat) : Bool := decide ((1 ≤ (g j).K ∧ (g j).K ≤ 3) ∧ lastT g j ≤ (g j).F ∧ (g j).F < (g j).T ∧ (g j).T ≤ (L : Int))
/-- May a trace be? -/
def trB (N : Int) (L M : Nat) (f : Nat → Op6) (g : Nat → Sp3) : Bool := decide ((N = 2 ∨ N = 3) ∧ L ≤ 1048576) && allB (okO N f) L && allB (okS L g) M
end Go.Proofs.Ytflfnaiklnbaiaa

/- Keccak's permutation, as numbers: words below 2^64 by place x + 5 y. No program is named. -/
namespace Go.Proofs.Ytflfnaiklnbaiaa

/-- A word, rotated to the left by m. -/
def rt (x m : Nat) : Nat := x * 2 ^ m % 2 ^ 64 ||| x / 2 ^ (64 - m)
theorem rt_lt {x m : Nat} (hx : x < 2 ^ 64) : rt x m < 2 ^ 64 := by
  unfold rt
  exact Nat.or_lt_two_pow (Nat.mod_lt _ (by decide)) (Nat.lt_of_le_of_lt (Nat.div_le_self _ _) hx)
theorem bit_none {x j : Nat} (hx : x < 2 ^ 64) (hj : 64 ≤ j) : x.testBit j = false :=
  Nat.testBit_lt_two_pow (Nat.lt_of_lt_of_le hx (Nat.pow_le_pow_right (by decide) hj))
theorem rt_bit {x m j : Nat} (hx : x < 2 ^ 64) (hm : m ≤ 64) (hj : j < 64) : (rt x m).testBit j = x.testBit ((j + (64 - m)) % 64) := by
  unfold rt
  rw [Nat.testBit_or, Nat.testBit_mod_two_pow, Nat.testBit_mul_two_pow, Nat.testBit_div_two_pow]
  simp only [hj, decide_true, Bool.true_and]
  by_cases h : m ≤ j
  · rw [show (j + (64 - m)) % 64 = j - m by omega]
    by_cases h0 : m = 0
    · subst h0
      rw [bit_none hx (show 64 ≤ j + (64 - 0) by omega)]
      simp
    · rw [bit_none hx (show 64 ≤ j + (64 - m) by omega)]
      simp [h]
  · rw [show (j + (64 - m)) % 64 = j + (64 - m) by omega]
    simp [h]
theorem word_ext {x y : Nat} (hx : x < 2 ^ 64) (hy : y < 2 ^ 64) (h : ∀ j, j < 64 → x.testBit j = y.testBit j) : x = y :=
  Nat.eq_of_testBit_eq fun j => by
    by_cases hj : j < 64
    · exact h j hj
    · rw [bit_none hx (by omega), bit_none hy (by omega)]
/-- Two states are one. -/
def Eq25 (f g : Nat → Nat) : Prop := ∀ i, i < 25 → f i = g i
theorem Eq25.refl (f : Nat → Nat) : Eq25 f f := fun _ _ => rfl
theorem Eq25.symm {f g : Nat → Nat} (h : Eq25 f g) : Eq25 g f := fun i hi => (h i hi).symm
theorem Eq25.trans {f g k : Nat → Nat} (h : Eq25 f g) (h' : Eq25 g k) : Eq25 f k := fun i hi => (h i hi).trans (h' i hi)
theorem xr_left (a b c : Nat) : a ^^^ (b ^^^ c) = b ^^^ (a ^^^ c) := by rw [← Nat.xor_assoc, Nat.xor_comm a b, Nat.xor_assoc]
/-! ### theta -/
/-! ### move -/
def dst (i : Nat) : Nat := i / 5 + 5 * ((2 * (i % 5) + 3 * (i / 5)) % 5)
def bm (t : Nat → Nat) (f : Nat → Nat) : Nat → Nat := fun i => rt (f (dst i)) ((64 - t i) % 64)
section
variable {t f g : Nat → Nat}
end
/-! ### chi -/
/-- .. bit by bit, of five bits. -/
def cb (q : Fin 5 → Bool) : Fin 5 → Bool := fun x => (q x).xor (q (x + 2) && !(q (x + 1)))
/-! ### rounds -/
section
variable {t mk f g : Nat → Nat}
end
end Go.Proofs.Ytflfnaiklnbaiaa

/- General: words of 64 bits, and what ops make of them, as numbers. No program is named. -/
namespace Go.Proofs.Ytflfnaiklnbaiaa

theorem wx64 {a b : Nat} (ha : a < 2 ^ 64) (hb : b < 2 ^ 64) : bits .xor .u64 (a : Int) (b : Int) = ((a ^^^ b : Nat) : Int) := bits_xor_u64_nat a b (by omega) (by omega)
theorem wn64 {a b : Nat} (ha : a < 2 ^ 64) (hb : b < 2 ^ 64) : bits .and .u64 (a : Int) (b : Int) = ((a &&& b : Nat) : Int) := by
  have h1 : (BitVec.ofInt 64 (a : Int)).toNat = a := by
    rw [BitVec.ofInt_natCast, BitVec.toNat_ofNat]; exact Nat.mod_eq_of_lt (by omega)
  have h2 : (BitVec.ofInt 64 (b : Int)).toNat = b := by
    rw [BitVec.ofInt_natCast, BitVec.toNat_ofNat]; exact Nat.mod_eq_of_lt (by omega)
  have hx : a &&& b < 2 ^ 64 := Nat.and_lt_two_pow _ hb
  show IntKind.u64.wrap ((BitVec.ofInt 64 (a : Int) &&& BitVec.ofInt 64 (b : Int)).toNat : Int) = _
  rw [BitVec.toNat_and, h1, h2, IntKind.wrap_u64]
  omega
theorem xr_lt {a b : Nat} (ha : a < 2 ^ 64) (hb : b < 2 ^ 64) : a ^^^ b < 2 ^ 64 := Nat.xor_lt_two_pow ha hb
theorem an_lt {a b : Nat} (ha : a < 2 ^ 64) : a &&& b < 2 ^ 64 := Nat.lt_of_le_of_lt Nat.and_le_left ha

/-- A word with each bit turned. -/
def wnt (a : Nat) : Nat := 2 ^ 64 - 1 - a
theorem wnt_lt (a : Nat) : wnt a < 2 ^ 64 := by unfold wnt; omega
theorem wnt_bit {a j : Nat} (ha : a < 2 ^ 64) (hj : j < 64) : (wnt a).testBit j = !a.testBit j := by
  unfold wnt
  rw [show 2 ^ 64 - 1 - a = 2 ^ 64 - (a + 1) by omega, Nat.testBit_two_pow_sub_succ ha]
  simp [hj]
theorem wnt_max {a : Nat} (ha : a < 2 ^ 64) : (2 ^ 64 - 1) ^^^ a = wnt a :=
  word_ext (xr_lt (by decide) ha) (wnt_lt _) fun j hj => by
    rw [Nat.testBit_xor, wnt_bit ha hj, Nat.testBit_two_pow_sub_one, decide_eq_true hj]; cases a.testBit j <;> rfl
/-- A word, moved up, 0s from below. -/
def wsl (a k : Nat) : Nat := a * 2 ^ k % 2 ^ 64
theorem wsl_lt (a k : Nat) : wsl a k < 2 ^ 64 := Nat.mod_lt _ (by decide)
theorem wsl_bit (a k : Nat) {j : Nat} (hj : j < 64) : (wsl a k).testBit j = (decide (k ≤ j) && a.testBit (j - k)) := by
  unfold wsl
  rw [Nat.testBit_mod_two_pow, ← Nat.shiftLeft_eq, Nat.testBit_shiftLeft]
  simp [hj]
/-- A word, moved down. -/
def wsr (a k : Nat) : Nat := a / 2 ^ k
theorem wsr_lt {a : Nat} (ha : a < 2 ^ 64) (k : Nat) : wsr a k < 2 ^ 64 := Nat.lt_of_le_of_lt (Nat.div_le_self _ _) ha
theorem wsr_bit (a k j : Nat) : (wsr a k).testBit j = a.testBit (j + k) := by
  unfold wsr
  rw [← Nat.shiftRight_eq_div_pow, Nat.testBit_shiftRight, Nat.add_comm]
theorem low_bit (n j : Nat) : (2 ^ n - 1).testBit j = decide (j < n) := Nat.testBit_two_pow_sub_one n j
theorem low_lt {n : Nat} (h : n ≤ 64) : 2 ^ n - 1 < 2 ^ 64 := by
  have := Nat.pow_le_pow_right (n := 2) (by decide) h
  omega
/-- The document's way: what is low enough, rotated. -/
theorem wsl_doc {a k : Nat} (ha : a < 2 ^ 64) (hk : k < 64) : rt (a &&& (2 ^ (64 - k) - 1)) k = wsl a k :=
  word_ext (rt_lt (an_lt ha)) (wsl_lt _ _) fun j hj => by
    rw [rt_bit (an_lt ha) (by omega) hj, wsl_bit _ _ hj, Nat.testBit_and, low_bit]
    by_cases h : k ≤ j
    · rw [show (j + (64 - k)) % 64 = j - k by omega, decide_eq_true (by omega : j - k < 64 - k), decide_eq_true h, Bool.and_true, Bool.true_and]
    · rw [decide_eq_false (by omega : ¬ (j + (64 - k)) % 64 < 64 - k), decide_eq_false h, Bool.and_false, Bool.false_and]
theorem wsr_doc {a k m : Nat} (ha : a < 2 ^ 64) (hk : k < 64) (hm : m = (64 - k) % 64) : rt a m &&& (2 ^ (64 - k) - 1) = wsr a k :=
  word_ext (an_lt (rt_lt ha)) (wsr_lt ha _) fun j hj => by
    rw [Nat.testBit_and, rt_bit ha (by omega) hj, low_bit, wsr_bit]
    by_cases h : j < 64 - k
    · rw [decide_eq_true h, Bool.and_true, show (j + (64 - m)) % 64 = j + k by omega]
    · rw [decide_eq_false h, Bool.and_false, bit_none ha (by omega)]
theorem x4 (a b c d : Nat) : (a ^^^ b) ^^^ (c ^^^ d) = (a ^^^ c) ^^^ (b ^^^ d) := by
  simp only [Nat.xor_assoc, xr_left b c d]

/-- What an op of kind K with constant C makes of words. -/
def evN (K : Int) (C a b d x : Nat) : Nat :=
  if K = 1 then x else if K = 2 then x ^^^ a ^^^ b else if K = 3 then C else if K = 4 then C else if K = 5 then a ^^^ b else if K = 6 then wnt a else if K = 7 then a &&& b else if K = 8 then a &&& C
  else if K = 9 then wsl a (C % 64) else if K = 10 then wsr a (C % 64) else if K = 11 then rt a (C % 64) else if K = 12 then a ^^^ b ^^^ d else 0
theorem ev1 (C a b d x : Nat) : evN 1 C a b d x = x := by simp [evN]
theorem ev2 (C a b d x : Nat) : evN 2 C a b d x = x ^^^ a ^^^ b := by simp [evN]
theorem ev3 (C a b d x : Nat) : evN 3 C a b d x = C := by simp [evN]
theorem ev4 (C a b d x : Nat) : evN 4 C a b d x = C := by simp [evN]
theorem ev5 (C a b d x : Nat) : evN 5 C a b d x = a ^^^ b := by simp [evN]
theorem ev6 (C a b d x : Nat) : evN 6 C a b d x = wnt a := by simp [evN]
theorem ev7 (C a b d x : Nat) : evN 7 C a b d x = a &&& b := by simp [evN]
theorem ev8 (C a b d x : Nat) : evN 8 C a b d x = a &&& C := by simp [evN]
theorem ev9 (C a b d x : Nat) : evN 9 C a b d x = wsl a (C % 64) := by simp [evN]
theorem ev10 (C a b d x : Nat) : evN 10 C a b d x = wsr a (C % 64) := by simp [evN]
theorem ev11 (C a b d x : Nat) : evN 11 C a b d x = rt a (C % 64) := by simp [evN]
theorem ev12 (C a b d x : Nat) : evN 12 C a b d x = a ^^^ b ^^^ d := by simp [evN]
theorem ev0 {K : Int} (h : K < 1 ∨ 12 < K) (C a b d x : Nat) : evN K C a b d x = 0 := by
  unfold evN
  rw [if_neg (by omega), if_neg (by omega), if_neg (by omega), if_neg (by omega), if_neg (by omega), if_neg (by omega), if_neg (by omega), if_neg (by omega), if_neg (by omega), if_neg (by omega), if_neg (by omega), if_neg (by omega)]
theorem kinds12 (K : Int) : K = 1 ∨ K = 2 ∨ K = 3 ∨ K = 4 ∨ K = 5 ∨ K = 6 ∨ K = 7 ∨ K = 8 ∨ K = 9 ∨ K = 10 ∨ K = 11 ∨ K = 12 ∨ (K < 1 ∨ 12 < K) := by omega
theorem evN_lt {K : Int} {C a b d x : Nat} (hC : C < 2 ^ 64) (ha : a < 2 ^ 64) (hb : b < 2 ^ 64) (hd : d < 2 ^ 64) (hx : x < 2 ^ 64) : evN K C a b d x < 2 ^ 64 := by
  rcases kinds12 K with rfl | rfl | rfl | rfl | rfl | rfl | rfl | rfl | rfl | rfl | rfl | rfl | h
  · rw [ev1]; exact hx
  · rw [ev2]; exact xr_lt (xr_lt hx ha) hb
  · rw [ev3]; exact hC
  · rw [ev4]; exact hC
  · rw [ev5]; exact xr_lt ha hb
  · rw [ev6]; exact wnt_lt _
  · rw [ev7]; exact an_lt ha
  · rw [ev8]; exact an_lt ha
  · rw [ev9]; exact wsl_lt _ _
  · rw [ev10]; exact wsr_lt ha _
  · rw [ev11]; exact rt_lt ha
  · rw [ev12]; exact xr_lt (xr_lt ha hb) hd
  · rw [ev0 h]; decide
end Go.Proofs.Ytflfnaiklnbaiaa

/- General: the machine that has every word as shares, as numbers. No program is named. -/
namespace Go.Proofs.Ytflfnaiklnbaiaa

def updO (f : Nat → Op6) (j : Nat) (o : Op6) : Nat → Op6 := fun i => if i = j then o else f i
def updS (g : Nat → Sp3) (j : Nat) (s : Sp3) : Nat → Sp3 := fun i => if i = j then s else g i
def updN (v : Nat → Nat) (j : Nat) (z : Nat) : Nat → Nat := fun i => if i = j then z else v i
theorem updO_at (f : Nat → Op6) (j : Nat) (o : Op6) : updO f j o j = o := by simp [updO]
theorem updO_no (f : Nat → Op6) {j i : Nat} (o : Op6) (h : i ≠ j) : updO f j o i = f i := by simp [updO, h]
theorem updS_at (g : Nat → Sp3) (j : Nat) (s : Sp3) : updS g j s j = s := by simp [updS]
theorem updS_no (g : Nat → Sp3) {j i : Nat} (s : Sp3) (h : i ≠ j) : updS g j s i = g i := by simp [updS, h]
theorem updN_at (v : Nat → Nat) (j z : Nat) : updN v j z j = z := by simp [updN]
theorem updN_no (v : Nat → Nat) {j i : Nat} (z : Nat) (h : i ≠ j) : updN v j z i = v i := by simp [updN, h]

/-- A machine: shares, bound, words of keys, masks drawn, where the open block began, ops ahead (of a dry one), the open block's kind, the error, ops, blocks, words; the tape's words, how many there are, how many are used, how many may be drawn. -/
structure Ms where
  n : Int
  most : Int
  words : Nat
  draws : Nat
  fr : Nat
  skip : Nat
  kind : Int
  e : Nat
  L : Nat
  f : Nat → Op6
  M : Nat
  g : Nat → Sp3
  v : Nat → Nat
  tw : Nat → Nat
  TN : Nat
  used : Nat
  free : Nat
  dry : Bool
/-- A register's word; 0 of none. -/
def wordAt (v : Nat → Nat) (L : Nat) (r : Int) : Nat := if 0 ≤ r ∧ r < (L : Int) then v r.toNat else 0
namespace Ms
def len (S : Ms) : Nat := S.skip + S.L
def bad (S : Ms) (o : Op6) : Bool := !(okOp o (S.len : Int) S.n) || decide (o.K = 2 ∧ o.C ≠ S.words)
def full (S : Ms) : Bool := !S.dry && decide (S.most ≤ (S.len : Int))
def out (S : Ms) (o : Op6) : Bool := decide (o.K = 1) && !S.dry && decide (S.free < 1 ∨ S.TN ≤ S.used)
def word (S : Ms) (o : Op6) (x : Nat) : Nat := if o.K = 1 ∧ S.dry = false then S.tw S.used else x
def makes (S : Ms) (o : Op6) (x : Nat) : Nat := evN o.K o.C (wordAt S.v S.L o.A) (wordAt S.v S.L o.B) (wordAt S.v S.L o.E) (S.word o x)
def put (S : Ms) (o : Op6) (x : Nat) : Ms :=
  { S with
    draws := if o.K = 1 then S.draws + 1 else S.draws
    words := if o.K = 2 then S.words + 1 else S.words
    used := if o.K = 1 ∧ S.dry = false then S.used + 1 else S.used
    free := if o.K = 1 ∧ S.dry = false then S.free - 1 else S.free
    L := S.L + 1
    f := updO S.f S.L o
    v := updN S.v S.L (S.makes o x) }
/-- An op is done, or an error stays. -/
def doS (S : Ms) (o : Op6) (x : Nat) : Ms := if S.e ≠ 0 then S else if S.bad o = true then { S with e := 1 } else if S.full = true then { S with e := 3 } else if S.out o = true then { S with e := 2 } else S.put o x
def doR (S : Ms) (o : Op6) : Int := if S.e ≠ 0 ∨ S.bad o = true ∨ S.full = true ∨ S.out o = true then -1 else (S.len : Int)
def beginS (S : Ms) (k : Int) : Ms := if S.e ≠ 0 then S else if S.kind ≠ 0 ∨ k < 1 ∨ 3 < k then { S with e := 1 } else { S with kind := k, fr := S.len }
def endS (S : Ms) : Ms :=
  if S.e ≠ 0 then S else if S.kind = 0 then { S with e := 1 }
  else if S.fr < S.len then { S with M := S.M + 1, g := updS S.g S.M ⟨S.kind, (S.fr : Int), (S.len : Int)⟩, kind := 0 } else { S with kind := 0 }
end Ms

/-! ### what a wet machine did is a trace that may be -/
/-- The outside word of the op of place i. -/
def wdAt (f : Nat → Op6) (mk : Nat → Nat) (TN : Nat) (ks : Nat → Nat) (KN : Nat) (i : Nat) : Nat :=
  if (f i).K = 1 ∧ cnt (fun o => decide (o.K = 1)) f i < TN then mk (cnt (fun o => decide (o.K = 1)) f i) else if (f i).K = 2 ∧ (f i).C < KN then ks (f i).C else 0
/-- Is the word of place i what its op makes? -/
def okW (f : Nat → Op6) (v : Nat → Nat) (L : Nat) (mk : Nat → Nat) (TN : Nat) (ks : Nat → Nat) (KN : Nat) (i : Nat) : Prop :=
  v i = evN (f i).K (f i).C (wordAt v L (f i).A) (wordAt v L (f i).B) (wordAt v L (f i).E) (wdAt f mk TN ks KN i)
structure Wi (S : Ms) (ks : Nat → Nat) (KN : Nat) : Prop where
  wet : S.dry = false
  sk : S.skip = 0
  hn : S.n = 2 ∨ S.n = 3
  ops : ∀ i, i < S.L → okO S.n S.f i = true
  wk : S.words = cnt (fun o => decide (o.K = 2)) S.f S.L
  kn : KN = S.words
  us : S.used = cnt (fun o => decide (o.K = 1)) S.f S.L
  le : S.used ≤ S.TN
  blk : ∀ j, j < S.M → okS S.L S.g j = true
  open_ : S.kind ≠ 0 → (1 ≤ S.kind ∧ S.kind ≤ 3) ∧ lastT S.g S.M ≤ (S.fr : Int) ∧ S.fr ≤ S.L
  last : lastT S.g S.M ≤ (S.L : Int)
  word : ∀ i, i < S.L → okW S.f S.v S.L S.tw S.TN ks KN i
theorem cnt_upd {p : Op6 → Bool} {f : Nat → Op6} {L : Nat} {o : Op6} : ∀ {i : Nat}, i ≤ L → cnt p (updO f L o) i = cnt p f i
  | 0, _ => rfl
  | i + 1, h => by rw [cnt, cnt, cnt_upd (by omega), updO_no f o (by omega)]
theorem cnt_updN {p : Op6 → Bool} {f : Nat → Op6} {L : Nat} {o : Op6} : cnt p (updO f L o) (L + 1) = cnt p f L + (if p o = true then 1 else 0) := by
  rw [cnt, cnt_upd (Nat.le_refl _), updO_at]
theorem okO_upd {n : Int} {f : Nat → Op6} {L : Nat} {o : Op6} {i : Nat} (h : i < L) : okO n (updO f L o) i = okO n f i := by
  unfold okO
  rw [updO_no f o (by omega), cnt_upd (by omega)]
/-- Registers of an op that may stand. -/
theorem okOp_regs {o : Op6} {i : Nat} {n : Int} (h : okOp o (i : Int) n = true) : o.A < (i : Int) ∧ o.B < (i : Int) ∧ o.E < (i : Int) := by
  unfold okOp at h
  rw [Bool.and_eq_true, Bool.and_eq_true] at h
  have hr := allB_all h.1.2
  have key : ∀ j, j < 3 → rgL o j < (i : Int) := fun j hj => by
    have := hr j hj
    unfold rgB at this
    split at this
    · have := of_decide_eq_true this; exact this.2
    · have := of_decide_eq_true this; omega
  exact ⟨key 0 (by omega), key 1 (by omega), key 2 (by omega)⟩
theorem wordAt_upd {v : Nat → Nat} {L z : Nat} {r : Int} (h : r < (L : Int)) : wordAt (updN v L z) (L + 1) r = wordAt v L r := by
  unfold wordAt
  by_cases h0 : 0 ≤ r
  · rw [if_pos ⟨h0, by omega⟩, if_pos ⟨h0, h⟩, updN_no v z (by omega)]
  · rw [if_neg (fun e => h0 e.1), if_neg (fun e => h0 e.1)]
theorem okS_more {L : Nat} {g : Nat → Sp3} {j : Nat} (h : okS L g j = true) : okS (L + 1) g j = true := by
  unfold okS at h ⊢
  have := of_decide_eq_true h
  exact decide_eq_true ⟨this.1, this.2.1, this.2.2.1, by omega⟩
theorem lastT_upd {g : Nat → Sp3} {M : Nat} {s : Sp3} {j : Nat} (h : j ≤ M) : lastT (updS g M s) j = lastT g j := by
  unfold lastT
  split
  · rfl
  · rw [updS_no g s (by omega)]
theorem okS_upd {L : Nat} {g : Nat → Sp3} {M : Nat} {s : Sp3} {j : Nat} (h : j < M) : okS L (updS g M s) j = okS L g j := by
  unfold okS
  rw [lastT_upd (by omega), updS_no g s (by omega)]
theorem Wi.fails {S : Ms} {ks : Nat → Nat} {KN : Nat} (h : Wi S ks KN) (e : Nat) : Wi { S with e := e } ks KN := ⟨h.wet, h.sk, h.hn, h.ops, h.wk, h.kn, h.us, h.le, h.blk, h.open_, h.last, h.word⟩
theorem Wi.begins {S : Ms} {ks : Nat → Nat} {KN : Nat} (h : Wi S ks KN) (k : Int) : Wi (S.beginS k) ks KN := by
  unfold Ms.beginS
  split
  · exact h
  · split
    · exact h.fails 1
    · rename_i h2
      have hl : S.len = S.L := by unfold Ms.len; rw [h.sk]; omega
      exact ⟨h.wet, h.sk, h.hn, h.ops, h.wk, h.kn, h.us, h.le, h.blk, fun _ => ⟨by show 1 ≤ k ∧ k ≤ 3; omega, by show lastT S.g S.M ≤ (S.len : Int); rw [hl]; exact h.last, by show S.len ≤ S.L; omega⟩, h.last, h.word⟩
theorem Wi.ends {S : Ms} {ks : Nat → Nat} {KN : Nat} (h : Wi S ks KN) : Wi S.endS ks KN := by
  have hl : S.len = S.L := by unfold Ms.len; rw [h.sk]; omega
  unfold Ms.endS
  split
  · exact h
  · split
    · exact h.fails 1
    · rename_i hk
      obtain ⟨o1, o2, o3⟩ := h.open_ hk
      split
      · rename_i hlt
        refine ⟨h.wet, h.sk, h.hn, h.ops, h.wk, h.kn, h.us, h.le, fun j hj => ?_, fun e => absurd rfl e, ?_, h.word⟩
        · show okS S.L (updS S.g S.M ⟨S.kind, (S.fr : Int), (S.len : Int)⟩) j = true
          have hj' : j < S.M + 1 := hj
          by_cases e : j = S.M
          · subst e
            unfold okS
            rw [lastT_upd (Nat.le_refl _), updS_at]
            exact decide_eq_true ⟨o1, o2, by show (S.fr : Int) < (S.len : Int); omega, by show (S.len : Int) ≤ (S.L : Int); omega⟩
          · rw [okS_upd (by omega)]; exact h.blk j (by omega)
        · show lastT (updS S.g S.M ⟨S.kind, (S.fr : Int), (S.len : Int)⟩) (S.M + 1) ≤ (S.L : Int)
          unfold lastT
          rw [if_neg (by omega), Nat.add_sub_cancel, updS_at]
          show (S.len : Int) ≤ (S.L : Int)
          omega
      · exact ⟨h.wet, h.sk, h.hn, h.ops, h.wk, h.kn, h.us, h.le, h.blk, fun e => absurd rfl e, h.last, h.word⟩
theorem cnt_lt {p : Op6 → Bool} {f : Nat → Op6} {i : Nat} (hp : p (f i) = true) : ∀ {L : Nat}, i < L → cnt p f i < cnt p f L
  | 0, h => by omega
  | L + 1, h => by
    rw [cnt]
    by_cases e : i = L
    · subst e; rw [if_pos hp]; omega
    · have := cnt_lt (L := L) hp (by omega); omega
theorem ev_x {K : Int} {C a b d x y : Nat} (h1 : K ≠ 1) (h2 : K ≠ 2) : evN K C a b d x = evN K C a b d y := by
  unfold evN
  rw [if_neg h1, if_neg h1, if_neg h2, if_neg h2]
theorem Wi.puts {S : Ms} {ks : Nat → Nat} {KN : Nat} (h : Wi S ks KN) (o : Op6) (x : Nat) (hb : S.bad o = false) (ho : S.out o = false) (ks' : Nat → Nat) (KN' : Nat)
    (hk : o.K = 2 → KN' = KN + 1 ∧ ks' = updN ks KN x) (hk' : o.K ≠ 2 → KN' = KN ∧ ks' = ks) : Wi (S.put o x) ks' KN' := by
  have hl : S.len = S.L := by unfold Ms.len; rw [h.sk]; omega
  unfold Ms.bad at hb
  rw [Bool.or_eq_false_iff, Bool.not_eq_false', hl] at hb
  obtain ⟨hb1, hb2⟩ := hb
  have hc : o.K = 2 → o.C = S.words := fun e => by
    by_cases hc : o.C = S.words
    · exact hc
    · rw [decide_eq_true ⟨e, hc⟩] at hb2; cases hb2
  obtain ⟨rA, rB, rE⟩ := okOp_regs hb1
  have hout : o.K = 1 → S.used < S.TN ∧ 1 ≤ S.free := fun e => by
    unfold Ms.out at ho
    rw [decide_eq_true e, h.wet, Bool.not_false, Bool.true_and, Bool.true_and] at ho
    have := of_decide_eq_false ho
    omega
  have hws : (if o.K = 2 then S.words + 1 else S.words) = cnt (fun o => decide (o.K = 2)) (updO S.f S.L o) (S.L + 1) := by
    rw [cnt_updN, ← h.wk]
    by_cases e : o.K = 2
    · rw [if_pos e, if_pos (by simpa using e)]
    · rw [if_neg e, if_neg (by simpa using e)]; rfl
  have hus : (if o.K = 1 ∧ S.dry = false then S.used + 1 else S.used) = cnt (fun o => decide (o.K = 1)) (updO S.f S.L o) (S.L + 1) := by
    rw [cnt_updN, ← h.us]
    by_cases e : o.K = 1
    · rw [if_pos ⟨e, h.wet⟩, if_pos (by simpa using e)]
    · rw [if_neg (fun q => e q.1), if_neg (by simpa using e)]; rfl
  have hkw : KN' = (if o.K = 2 then S.words + 1 else S.words) := by
    by_cases e : o.K = 2
    · rw [(hk e).1, if_pos e, h.kn]
    · rw [(hk' e).1, if_neg e, h.kn]
  refine ⟨h.wet, h.sk, h.hn, fun i hi => ?_, hws, hkw, hus, ?_, fun j hj => okS_more (h.blk j hj), fun e => ?_, ?_, fun i hi => ?_⟩
  · show okO S.n (updO S.f S.L o) i = true
    have hi' : i < S.L + 1 := hi
    by_cases e : i = S.L
    · subst e
      unfold okO
      rw [updO_at, cnt_upd (Nat.le_refl _), hb1, Bool.true_and]
      exact decide_eq_true (fun e2 => by rw [hc e2, h.wk])
    · rw [okO_upd (by omega)]; exact h.ops i (by omega)
  · show (if o.K = 1 ∧ S.dry = false then S.used + 1 else S.used) ≤ S.TN
    split
    · rename_i e; have := (hout e.1).1; omega
    · exact h.le
  · obtain ⟨o1, o2, o3⟩ := h.open_ e
    exact ⟨o1, o2, by show S.fr ≤ S.L + 1; omega⟩
  · have := h.last
    show lastT S.g S.M ≤ ((S.L + 1 : Nat) : Int)
    omega
  · show okW (updO S.f S.L o) (updN S.v S.L (S.makes o x)) (S.L + 1) S.tw S.TN ks' KN' i
    have hi' : i < S.L + 1 := hi
    by_cases e : i = S.L
    · subst e
      unfold okW
      rw [updN_at, updO_at, wordAt_upd rA, wordAt_upd rB, wordAt_upd rE]
      unfold Ms.makes
      by_cases e1 : o.K = 1
      · have hw : wdAt (updO S.f S.L o) S.tw S.TN ks' KN' S.L = S.word o x := by
          unfold wdAt Ms.word
          rw [updO_at, cnt_upd (Nat.le_refl _), ← h.us, if_pos ⟨e1, (hout e1).1⟩, if_pos ⟨e1, h.wet⟩]
        rw [hw]
      · by_cases e2 : o.K = 2
        · have a1 : wdAt (updO S.f S.L o) S.tw S.TN ks' KN' S.L = x := by
            have hkn := h.kn
            unfold wdAt
            rw [updO_at, if_neg (fun q => e1 q.1), if_pos ⟨e2, by rw [(hk e2).1, hc e2]; omega⟩, (hk e2).2, hc e2, ← h.kn, updN_at]
          have a2 : S.word o x = x := by
            unfold Ms.word
            rw [if_neg (fun q => e1 q.1)]
          rw [a1, a2]
        · exact ev_x e1 e2
    · have hi2 : i < S.L := by omega
      have h0 := h.word i hi2
      have hr : okOp (S.f i) (i : Int) S.n = true := by
        have := h.ops i hi2
        unfold okO at this
        rw [Bool.and_eq_true] at this
        exact this.1
      have hkey : (S.f i).K = 2 → (S.f i).C < KN := fun e2 => by
        have := h.ops i hi2
        unfold okO at this
        rw [Bool.and_eq_true] at this
        have hcc := of_decide_eq_true this.2 e2
        have := cnt_lt (p := fun o => decide (o.K = 2)) (f := S.f) (i := i) (by simpa using e2) hi2
        rw [h.kn, h.wk, hcc]
        exact this
      obtain ⟨qA, qB, qE⟩ := okOp_regs hr
      unfold okW at h0 ⊢
      have hw : wdAt (updO S.f S.L o) S.tw S.TN ks' KN' i = wdAt S.f S.tw S.TN ks KN i := by
        unfold wdAt
        rw [updO_no S.f o e, cnt_upd (by omega)]
        by_cases e2 : (S.f i).K = 2
        · have hlt := hkey e2
          have h1 : ¬ ((S.f i).K = 1 ∧ cnt (fun o => decide (o.K = 1)) S.f i < S.TN) := fun q => by omega
          have r1 : (if (S.f i).K = 2 ∧ (S.f i).C < KN then ks (S.f i).C else 0) = ks (S.f i).C := if_pos ⟨e2, hlt⟩
          have r2 : (if (S.f i).K = 2 ∧ (S.f i).C < KN' then ks' (S.f i).C else 0) = ks (S.f i).C := by
            by_cases e3 : o.K = 2
            · rw [(hk e3).1, (hk e3).2, if_pos ⟨e2, by omega⟩, updN_no ks x (by omega)]
            · rw [(hk' e3).1, (hk' e3).2, if_pos ⟨e2, hlt⟩]
          rw [r1, r2]
        · rw [if_neg (fun (q : (S.f i).K = 2 ∧ (S.f i).C < KN') => e2 q.1), if_neg (fun (q : (S.f i).K = 2 ∧ (S.f i).C < KN) => e2 q.1)]
      rw [hw, updO_no S.f o e, updN_no S.v _ e, wordAt_upd (by omega), wordAt_upd (by omega), wordAt_upd (by omega)]
      exact h0
/-- An op is done or not; a key's word is told besides if it is. -/
theorem Wi.does {S : Ms} {ks : Nat → Nat} {KN : Nat} (h : Wi S ks KN) (o : Op6) (x : Nat) :
    if o.K = 2 ∧ S.doR o ≠ -1 then Wi (S.doS o x) (updN ks KN x) (KN + 1) else Wi (S.doS o x) ks KN := by
  unfold Ms.doS Ms.doR
  by_cases h0 : S.e ≠ 0
  · rw [if_pos h0, if_neg (by rw [if_pos (.inl h0)]; simp)]; exact h
  · rw [if_neg h0]
    by_cases h1 : S.bad o = true
    · rw [if_pos h1, if_neg (by rw [if_pos (.inr (.inl h1))]; simp)]; exact h.fails 1
    · rw [if_neg h1]
      by_cases h2 : S.full = true
      · rw [if_pos h2, if_neg (by rw [if_pos (.inr (.inr (.inl h2)))]; simp)]; exact h.fails 3
      · rw [if_neg h2]
        by_cases h3 : S.out o = true
        · rw [if_pos h3, if_neg (by rw [if_pos (.inr (.inr (.inr h3)))]; simp)]; exact h.fails 2
        · rw [if_neg h3]
          have hd : (if S.e ≠ 0 ∨ S.bad o = true ∨ S.full = true ∨ S.out o = true then (-1 : Int) else (S.len : Int)) = (S.len : Int) := if_neg (by rintro (q | q | q | q) <;> contradiction)
          rw [hd]
          by_cases hk : o.K = 2
          · rw [if_pos ⟨hk, by omega⟩]
            exact h.puts o x (by simpa using h1) (by simpa using h3) _ _ (fun _ => ⟨rfl, rfl⟩) (fun q => absurd hk q)
          · rw [if_neg (fun q => hk q.1)]
            exact h.puts o x (by simpa using h1) (by simpa using h3) _ _ (fun q => absurd q hk) (fun _ => ⟨rfl, rfl⟩)
/-- What the law asks at its end. -/
theorem Wi.trace {S : Ms} {ks : Nat → Nat} {KN : Nat} (h : Wi S ks KN) (hL : S.L ≤ 1048576) : trB S.n S.L S.M S.f S.g = true := by
  unfold trB
  rw [decide_eq_true ⟨h.hn, hL⟩, allB_of h.ops, allB_of h.blk]
  rfl
end Go.Proofs.Ytflfnaiklnbaiaa

set_option maxRecDepth 100000
namespace Go.Proofs.Ytflfnaiklnbaiaa
open Go.RowKit

def byteAt (zs : List Int) (p : Int) : Int := if 0 ≤ p ∧ p < zs.length then nth zs p.toNat else 0
theorem wf_u8 {z : Int} (h : (Lit.int .u8 z).wf = true) : 0 ≤ z ∧ z ≤ 255 := bounds_u8 h
def rlTo (zs : List Int) (a : Int) : Nat → Int
  | 0 => 0
  | k + 1 => IntKind.u64.wrap (IntKind.u64.wrap (rlTo zs a k * 256) + IntKind.u64.wrap (byteAt zs (a + (7 - k))))
def rl (zs : List Int) (a : Int) : Int := if a < -8 ∨ zs.length ≤ a then 0 else rlTo zs a 8

end Go.Proofs.Ytflfnaiklnbaiaa

namespace Go.Proofs.Ytflfnaiklnbaiaa
open Go.RowKit

def rrTo (x : Int) : Nat → Int
  | 0 => x
  | k + 1 => IntKind.u64.wrap (IntKind.u64.wrap (rrTo x k * 2) + rrTo x k / 9223372036854775808)

set_option maxHeartbeats 400000 in
theorem mod_any (k : Int) (w : World) :
    Calls Try.prog 64 #[.int .i64 k, .int .i64 64] w fun e w' => e = .returned (.int .i64 (k % 64)) ∧ w' = w := by
  have hm : k.tmod 64 = if k % 64 ≠ 0 ∧ k < 0 then k % 64 - 64 else k % 64 := by
    rw [Int.tmod_eq_emod]; split <;> split <;> simp_all <;> omega
  by_cases hc : k % 64 ≠ 0 ∧ k < 0
  · rw [if_pos hc] at hm
    obtain ⟨q, hq⟩ : ∃ q, k.tmod 64 = q := ⟨_, rfl⟩
    have h1 : q < 0 := by omega
    have h2 : -64 ≤ q := by omega
    have HQ := hid (show q + 64 = k % 64 by omega)
    clear hm hc
    go_enter Try.func64, Try.ntmps64
    go_wp2
    go_ret
    exact ⟨ret_int HQ.out, rfl⟩
  · rw [if_neg hc] at hm
    obtain ⟨q, hq⟩ : ∃ q, k.tmod 64 = q := ⟨_, rfl⟩
    have h1 : 0 ≤ q := by omega
    have HQ := hid (show q = k % 64 by omega)
    clear hm hc
    go_enter Try.func64, Try.ntmps64
    go_wp2
    go_ret
    exact ⟨ret_int HQ.out, rfl⟩

set_option maxHeartbeats 400000 in
theorem refrot_any (x k : Int) (w : World) (hx : 0 ≤ x ∧ x ≤ 18446744073709551615) :
    Calls Try.prog 51 #[.int .u64 x, .int .i64 k] w fun e w' => e = .returned (.int .u64 (rrTo x (k % 64).toNat)) ∧ w' = w := by
  obtain ⟨n, hn, hn2⟩ : ∃ n : Nat, k % 64 = n ∧ n < 64 := ⟨(k % 64).toNat, by omega, by omega⟩
  have HN := hid hn
  clear hn
  have hbd : ∀ k, 0 ≤ rrTo x k ∧ rrTo x k ≤ 18446744073709551615 := by
    intro k
    cases k with
    | zero => exact hx
    | succ k => simp only [rrTo, IntKind.wrap_u64]; omega
  have HB := hid hbd
  clear hbd hx
  go_enter Try.func51, Try.ntmps51
  go_wp2
  go_loop [0, 5] (fun y i => ∃ j : Nat, j ≤ n ∧ i = .int .i64 j ∧ y = .int .u64 (rrTo x j)) (fun _ i => n - (intOf i).toNat)
  case atStart => exact ⟨0, by omega, rfl, rfl⟩
  case round =>
    obtain ⟨j, hj, rfl, rfl⟩ := hrel
    have hb1 := (HB.out j).1
    have hb2 := (HB.out j).2
    have HS := hid (show rrTo x (j + 1) = _ from rfl)
    obtain ⟨m, hm⟩ : ∃ m, k % 64 = m := ⟨_, rfl⟩
    have HM := hid (show m = n by rw [← hm]; exact HN.out)
    have hmn : (m : Int) ≤ n := by rw [HM.out]; omega
    have hmn' : (n : Int) ≤ m := by rw [HM.out]; omega
    by_cases hlt : j < n
    · go_wp2_with (go_at_call 64; refine (mod_any _ _).mono ?_; rintro e w' ⟨rfl, rfl⟩)
      go_round
      case rel => exact ⟨j + 1, by omega, by go_num, rfl⟩
      case measure => simp [intOf]; omega
    · go_wp2_with (go_at_call 64; refine (mod_any _ _).mono ?_; rintro e w' ⟨rfl, rfl⟩)
      go_ret
      obtain rfl : j = n := by omega
      exact ⟨by rw [HN.out]; simp, rfl⟩

theorem and63 (k : Int) : bits .and .u64 (IntKind.u64.wrap k) 63 = k % 64 := by
  rw [u64_and _ _ (by rw [IntKind.wrap_u64]; omega) (by rw [IntKind.wrap_u64]; omega) (by omega) (by omega), IntKind.wrap_u64]
  have h : (63 : Int).toNat = 2 ^ 6 - 1 := rfl
  rw [h, Nat.and_two_pow_sub_one_eq_mod]
  omega
def rotl (x : Int) (m : Nat) : Int := bits .or .u64 (IntKind.u64.wrap (x * 2 ^ m)) (x / 2 ^ (64 - m))
set_option maxHeartbeats 400000 in
theorem rot64_any (x k : Int) (w : World) (hx : 0 ≤ x ∧ x ≤ 18446744073709551615) :
    Calls Try.prog 92 #[.int .u64 x, .int .i64 k] w fun e w' => e = .returned (.int .u64 (rotl x (k % 64).toNat)) ∧ w' = w := by
  obtain ⟨hx1, hx2⟩ := hx
  have hb := and63 k
  obtain ⟨m, hm, hm64⟩ : ∃ m : Nat, k % 64 = m ∧ m < 64 := ⟨(k % 64).toNat, by omega, by omega⟩
  rw [hm] at hb ⊢
  clear hm
  go_enter Try.func92, Try.ntmps92
  go_wp2
  go_ret
  exact ⟨rfl, rfl⟩
set_option maxHeartbeats 400000 in
theorem orot_any (x k : Int) (w : World) (hx : 0 ≤ x ∧ x ≤ 18446744073709551615) :
    Calls Try.prog 88 #[.int .u64 x, .int .i64 k] w fun e w' => e = .returned (.int .u64 (rotl x (k % 64).toNat)) ∧ w' = w := by
  go_enter Try.func88, Try.ntmps88
  go_wp2_with (go_at_call 92; refine (rot64_any _ _ _ hx).mono ?_; rintro e w' ⟨rfl, rfl⟩)
  go_ret
  exact ⟨rfl, rfl⟩
def rlow : Nat → Int
  | 0 => 0
  | k + 1 => IntKind.u64.wrap (IntKind.u64.wrap (rlow k * 2) + 1)
set_option maxHeartbeats 400000 in
theorem reflow_any (n : Int) (w : World) :
    Calls Try.prog 52 #[.int .i64 n] w fun e w' => e = .returned (.int .u64 (rlow (min (max n 0) 64).toNat)) ∧ w' = w := by
  obtain ⟨m, hm, hm64⟩ : ∃ m : Nat, min (max n 0) 64 = m ∧ m ≤ 64 := ⟨(min (max n 0) 64).toNat, by omega, by omega⟩
  have HM := hid hm
  clear hm
  go_enter Try.func52, Try.ntmps52
  go_wp2
  go_loop [3, 4] (fun y i => ∃ j : Nat, j ≤ m ∧ i = .int .i64 j ∧ y = .int .u64 (rlow j)) (fun _ i => m - (intOf i).toNat)
  case atStart => exact ⟨0, by omega, rfl, rfl⟩
  case round =>
    obtain ⟨j, hj, rfl, rfl⟩ := hrel
    by_cases hlt : j < m
    · have h1 : (j : Int) < n := by have := HM.out; omega
      go_wp2
      go_round
      case rel => exact ⟨j + 1, by omega, by go_num, rfl⟩
      case measure => simp [intOf]; omega
    · have h0 : j = m := by omega
      by_cases h1 : (j : Int) < n
      · have h2 : ¬ (j : Int) < 64 := by have := HM.out; omega
        clear h0
        go_wp2
        go_ret
        obtain rfl : j = m := by omega
        exact ⟨by rw [HM.out]; simp, rfl⟩
      · clear h0
        go_wp2
        go_ret
        obtain rfl : j = m := by omega
        exact ⟨by rw [HM.out]; simp, rfl⟩
end Go.Proofs.Ytflfnaiklnbaiaa

namespace Go.Proofs.Ytflfnaiklnbaiaa
open Go.RowKit
end Go.Proofs.Ytflfnaiklnbaiaa

namespace Go.Proofs.Ytflfnaiklnbaiaa
open Go.RowKit

/-! ### octet.Store -/
/-! ### octet.Xor and the reference's -/
end Go.Proofs.Ytflfnaiklnbaiaa

namespace Go.Proofs.Ytflfnaiklnbaiaa
open Go.RowKit

/-! ### Inc -/
def Bs (L : List Int) : Prop := ∀ z ∈ L, 0 ≤ z ∧ z ≤ 255
theorem Bs.set {L : List Int} (h : Bs L) (j : Nat) {z : Int} (hz : 0 ≤ z ∧ z ≤ 255) : Bs (L.set j z) := by
  intro x hx
  rcases List.mem_or_eq_of_mem_set hx with hx | rfl
  · exact h x hx
  · exact hz
end Go.Proofs.Ytflfnaiklnbaiaa

namespace Go.Proofs.Ytflfnaiklnbaiaa
open Go.RowKit

/-! ### Double -/
end Go.Proofs.Ytflfnaiklnbaiaa

namespace Go.Proofs.Ytflfnaiklnbaiaa
open Go.RowKit

end Go.Proofs.Ytflfnaiklnbaiaa

/- The octet layer's plain mathematics: what the program computes is what the reference computes. No walk. -/
namespace Go.Proofs.Ytflfnaiklnbaiaa
open Go.RowKit

theorem wu64 (n : Int) : IntKind.u64.wrap n = n % 18446744073709551616 := IntKind.wrap_u64 n

/-! Load -/
theorem or_add (x b k : Nat) (hx : x < 2 ^ k) : x ||| b * 2 ^ k = x + b * 2 ^ k := by
  rw [Nat.or_comm, ← Nat.shiftLeft_eq, ← Nat.shiftLeft_add_eq_or_of_lt hx]
  omega
/-! Store -/
/-! Low -/
/-! Rot -/
theorem rrTo_step (q t h c : Nat) (ht : t + q ≤ 9223372036854775808) (hh : h < q) (hc : c ≤ 1) :
    IntKind.u64.wrap (IntKind.u64.wrap (((c * 9223372036854775808 + t + h : Nat) : Int) * 2) + ((c * 9223372036854775808 + t + h : Nat) : Int) / 9223372036854775808) = ((t * 2 + h * 2 + c : Nat) : Int) := by
  obtain ⟨u, hu⟩ : ∃ u : Nat, u = t + h := ⟨_, rfl⟩
  have hu2 : u < 9223372036854775808 := by omega
  have e0 : c * 9223372036854775808 + t + h = c * 9223372036854775808 + u := by omega
  have hc' : c = 0 ∨ c = 1 := by omega
  rw [e0]
  have e1 : ((c * 9223372036854775808 + u : Nat) : Int) / 9223372036854775808 = (c : Int) := by omega
  have e2 : IntKind.u64.wrap (((c * 9223372036854775808 + u : Nat) : Int) * 2) = ((2 * u : Nat) : Int) := by
    rw [wu64]; rcases hc' with rfl | rfl <;> omega
  rw [e1, e2, wu64]
  rcases hc' with rfl | rfl <;> omega
/-- after m steps: the low 64-m bits lie m higher, the high m bits lie below. -/
theorem rrTo_form (X : Nat) (hX : X < 18446744073709551616) : ∀ m, m < 64 → rrTo (X : Int) m = (((X % 2 ^ (64 - m)) * 2 ^ m + X / 2 ^ (64 - m) : Nat) : Int)
  | 0, _ => by simp [rrTo]; omega
  | m + 1, hm => by
    have ih := rrTo_form X hX m (by omega)
    rw [rrTo, ih]
    obtain ⟨p, hp⟩ : ∃ p, 2 ^ (64 - (m + 1)) = p := ⟨_, rfl⟩
    obtain ⟨q, hq⟩ : ∃ q, 2 ^ m = q := ⟨_, rfl⟩
    have hp2 : 2 ^ (64 - m) = 2 * p := by rw [← hp, show 64 - m = (64 - (m + 1)) + 1 by omega, Nat.pow_succ, Nat.mul_comm]
    have hpq : p * q = 9223372036854775808 := by
      rw [← hp, ← hq, ← Nat.pow_add, show 64 - (m + 1) + m = 63 by omega]
    have hp0 : 0 < p := by rw [← hp]; exact Nat.two_pow_pos _
    have hq0 : 0 < q := by rw [← hq]; exact Nat.two_pow_pos _
    have hX2 : X < 2 * p * q * 1 * 1 := by rw [Nat.mul_one, Nat.mul_one, Nat.mul_assoc, hpq]; omega
    rw [Nat.pow_succ, hp, hp2, hq]
    have hH : X / (2 * p) < q := by
      rw [Nat.div_lt_iff_lt_mul (by omega)]
      calc X < 2 * p * q * 1 * 1 := hX2
        _ = q * (2 * p) := by rw [Nat.mul_one, Nat.mul_one, Nat.mul_comm]
    have hc : X / p % 2 ≤ 1 := by omega
    have e1 : X / p = 2 * (X / (2 * p)) + X / p % 2 := by
      have : X / (2 * p) = X / p / 2 := by rw [Nat.mul_comm, Nat.div_div_eq_div_mul]
      omega
    have e2 : X % (2 * p) = (X / p % 2) * p + X % p := by
      have h1 := Nat.div_add_mod X (2 * p)
      have h2 := Nat.div_add_mod X p
      have h3 : p * (X / p) = 2 * p * (X / (2 * p)) + (X / p % 2) * p := by
        conv => lhs; rw [e1]
        rw [Nat.mul_add]
        congr 1
        · rw [Nat.mul_comm 2 p, Nat.mul_assoc]
        · rw [Nat.mul_comm]
      omega
    have hL : X % p < p := Nat.mod_lt _ hp0
    have e3 : (X % (2 * p)) * q = (X / p % 2) * 9223372036854775808 + X % p * q := by
      rw [e2, Nat.add_mul, Nat.mul_assoc, hpq]
    have hLt : X % p * q + q ≤ 9223372036854775808 := by
      rw [← hpq, ← Nat.succ_mul]
      exact Nat.mul_le_mul_right _ hL
    rw [e3]
    have := rrTo_step q (X % p * q) (X / (2 * p)) (X / p % 2) hLt hH hc
    rw [this]
    have e4 : X % p * (q * 2) = X % p * q * 2 := by rw [Nat.mul_assoc]
    rw [e4]
    congr 1
    omega
theorem rot_math (x : Int) (hx : 0 ≤ x ∧ x ≤ 18446744073709551615) (m : Nat) (hm : m < 64) : rotl x m = rrTo x m := by
  obtain ⟨X, rfl⟩ := Int.eq_ofNat_of_zero_le hx.1
  have hX : X < 18446744073709551616 := by omega
  show rotl (X : Int) m = rrTo (X : Int) m
  rw [rrTo_form X hX m hm]
  unfold rotl
  have d : ((X : Int) / 2 ^ (64 - m)) = ((X / 2 ^ (64 - m) : Nat) : Int) := by simp
  have hsplit : 2 ^ (64 - m) * 2 ^ m = 18446744073709551616 := by rw [← Nat.pow_add, show 64 - m + m = 64 by omega]
  have hA : X * 2 ^ m % 18446744073709551616 = X % 2 ^ (64 - m) * 2 ^ m := by
    rw [← hsplit, Nat.mul_mod_mul_right]
  have e : IntKind.u64.wrap ((X : Int) * 2 ^ m) = ((X % 2 ^ (64 - m) * 2 ^ m : Nat) : Int) := by
    rw [wu64, ← hA]; simp
  have hB : X / 2 ^ (64 - m) < 2 ^ m := by
    rw [Nat.div_lt_iff_lt_mul (Nat.two_pow_pos _), Nat.mul_comm, hsplit]; exact hX
  have hM : X % 2 ^ (64 - m) * 2 ^ m < 18446744073709551616 := by rw [← hA]; exact Nat.mod_lt _ (by decide)
  rw [e, d, bits_or_u64_nat _ _ hM (by have := Nat.div_le_self X (2 ^ (64 - m)); omega), Nat.or_comm, or_add _ _ _ hB, Nat.add_comm]

/-! Same -/
theorem xor_eq_zero (a b : Nat) : a ^^^ b = 0 ↔ a = b := by
  constructor
  · intro h
    have : a ^^^ b ^^^ b = b := by rw [h]; simp
    rwa [Nat.xor_assoc, Nat.xor_self, Nat.xor_zero] at this
  · rintro rfl; simp
theorem xor_zero {a b : Int} (ha : 0 ≤ a ∧ a ≤ 255) (hb : 0 ≤ b ∧ b ≤ 255) : bits .xor .u8 a b = 0 ↔ a = b := by
  rw [u8_xor _ _ ha.1 (by omega) hb.1 (by omega)]
  have : ((a.toNat ^^^ b.toNat : Nat) : Int) = 0 ↔ a.toNat ^^^ b.toNat = 0 := by omega
  rw [this, xor_eq_zero]
  omega
end Go.Proofs.Ytflfnaiklnbaiaa

/- The octet layer's plain mathematics, more: doubling. No walk. -/
namespace Go.Proofs.Ytflfnaiklnbaiaa
open Go.RowKit

end Go.Proofs.Ytflfnaiklnbaiaa

/- Arrays of numbers that come in by value; more plain mathematics of the octet layer. -/
namespace Go.Proofs.Ytflfnaiklnbaiaa
open Go.ChangeShapes Go.WideShapes Go.ChangeAt Go.RowKit

/-! what is stored is loaded -/
/-! what is rotated comes back -/
/-! doubling is linear -/
end Go.Proofs.Ytflfnaiklnbaiaa

/- octet's rows put together, and held against others, as rows of numbers. -/
namespace Go.Proofs.Ytflfnaiklnbaiaa
open Go.RowKit
set_option maxRecDepth 100000
/-! ### Data and a stream -/
end Go.Proofs.Ytflfnaiklnbaiaa

/- Op: how many registers an op is of, and whether it may stand at a place, by the document. -/
namespace Go.Proofs.Ytflfnaiklnbaiaa
open Go.RowKit
set_option maxRecDepth 100000

theorem rgN_no {K n : Int} (h2 : ¬ n = 2) (h3 : ¬ n = 3) : rgN K n = 0 := by unfold rgN; rw [if_pos ⟨h2, h3⟩]
theorem rgN_zero {K n : Int} (h : K < 1 ∨ 12 < K) : rgN K n = 0 := by
  unfold rgN
  split
  · rfl
  · rw [if_neg (by omega), if_neg (by omega), if_neg (by omega), if_neg (by omega)]
set_option maxHeartbeats 3200000 in
theorem refregs_any (K n : Int) (w : World) : Calls Try.prog 50 #[.int .i64 K, .int .i64 n] w fun e w' => e = .returned (.int .i64 (rgN K n)) ∧ w' = w := by
  by_cases h2 : n = 2
  · subst h2
    rcases kindsL K with rfl | rfl | rfl | rfl | rfl | rfl | rfl | rfl | rfl | rfl | rfl | rfl | h
    rotate_right
    · rw [rgN_zero h]
      have q2 : ¬ K = 2 := by omega
      have q5 : ¬ K = 5 := by omega
      have q6 : ¬ K = 6 := by omega
      have q7 : ¬ K = 7 := by omega
      have q8 : ¬ K = 8 := by omega
      have q9 : ¬ K = 9 := by omega
      have q10 : ¬ K = 10 := by omega
      have q11 : ¬ K = 11 := by omega
      have q12 : ¬ K = 12 := by omega
      go_enter Try.func50, Try.ntmps50
      go_wp2
      go_ret
      exact ⟨rfl, rfl⟩
    all_goals
      simp only [rgN, reduceIte, Int.reduceEq]
      go_enter Try.func50, Try.ntmps50
      go_wp2
      go_ret
      exact ⟨rfl, rfl⟩
  · by_cases h3 : n = 3
    · subst h3
      rcases kindsL K with rfl | rfl | rfl | rfl | rfl | rfl | rfl | rfl | rfl | rfl | rfl | rfl | h
      rotate_right
      · rw [rgN_zero h]
        have q2 : ¬ K = 2 := by omega
        have q5 : ¬ K = 5 := by omega
        have q6 : ¬ K = 6 := by omega
        have q7 : ¬ K = 7 := by omega
        have q8 : ¬ K = 8 := by omega
        have q9 : ¬ K = 9 := by omega
        have q10 : ¬ K = 10 := by omega
        have q11 : ¬ K = 11 := by omega
        have q12 : ¬ K = 12 := by omega
        go_enter Try.func50, Try.ntmps50
        go_wp2
        go_ret
        exact ⟨rfl, rfl⟩
      all_goals
        simp only [rgN, reduceIte, Int.reduceEq]
        go_enter Try.func50, Try.ntmps50
        go_wp2
        go_ret
        exact ⟨rfl, rfl⟩
    · rw [rgN_no h2 h3]
      have g2 : (n != 2) = true := by simpa using h2
      have g3 : (n != 3) = true := by simpa using h3
      clear h2 h3
      go_enter Try.func50, Try.ntmps50
      go_wp2
      go_ret
      exact ⟨rfl, rfl⟩
/-- What stands in an op's box, in every later world. -/
theorem oc_box {w w' : World} (o : Op6) (h : Below (w.alloc (.cells #[.int .i64 o.K, .int .i64 o.D, .int .i64 o.A, .int .i64 o.B, .int .i64 o.E, .int .u64 (o.C : Int)] 43)).heap.size (w.alloc (.cells #[.int .i64 o.K, .int .i64 o.D, .int .i64 o.A, .int .i64 o.B, .int .i64 o.E, .int .u64 (o.C : Int)] 43)) w') : Oc w' w.heap.size 0 o := by
  have e : w'.heap[w.heap.size]? = some (.cells #[.int .i64 o.K, .int .i64 o.D, .int .i64 o.A, .int .i64 o.B, .int .i64 o.E, .int .u64 (o.C : Int)] 43 (0, 0)) := by rw [h.block _ (by simp)]; exact heap_alloc_new w _
  exact ⟨by rw [cell_of_row w' _ 0 _ _ _ e]; rfl, by rw [cell_of_row w' _ (0 + 1) _ _ _ e]; rfl, by rw [cell_of_row w' _ (0 + 2) _ _ _ e]; rfl, by rw [cell_of_row w' _ (0 + 3) _ _ _ e]; rfl, by rw [cell_of_row w' _ (0 + 4) _ _ _ e]; rfl, by rw [cell_of_row w' _ (0 + 5) _ _ _ e]; rfl⟩
theorem rgL_cell {w : World} {n : Nat} {o : Op6} {T : TypeId} (h : w.heap[n]? = some (.cells #[.int .i64 o.A, .int .i64 o.B, .int .i64 o.E] T (0, 0))) (j : Nat) (hj : j < 3) : w.cell? ⟨n, j, none⟩ = some (.int .i64 (rgL o j)) := by
  rw [cell_of_row w _ j _ _ _ h]
  rcases (by omega : j = 0 ∨ j = 1 ∨ j = 2) with rfl | rfl | rfl <;> rfl
theorem okH_no {o : Op6} {n : Int} (h : ¬ ((n = 2 ∨ n = 3) ∧ 1 ≤ o.K ∧ o.K ≤ 12 ∧ -1 ≤ o.D ∧ o.D < n ∧ (o.K = 12 → o.D = -1))) (at_ : Int) : okOp o at_ n = false := by
  unfold okOp okH; rw [decide_eq_false h]; rfl
theorem okH_yes {o : Op6} {n : Int} (h : (n = 2 ∨ n = 3) ∧ 1 ≤ o.K ∧ o.K ≤ 12 ∧ -1 ≤ o.D ∧ o.D < n ∧ (o.K = 12 → o.D = -1)) (at_ : Int) : okOp o at_ n = (allB (rgB o at_ n) 3 && okC o.K o.C) := by
  unfold okOp okH; rw [decide_eq_true h]; rfl
set_option maxHeartbeats 3200000 in
theorem refopright_head (o : Op6) (at_ n : Int) (w : World) (h : ¬ ((n = 2 ∨ n = 3) ∧ 1 ≤ o.K ∧ o.K ≤ 12 ∧ -1 ≤ o.D ∧ o.D < n ∧ (o.K = 12 → o.D = -1))) :
    Calls Try.prog 30 #[.agg #[.int .i64 o.K, .int .i64 o.D, .int .i64 o.A, .int .i64 o.B, .int .i64 o.E, .int .u64 (o.C : Int)], .int .i64 at_, .int .i64 n] w fun e w' => e = .returned (.bool false) ∧ Below w.heap.size w w' := by
  have HB : Hid (Below w.heap.size w (w.alloc (.cells #[.int .i64 o.K, .int .i64 o.D, .int .i64 o.A, .int .i64 o.B, .int .i64 o.E, .int .u64 (o.C : Int)] 43))) := hid ((Below.refl _ _).alloc (Nat.le_refl _) _)
  obtain ⟨K, D, A, B, E, C⟩ := o
  simp only at *
  by_cases h1 : n = 2 ∨ n = 3
  · have g0 : ((n != 2) && (n != 3)) = false := by rcases h1 with rfl | rfl <;> rfl
    have g1 : (n != 2) = false ∨ (n != 3) = false := by rcases h1 with rfl | rfl <;> simp
    by_cases h2 : K < 1
    · rcases h1 with rfl | rfl
      all_goals
        clear h g0 g1
        go_enter Try.func30, Try.ntmps30
        go_wp2
        go_ret
        exact ⟨rfl, HB.out⟩
    · by_cases h3 : 12 < K
      · rcases h1 with rfl | rfl
        all_goals
          clear h g0 g1
          go_enter Try.func30, Try.ntmps30
          go_wp2
          go_ret
          exact ⟨rfl, HB.out⟩
      · by_cases h4 : D < -1
        · rcases h1 with rfl | rfl
          all_goals
            clear h g0 g1
            go_enter Try.func30, Try.ntmps30
            go_wp2
            go_ret
            exact ⟨rfl, HB.out⟩
        · by_cases h5 : n ≤ D
          · rcases h1 with rfl | rfl
            all_goals
              clear h g0 g1
              go_enter Try.func30, Try.ntmps30
              go_wp2
              go_ret
              exact ⟨rfl, HB.out⟩
          · obtain ⟨rfl, h6⟩ : K = 12 ∧ ¬ D = -1 := by
              refine ⟨?_, fun e => h ⟨h1, by omega, by omega, by omega, by omega, fun _ => e⟩⟩
              refine Classical.byContradiction fun e => h ⟨h1, by omega, by omega, by omega, by omega, fun e' => absurd e' e⟩
            have g6 : (D != -1) = true := by simpa using h6
            rcases h1 with rfl | rfl
            all_goals
              clear h g0 g1 h6 h2 h3
              go_enter Try.func30, Try.ntmps30
              go_wp2
              go_ret
              exact ⟨rfl, HB.out⟩
  · have g2 : (n != 2) = true := by simp; omega
    have g3 : (n != 3) = true := by simp; omega
    clear h h1
    go_enter Try.func30, Try.ntmps30
    go_wp2
    go_ret
    exact ⟨rfl, HB.out⟩
end Go.Proofs.Ytflfnaiklnbaiaa

/- Wire: the document's machine. -/
namespace Go.Proofs.Ytflfnaiklnbaiaa
open Go.RowKit
set_option maxRecDepth 100000
abbrev opCs (o : Op6) : Array Value := #[.int .i64 o.K, .int .i64 o.D, .int .i64 o.A, .int .i64 o.B, .int .i64 o.E, .int .u64 (o.C : Int)]
abbrev spCs (s : Sp3) : Array Value := #[.int .i64 s.K, .int .i64 s.F, .int .i64 s.T]
/-- Numbers of words. -/
def wdL (v : Nat → Nat) (L : Nat) : List Int := (List.range L).map (fun i => (v i : Int))
theorem wdL_len (v : Nat → Nat) (L : Nat) : (wdL v L).length = L := by simp [wdL]
theorem wdL_nth (v : Nat → Nat) {L i : Nat} (h : i < L) : nth (wdL v L) i = (v i : Int) := by simp [wdL, nth, List.getD, h]
/-- The machine's cells. -/
def dmC (S : Ms) (ov bv vv tv : Value) : Array Value :=
  #[.int .i64 S.n, .int .i64 S.most, .int .i64 (S.words : Int), .int .i64 (S.draws : Int), .int .i64 (S.fr : Int), .int .i64 (S.skip : Int), .int .i64 S.kind, .int .i64 (S.e : Int), ov, bv, vv, tv, .int .i64 (S.used : Int), .int .i64 (S.free : Int), .bool S.dry]
/-- What is in bounds. -/
structure Bd (S : Ms) : Prop where
  L : S.L ≤ 100000
  skip : S.skip ≤ 100000
  M : S.M ≤ 100000
  words : S.words ≤ 1000000
  draws : S.draws ≤ 1000000
  used : S.used ≤ 20000000000000
  free : S.free ≤ 20000000000000
  TN : S.TN ≤ 20000000000000
  v : ∀ i, i < S.L → S.v i < 2 ^ 64
  tw : ∀ i, i < S.TN → S.tw i < 2 ^ 64
/-- From where on an object's blocks lie; where what it only reads lies. -/
structure LoG where
  lo : Nat
  G : Nat → Prop
/-- The document's machine lies in block b. -/
structure Dm2 (lo : LoG) (w : World) (b : Nat) (S : Ms) (LV : Nat) (ov bv vv tv : Value) : Prop where
  blk : w.heap[b]? = some (.cells (dmC S ov bv vv tv) 53 (0, 0))
  lob : lo.lo ≤ b
  ops : Orw w lo.lo 43 6 ov S.L (fun i => (opCs (S.f i)).toList)
  bls : Orw w lo.lo 78 3 bv S.M (fun i => (spCs (S.g i)).toList)
  val : Orw w lo.lo 22 1 vv LV (fun i => [.int .u64 (S.v i : Int)])
  hob : ov.ownBlock ≠ some b
  hbb : bv.ownBlock ≠ some b
  hvb : vv.ownBlock ≠ some b
  hobv : ∀ k, ov.ownBlock = some k → bv.ownBlock ≠ some k
  hov : ∀ k, ov.ownBlock = some k → vv.ownBlock ≠ some k
  hbv : ∀ k, bv.ownBlock = some k → vv.ownBlock ≠ some k
  tap : RdS .u64 w (fun g => g ≠ b ∧ ov.ownBlock ≠ some g ∧ bv.ownBlock ≠ some g ∧ vv.ownBlock ≠ some g ∧ lo.G g) tv (wdL (fun i => S.tw (S.used + i)) (S.TN - S.used))
abbrev Dm (lo : LoG) (w : World) (b : Nat) (S : Ms) (ov bv vv tv : Value) : Prop := Dm2 lo w b S S.L ov bv vv tv
/-- What it owns. -/
def Ft (b : Nat) (ov bv vv : Value) (k : Nat) : Prop := k = b ∨ ov.ownBlock = some k ∨ bv.ownBlock = some k ∨ vv.ownBlock = some k
section
variable {lo : LoG} {b : Nat} {w w' : World} {S : Ms} {ov bv vv tv : Value}
theorem Dm.lt (h : Dm lo w b S ov bv vv tv) : b < w.heap.size := (Array.getElem?_eq_some_iff.1 h.blk).1
theorem rds_self {k : IntKind} {F : Nat → Prop} {v : Value} {zs : List Int} (h : RdS k w F v zs) (hb : Below w.heap.size w w') : RdS k w' F v zs := by
  obtain ⟨a, cap, e, h1, h2, h3, h4, h5⟩ := h
  refine ⟨a, cap, e, h1, h2, h3, h4, fun h0 => ?_⟩
  obtain ⟨g, off, ea, hF, hg, hc⟩ := h5 h0
  exact ⟨g, off, ea, hF, Nat.lt_of_lt_of_le hg hb.size, fun j hj => by rw [World.cell?_of_block (hb.block g hg)]; exact hc j hj⟩
theorem Dm.self (h : Dm lo w b S ov bv vv tv) (hb : Below w.heap.size w w') : Dm lo w' b S ov bv vv tv :=
  ⟨(hb.block b h.lt).trans h.blk, h.lob, h.ops.stays fun k hk => hb.block k (h.ops.lt k hk).2, h.bls.stays fun k hk => hb.block k (h.bls.lt k hk).2,
   h.val.stays fun k hk => hb.block k (h.val.lt k hk).2, h.hob, h.hbb, h.hvb, h.hobv, h.hov, h.hbv, rds_self h.tap hb⟩
theorem Dm.drew (h : Dm lo w b S ov bv vv tv) : Dm lo w.drew b S ov bv vv tv := h.self ((Below.refl _ w).drew)
/-- The cells of a machine, one by one. -/
theorem Dm.c (h : Dm lo w b S ov bv vv tv) (i : Nat) {u : Value} (hu : (dmC S ov bv vv tv)[i]? = some u) : w.cell? ⟨b, i, none⟩ = some u := by
  rw [cell_of_row w b i _ _ _ h.blk]; exact hu
theorem Dm.c_n (h : Dm lo w b S ov bv vv tv) : w.cell? ⟨b, 0, none⟩ = some (Value.int .i64 S.n) := h.c 0 rfl
theorem Dm.c_most (h : Dm lo w b S ov bv vv tv) : w.cell? ⟨b, 1, none⟩ = some (Value.int .i64 S.most) := h.c 1 rfl
theorem Dm.c_words (h : Dm lo w b S ov bv vv tv) : w.cell? ⟨b, 2, none⟩ = some (Value.int .i64 (S.words : Int)) := h.c 2 rfl
theorem Dm.c_draws (h : Dm lo w b S ov bv vv tv) : w.cell? ⟨b, 3, none⟩ = some (Value.int .i64 (S.draws : Int)) := h.c 3 rfl
theorem Dm.c_fr (h : Dm lo w b S ov bv vv tv) : w.cell? ⟨b, 4, none⟩ = some (Value.int .i64 (S.fr : Int)) := h.c 4 rfl
theorem Dm.c_skip (h : Dm lo w b S ov bv vv tv) : w.cell? ⟨b, 5, none⟩ = some (Value.int .i64 (S.skip : Int)) := h.c 5 rfl
theorem Dm.c_kind (h : Dm lo w b S ov bv vv tv) : w.cell? ⟨b, 6, none⟩ = some (Value.int .i64 S.kind) := h.c 6 rfl
theorem Dm.c_e (h : Dm lo w b S ov bv vv tv) : w.cell? ⟨b, 7, none⟩ = some (Value.int .i64 (S.e : Int)) := h.c 7 rfl
theorem Dm.c_ov (h : Dm lo w b S ov bv vv tv) : w.cell? ⟨b, 8, none⟩ = some (ov) := h.c 8 rfl
theorem Dm.c_bv (h : Dm lo w b S ov bv vv tv) : w.cell? ⟨b, 9, none⟩ = some (bv) := h.c 9 rfl
theorem Dm.c_vv (h : Dm lo w b S ov bv vv tv) : w.cell? ⟨b, 10, none⟩ = some (vv) := h.c 10 rfl
theorem Dm.c_tv (h : Dm lo w b S ov bv vv tv) : w.cell? ⟨b, 11, none⟩ = some (tv) := h.c 11 rfl
theorem Dm.c_used (h : Dm lo w b S ov bv vv tv) : w.cell? ⟨b, 12, none⟩ = some (Value.int .i64 (S.used : Int)) := h.c 12 rfl
theorem Dm.c_free (h : Dm lo w b S ov bv vv tv) : w.cell? ⟨b, 13, none⟩ = some (Value.int .i64 (S.free : Int)) := h.c 13 rfl
theorem Dm.c_dry (h : Dm lo w b S ov bv vv tv) : w.cell? ⟨b, 14, none⟩ = some (Value.bool S.dry) := h.c 14 rfl
theorem Dm.fz (h : Dm lo w b S ov bv vv tv) (i : Nat) : w.frozen? ⟨b, i, none⟩ = false := frozen_of_row w b i _ _ h.blk
theorem Dm.opsv (h : Dm lo w b S ov bv vv tv) : ∃ a cap, ov = .slice a S.L cap := by
  obtain ⟨a, cap, e, _⟩ := h.ops.slice
  exact ⟨a, cap, e⟩
theorem Dm.vals (h : Dm lo w b S ov bv vv tv) : ∃ a cap, vv = .slice a S.L cap ∧ (0 < S.L → ∃ g, a = some ⟨g, 0, none⟩ ∧ ∀ i, i < S.L → w.cell? ⟨g, i, none⟩ = some (.int .u64 (S.v i : Int))) := by
  obtain ⟨a, cap, rfl, _, _, _, hp⟩ := h.val.slice
  refine ⟨a, cap, rfl, fun h0 => ?_⟩
  obtain ⟨g, rfl⟩ := hp h0
  refine ⟨g, rfl, fun i hi => ?_⟩
  have := Orw.cell h.val (fun _ => rfl) hi (by decide : 0 < 1) (u := .int .u64 (S.v i : Int)) rfl
  simpa using this
end
theorem dlen_any (lo : LoG) (b : Nat) (S : Ms) (ov bv vv tv : Value) (w : World) (h : Dm lo w b S ov bv vv tv) (hb : Bd S) :
    Calls Try.prog 31 #[.pointer (some ⟨b, 0, none⟩)] w fun e w' => e = .returned (.int .i64 (S.len : Nat)) ∧ Below w.heap.size w w' := by
  obtain ⟨a, cap, rfl⟩ := h.opsv
  have c5 := h.drew.c_skip
  have c8 := h.drew.c_ov
  have l1 := hb.L
  have l2 := hb.skip
  have hw : IntKind.i64.wrap ((S.skip : Int) + (S.L : Int)) = ((S.len : Nat) : Int) := by unfold Ms.len; rw [IntKind.wrap_i64]; omega
  clear h hb l1 l2
  generalize S.len = n at *
  go_enter Try.func31, Try.ntmps31
  go_wp2_with fail
  go_region
  go_wp2
  go_ret
  exact ⟨rfl, (Below.refl _ _).drew⟩
theorem dat_any (lo : LoG) (b : Nat) (S : Ms) (ov bv vv tv : Value) (r : Int) (w : World) (h : Dm lo w b S ov bv vv tv) (l1 : S.L ≤ 100000) :
    Calls Try.prog 35 #[.pointer (some ⟨b, 0, none⟩), .int .i64 r] w fun e w' => e = .returned (.int .u64 (wordAt S.v S.L r : Nat)) ∧ w' = w := by
  obtain ⟨a, cap, rfl, hc⟩ := h.vals
  have c10 := h.c_vv
  clear h
  by_cases h0 : r < 0
  · have e : wordAt S.v S.L r = 0 := if_neg (by omega)
    rw [e]
    have q1 : decide (r < 0) = true := decide_eq_true h0
    clear hc h0
    go_enter Try.func35, Try.ntmps35
    go_wp2
    go_ret
    exact ⟨rfl, rfl⟩
  · have q1 : decide (r < 0) = false := decide_eq_false h0
    by_cases h1 : r < (S.L : Int)
    · obtain ⟨k, rfl⟩ := Int.eq_ofNat_of_zero_le (by omega : 0 ≤ r)
      have e : wordAt S.v S.L (k : Int) = S.v k := by unfold wordAt; rw [if_pos ⟨by omega, h1⟩]; simp
      rw [e]
      obtain ⟨g, rfl, hcc⟩ := hc (by omega)
      have hk := hcc k (by omega)
      have j1 : (0 : Int) ≤ (k : Int) := by omega
      have q2 : decide ((S.L : Int) ≤ (k : Int)) = false := decide_eq_false (by omega)
      clear hc hcc e
      generalize S.v k = z at *
      go_enter Try.func35, Try.ntmps35
      go_wp2
      go_ret
      exact ⟨rfl, rfl⟩
    · have e : wordAt S.v S.L r = 0 := if_neg (by omega)
      rw [e]
      have q2 : decide ((S.L : Int) ≤ r) = true := decide_eq_true (by omega)
      clear hc
      go_enter Try.func35, Try.ntmps35
      go_wp2
      go_ret
      exact ⟨rfl, rfl⟩
end Go.Proofs.Ytflfnaiklnbaiaa

/- Wire: the document's machine: errors that stay, blocks that begin. -/
namespace Go.Proofs.Ytflfnaiklnbaiaa
open Go.RowKit
set_option maxRecDepth 100000
section
variable {lo : LoG} {b : Nat} {w w' : World} {S S' : Ms} {ov bv vv tv : Value}
theorem rds_stays {k : IntKind} {F : Nat → Prop} {v : Value} {zs : List Int} (h : RdS k w F v zs) (hs : w.heap.size ≤ w'.heap.size) (hF : ∀ g, F g → g < w.heap.size → w'.heap[g]? = w.heap[g]?) : RdS k w' F v zs := by
  obtain ⟨a, cap, e, h1, h2, h3, h4, h5⟩ := h
  refine ⟨a, cap, e, h1, h2, h3, h4, fun h0 => ?_⟩
  obtain ⟨g, off, ea, hf, hg, hc⟩ := h5 h0
  exact ⟨g, off, ea, hf, Nat.lt_of_lt_of_le hg hs, fun j hj => by rw [World.cell?_of_block (hF g hf hg)]; exact hc j hj⟩
/-- The machine's own block alone is turned. -/
theorem Dm.turn (h : Dm lo w b S ov bv vv tv) (hblk : w'.heap[b]? = some (.cells (dmC S' ov bv vv tv) 53 (0, 0))) (hs : w.heap.size ≤ w'.heap.size) (ho : ∀ k, k ≠ b → k < w.heap.size → w'.heap[k]? = w.heap[k]?)
    (hL : S'.L = S.L) (hf : S'.f = S.f) (hM : S'.M = S.M) (hg : S'.g = S.g) (hv : S'.v = S.v) (htw : S'.tw = S.tw) (hu : S'.used = S.used) (hTN : S'.TN = S.TN) : Dm lo w' b S' ov bv vv tv := by
  refine ⟨hblk, h.lob, ?_, ?_, ?_, h.hob, h.hbb, h.hvb, h.hobv, h.hov, h.hbv, ?_⟩
  · rw [hL, hf]; exact h.ops.stays fun k hk => ho k (fun e => h.hob (e ▸ hk)) (h.ops.lt k hk).2
  · rw [hM, hg]; exact h.bls.stays fun k hk => ho k (fun e => h.hbb (e ▸ hk)) (h.bls.lt k hk).2
  · rw [hL, hv]; exact h.val.stays fun k hk => ho k (fun e => h.hvb (e ▸ hk)) (h.val.lt k hk).2
  · rw [htw, hu, hTN]; exact rds_stays h.tap hs fun g hg hlt => ho g hg.1 hlt
theorem Dm.cellSet (h : Dm lo w b S ov bv vv tv) (i : Nat) (u : Value) (e : (dmC S ov bv vv tv).setIfInBounds i u = dmC S' ov bv vv tv)
    (hL : S'.L = S.L) (hf : S'.f = S.f) (hM : S'.M = S.M) (hg : S'.g = S.g) (hv : S'.v = S.v) (htw : S'.tw = S.tw) (hu : S'.used = S.used) (hTN : S'.TN = S.TN) : Dm lo (w.setCell ⟨b, i, none⟩ u) b S' ov bv vv tv :=
  h.turn (by rw [heap_setCell_same w b i _ 53 u h.blk, e]) (by simp [World.setCell]) (fun k hk _ => heap_setCell_other w ⟨b, i, none⟩ k u hk) hL hf hM hg hv htw hu hTN
theorem tch_set (b i : Nat) (u : Value) (w : World) : Tch (Ft b ov bv vv) w (w.setCell ⟨b, i, none⟩ u) := Tch.set w u (.inl rfl)
end
/-- What a method of the machine leaves. -/
def DmR (lo : LoG) (b : Nat) (ov bv vv : Value) (S' : Ms) (w w' : World) : Prop := ∃ ov' bv' vv' tv', Dm lo w' b S' ov' bv' vv' tv' ∧ Tch (Ft b ov bv vv) w w' ∧ (∀ k, Ft b ov' bv' vv' k → Ft b ov bv vv k ∨ w.heap.size ≤ k)
theorem dfails_any (lo : LoG) (b : Nat) (S : Ms) (ov bv vv tv : Value) (x : Nat) (w : World) (h : Dm lo w b S ov bv vv tv) (he : S.e = 0) :
    Calls Try.prog 32 #[.pointer (some ⟨b, 0, none⟩), .int .i64 (x : Int)] w fun e w' => e = .returned (.int .i64 (-1)) ∧ Dm lo w' b { S with e := x } ov bv vv tv ∧ Tch (Ft b ov bv vv) w w' := by
  have c7 := h.c_e
  have f7 := h.fz 7
  rw [he] at c7
  have HN := hid (h.cellSet (S' := { S with e := x }) 7 (.int .i64 (x : Int)) rfl rfl rfl rfl rfl rfl rfl rfl rfl)
  have HT := hid (tch_set (ov := ov) (bv := bv) (vv := vv) b 7 (.int .i64 (x : Int)) w)
  clear h he
  go_enter Try.func32, Try.ntmps32
  go_wp2
  go_ret
  exact ⟨rfl, HN.out, HT.out⟩
theorem dop_any (K D A B : Int) (C : Nat) (w : World) : Calls Try.prog 37 #[.int .i64 K, .int .i64 D, .int .i64 A, .int .i64 B, .int .u64 (C : Int)] w fun e w' => e = .returned (.agg #[.int .i64 K, .int .i64 D, .int .i64 A, .int .i64 B, .int .i64 (-1), .int .u64 (C : Int)]) ∧ Below w.heap.size w w' := by
  go_enter Try.func37, Try.ntmps37
  go_wp2
  exact bodyPost_ret (results_cell_row (by rfl) _ _ w.heap.size 43 #[.int .i64 K, .int .i64 D, .int .i64 A, .int .i64 B, .int .i64 (-1), .int .u64 (C : Int)] (0, 0) _ rfl (heap_alloc_new _ _) Try.underlying43 rfl (by kernel_rfl)) rfl ⟨rfl, (Below.refl _ _).alloc (Nat.le_refl _) _⟩
theorem dbegin_any (lo : LoG) (b : Nat) (S : Ms) (ov bv vv tv : Value) (k : Int) (w : World) (h : Dm lo w b S ov bv vv tv) (hb : Bd S) :
    Calls Try.prog 36 #[.pointer (some ⟨b, 0, none⟩), .int .i64 k] w fun e w' => e = .returned (.tuple #[]) ∧ Dm lo w' b (S.beginS k) ov bv vv tv ∧ Tch (Ft b ov bv vv) w w' := by
  have c7 := h.c_e
  have c6 := h.c_kind
  have f6 := h.fz 6
  have f7 := h.fz 7
  have HD := hid h
  by_cases he : S.e = 0
  · rw [he] at c7
    by_cases hk : S.kind ≠ 0 ∨ k < 1 ∨ 3 < k
    · have e : S.beginS k = { S with e := 1 } := by unfold Ms.beginS; rw [if_neg (by omega), if_pos hk]
      rw [e]
      have HN := hid (h.cellSet (S' := { S with e := 1 }) 7 (.int .i64 1) rfl rfl rfl rfl rfl rfl rfl rfl rfl)
      have HT := hid (tch_set (ov := ov) (bv := bv) (vv := vv) b 7 (.int .i64 1) w)
      clear h e
      by_cases h1 : S.kind = 0
      · have q1 : (S.kind != 0) = false := by simp [h1]
        by_cases h2 : k < 1
        · have q2 : decide (k < 1) = true := decide_eq_true h2
          clear h2 h1 hk
          go_enter Try.func36, Try.ntmps36
          go_wp2
          exact bodyPost_ret (results_none rfl _ _ _) rfl ⟨rfl, HN.out, HT.out⟩
        · have q2 : decide (k < 1) = false := decide_eq_false h2
          have q3 : decide (3 < k) = true := decide_eq_true (by omega)
          clear h2 h1 hk
          go_enter Try.func36, Try.ntmps36
          go_wp2
          exact bodyPost_ret (results_none rfl _ _ _) rfl ⟨rfl, HN.out, HT.out⟩
      · have q1 : (S.kind != 0) = true := by simp [h1]
        clear h1 hk
        go_enter Try.func36, Try.ntmps36
        go_wp2
        exact bodyPost_ret (results_none rfl _ _ _) rfl ⟨rfl, HN.out, HT.out⟩
    · have e : S.beginS k = { S with kind := k, fr := S.len } := by unfold Ms.beginS; rw [if_neg (by omega), if_neg hk]
      rw [e]
      have q1 : (S.kind != 0) = false := by simp; omega
      have q2 : decide (k < 1) = false := decide_eq_false (by omega)
      have q3 : decide (3 < k) = false := decide_eq_false (by omega)
      have H1 := hid (h.cellSet (S' := { S with kind := k }) 6 (.int .i64 k) rfl rfl rfl rfl rfl rfl rfl rfl rfl)
      have HT1 := hid (tch_set (ov := ov) (bv := bv) (vv := vv) b 6 (.int .i64 k) w)
      have HL := hid (fun w1 (h1 : Dm lo w1 b { S with kind := k } ov bv vv tv) => dlen_any lo b { S with kind := k } ov bv vv tv w1 h1 ⟨hb.L, hb.skip, hb.M, hb.words, hb.draws, hb.used, hb.free, hb.TN, hb.v, hb.tw⟩)
      have hlen : ({ S with kind := k } : Ms).len = S.len := rfl
      rw [hlen] at HL
      clear h e hk
      go_enter Try.func36, Try.ntmps36
      go_wp2_with (go_at_call 31; (with_reducible refine (HL.out _ H1.out).mono ?_); rintro e w2 ⟨rfl, hb2⟩; have X2 := hid (H1.out.self hb2); have HB2 := hid hb2; have f4 := X2.out.fz 4; have c4 := X2.out.c_fr; clear hb2)
      exact bodyPost_end (results_none rfl _ _ _) rfl ⟨rfl, X2.out.cellSet (S' := { S with kind := k, fr := S.len }) 4 (.int .i64 (S.len : Int)) rfl rfl rfl rfl rfl rfl rfl rfl rfl, (HT1.out.trans (Tch.of_below (F := Ft b ov bv vv) HB2.out) (fun _ _ h => h)).trans (tch_set b 4 _ w2) (fun _ _ h => h)⟩
  · have e : S.beginS k = S := by unfold Ms.beginS; rw [if_pos he]
    rw [e]
    have q1 : ((S.e : Int) != 0) = true := by simp; omega
    clear h e he
    go_enter Try.func36, Try.ntmps36
    go_wp2
    exact bodyPost_ret (results_none rfl _ _ _) rfl ⟨rfl, HD.out, Tch.refl _ _⟩
end Go.Proofs.Ytflfnaiklnbaiaa
