import Derived.Laws.Bits64
import Derived.Test.YthkijncnndoafaaDoorGen
import Derived.Test.YthkijncnndoafaaDoorProg
import Derived.Laws.CopyOwn
import Derived.Deep.CutRange
import Derived.Deep.CutBlock
/- Keccak's permutation, as numbers: words below 2^64 by place x + 5 y. No program is named. -/
namespace Go.Proofs.YthkijncnndoafaaDoor

/-- A word, rotated to the left by m. -/
def rt (x m : Nat) : Nat := x * 2 ^ m % 2 ^ 64 ||| x / 2 ^ (64 - m)
theorem rt_lt {x m : Nat} (hx : x < 2 ^ 64) : rt x m < 2 ^ 64 := by
  unfold rt
  exact Nat.or_lt_two_pow (Nat.mod_lt _ (by decide)) (Nat.lt_of_le_of_lt (Nat.div_le_self _ _) hx)
theorem bit_none {x j : Nat} (hx : x < 2 ^ 64) (hj : 64 ≤ j) : x.testBit j = false :=
  Nat.testBit_lt_two_pow (Nat.lt_of_lt_of_le hx (Nat.pow_le_pow_right (by decide) hj))
theorem rt_bit {x m j : Nat} (hx : x < 2 ^ 64) (hm : m ≤ 64) (hj : j < 64) : (rt x m).testBit j = x.testBit ((j + (64 - m)) % 64) := by
  unfold rt
  rw [Nat.testBit_or, Nat.testBit_mod_two_pow, Nat.testBit_mul_two_pow, Nat.testBit_div_two_pow]
  simp only [hj, decide_true, Bool.true_and]
  by_cases h : m ≤ j
  · rw [show (j + (64 - m)) % 64 = j - m by omega]
    by_cases h0 : m = 0
    · subst h0
      rw [bit_none hx (show 64 ≤ j + (64 - 0) by omega)]
      simp
    · rw [bit_none hx (show 64 ≤ j + (64 - m) by omega)]
      simp [h]
  · rw [show (j + (64 - m)) % 64 = j + (64 - m) by omega]
    simp [h]
theorem word_ext {x y : Nat} (hx : x < 2 ^ 64) (hy : y < 2 ^ 64) (h : ∀ j, j < 64 → x.testBit j = y.testBit j) : x = y :=
  Nat.eq_of_testBit_eq fun j => by
    by_cases hj : j < 64
    · exact h j hj
    · rw [bit_none hx (by omega), bit_none hy (by omega)]
theorem rt_xor {x y m : Nat} (hx : x < 2 ^ 64) (hy : y < 2 ^ 64) (hm : m ≤ 64) : rt (x ^^^ y) m = rt x m ^^^ rt y m :=
  word_ext (rt_lt (Nat.xor_lt_two_pow hx hy)) (Nat.xor_lt_two_pow (rt_lt hx) (rt_lt hy)) fun j hj => by
    rw [Nat.testBit_xor, rt_bit (Nat.xor_lt_two_pow hx hy) hm hj, rt_bit hx hm hj, rt_bit hy hm hj, Nat.testBit_xor]

/-- Two states are one. -/
def Eq25 (f g : Nat → Nat) : Prop := ∀ i, i < 25 → f i = g i
theorem Eq25.refl (f : Nat → Nat) : Eq25 f f := fun _ _ => rfl
theorem Eq25.symm {f g : Nat → Nat} (h : Eq25 f g) : Eq25 g f := fun i hi => (h i hi).symm
theorem Eq25.trans {f g k : Nat → Nat} (h : Eq25 f g) (h' : Eq25 g k) : Eq25 f k := fun i hi => (h i hi).trans (h' i hi)
/-- Two states, put together. -/
def sm (f g : Nat → Nat) : Nat → Nat := fun i => f i ^^^ g i
theorem xr_left (a b c : Nat) : a ^^^ (b ^^^ c) = b ^^^ (a ^^^ c) := by rw [← Nat.xor_assoc, Nat.xor_comm a b, Nat.xor_assoc]
/-! ### theta -/
/-- What theta lays: the columns k ahead, and k behind, that rotated by k. -/
def ek (k : Nat) (c : Nat → Nat) : Nat → Nat := fun x => c ((x + 4 * k) % 5) ^^^ rt (c ((x + k) % 5)) (k % 64)
/-! ### move -/
def dst (i : Nat) : Nat := i / 5 + 5 * ((2 * (i % 5) + 3 * (i / 5)) % 5)
section
variable {t f g : Nat → Nat}
end
/-! ### chi -/
/-! ### rounds -/
section
variable {t mk f g : Nat → Nat}
end
end Go.Proofs.YthkijncnndoafaaDoor

/- General: words of 64 bits, and what ops make of them, as numbers. No program is named. -/
namespace Go.Proofs.YthkijncnndoafaaDoor

theorem wx64 {a b : Nat} (ha : a < 2 ^ 64) (hb : b < 2 ^ 64) : bits .xor .u64 (a : Int) (b : Int) = ((a ^^^ b : Nat) : Int) := bits_xor_u64_nat a b (by omega) (by omega)
theorem wn64 {a b : Nat} (ha : a < 2 ^ 64) (hb : b < 2 ^ 64) : bits .and .u64 (a : Int) (b : Int) = ((a &&& b : Nat) : Int) := by
  have h1 : (BitVec.ofInt 64 (a : Int)).toNat = a := by
    rw [BitVec.ofInt_natCast, BitVec.toNat_ofNat]; exact Nat.mod_eq_of_lt (by omega)
  have h2 : (BitVec.ofInt 64 (b : Int)).toNat = b := by
    rw [BitVec.ofInt_natCast, BitVec.toNat_ofNat]; exact Nat.mod_eq_of_lt (by omega)
  have hx : a &&& b < 2 ^ 64 := Nat.and_lt_two_pow _ hb
  show IntKind.u64.wrap ((BitVec.ofInt 64 (a : Int) &&& BitVec.ofInt 64 (b : Int)).toNat : Int) = _
  rw [BitVec.toNat_and, h1, h2, IntKind.wrap_u64]
  omega
theorem xr_lt {a b : Nat} (ha : a < 2 ^ 64) (hb : b < 2 ^ 64) : a ^^^ b < 2 ^ 64 := Nat.xor_lt_two_pow ha hb
theorem an_lt {a b : Nat} (ha : a < 2 ^ 64) : a &&& b < 2 ^ 64 := Nat.lt_of_le_of_lt Nat.and_le_left ha

/-- A word with each bit turned. -/
def wnt (a : Nat) : Nat := 2 ^ 64 - 1 - a
theorem wnt_lt (a : Nat) : wnt a < 2 ^ 64 := by unfold wnt; omega
theorem wnt_bit {a j : Nat} (ha : a < 2 ^ 64) (hj : j < 64) : (wnt a).testBit j = !a.testBit j := by
  unfold wnt
  rw [show 2 ^ 64 - 1 - a = 2 ^ 64 - (a + 1) by omega, Nat.testBit_two_pow_sub_succ ha]
  simp [hj]
theorem wnt_max {a : Nat} (ha : a < 2 ^ 64) : (2 ^ 64 - 1) ^^^ a = wnt a :=
  word_ext (xr_lt (by decide) ha) (wnt_lt _) fun j hj => by
    rw [Nat.testBit_xor, wnt_bit ha hj, Nat.testBit_two_pow_sub_one, decide_eq_true hj]; cases a.testBit j <;> rfl
/-- A word, moved up, 0s from below. -/
def wsl (a k : Nat) : Nat := a * 2 ^ k % 2 ^ 64
theorem wsl_lt (a k : Nat) : wsl a k < 2 ^ 64 := Nat.mod_lt _ (by decide)
theorem wsl_bit (a k : Nat) {j : Nat} (hj : j < 64) : (wsl a k).testBit j = (decide (k ≤ j) && a.testBit (j - k)) := by
  unfold wsl
  rw [Nat.testBit_mod_two_pow, ← Nat.shiftLeft_eq, Nat.testBit_shiftLeft]
  simp [hj]
/-- A word, moved down. -/
def wsr (a k : Nat) : Nat := a / 2 ^ k
theorem wsr_lt {a : Nat} (ha : a < 2 ^ 64) (k : Nat) : wsr a k < 2 ^ 64 := Nat.lt_of_le_of_lt (Nat.div_le_self _ _) ha
theorem wsr_bit (a k j : Nat) : (wsr a k).testBit j = a.testBit (j + k) := by
  unfold wsr
  rw [← Nat.shiftRight_eq_div_pow, Nat.testBit_shiftRight, Nat.add_comm]
theorem wsl_xor (a b k : Nat) : wsl (a ^^^ b) k = wsl a k ^^^ wsl b k :=
  word_ext (wsl_lt _ _) (xr_lt (wsl_lt _ _) (wsl_lt _ _)) fun j hj => by
    rw [Nat.testBit_xor, wsl_bit _ _ hj, wsl_bit _ _ hj, wsl_bit _ _ hj, Nat.testBit_xor]
    cases decide (k ≤ j) <;> simp
theorem wsr_xor {a b : Nat} (ha : a < 2 ^ 64) (hb : b < 2 ^ 64) (k : Nat) : wsr (a ^^^ b) k = wsr a k ^^^ wsr b k :=
  word_ext (wsr_lt (xr_lt ha hb) _) (xr_lt (wsr_lt ha _) (wsr_lt hb _)) fun j _ => by
    rw [Nat.testBit_xor, wsr_bit, wsr_bit, wsr_bit, Nat.testBit_xor]
theorem wmk_xor {a a' c : Nat} : (a ^^^ a') &&& c = a &&& c ^^^ a' &&& c := by
  refine Nat.eq_of_testBit_eq fun j => ?_
  simp only [Nat.testBit_and, Nat.testBit_xor]
  cases a.testBit j <;> cases a'.testBit j <;> cases c.testBit j <;> rfl
theorem x4 (a b c d : Nat) : (a ^^^ b) ^^^ (c ^^^ d) = (a ^^^ c) ^^^ (b ^^^ d) := by
  simp only [Nat.xor_assoc, xr_left b c d]

/-- What an op of kind K with constant C makes of words. -/
def evN (K : Int) (C a b d x : Nat) : Nat :=
  if K = 1 then x else if K = 2 then x ^^^ a ^^^ b else if K = 3 then C else if K = 4 then C else if K = 5 then a ^^^ b else if K = 6 then wnt a else if K = 7 then a &&& b else if K = 8 then a &&& C
  else if K = 9 then wsl a (C % 64) else if K = 10 then wsr a (C % 64) else if K = 11 then rt a (C % 64) else if K = 12 then a ^^^ b ^^^ d else 0
theorem ev1 (C a b d x : Nat) : evN 1 C a b d x = x := by simp [evN]
theorem ev2 (C a b d x : Nat) : evN 2 C a b d x = x ^^^ a ^^^ b := by simp [evN]
theorem ev3 (C a b d x : Nat) : evN 3 C a b d x = C := by simp [evN]
theorem ev4 (C a b d x : Nat) : evN 4 C a b d x = C := by simp [evN]
theorem ev5 (C a b d x : Nat) : evN 5 C a b d x = a ^^^ b := by simp [evN]
theorem ev6 (C a b d x : Nat) : evN 6 C a b d x = wnt a := by simp [evN]
theorem ev7 (C a b d x : Nat) : evN 7 C a b d x = a &&& b := by simp [evN]
theorem ev8 (C a b d x : Nat) : evN 8 C a b d x = a &&& C := by simp [evN]
theorem ev9 (C a b d x : Nat) : evN 9 C a b d x = wsl a (C % 64) := by simp [evN]
theorem ev10 (C a b d x : Nat) : evN 10 C a b d x = wsr a (C % 64) := by simp [evN]
theorem ev11 (C a b d x : Nat) : evN 11 C a b d x = rt a (C % 64) := by simp [evN]
theorem ev12 (C a b d x : Nat) : evN 12 C a b d x = a ^^^ b ^^^ d := by simp [evN]
theorem ev0 {K : Int} (h : K < 1 ∨ 12 < K) (C a b d x : Nat) : evN K C a b d x = 0 := by
  unfold evN
  rw [if_neg (by omega), if_neg (by omega), if_neg (by omega), if_neg (by omega), if_neg (by omega), if_neg (by omega), if_neg (by omega), if_neg (by omega), if_neg (by omega), if_neg (by omega), if_neg (by omega), if_neg (by omega)]
theorem kinds12 (K : Int) : K = 1 ∨ K = 2 ∨ K = 3 ∨ K = 4 ∨ K = 5 ∨ K = 6 ∨ K = 7 ∨ K = 8 ∨ K = 9 ∨ K = 10 ∨ K = 11 ∨ K = 12 ∨ (K < 1 ∨ 12 < K) := by omega
theorem evN_lt {K : Int} {C a b d x : Nat} (hC : C < 2 ^ 64) (ha : a < 2 ^ 64) (hb : b < 2 ^ 64) (hd : d < 2 ^ 64) (hx : x < 2 ^ 64) : evN K C a b d x < 2 ^ 64 := by
  rcases kinds12 K with rfl | rfl | rfl | rfl | rfl | rfl | rfl | rfl | rfl | rfl | rfl | rfl | h
  · rw [ev1]; exact hx
  · rw [ev2]; exact xr_lt (xr_lt hx ha) hb
  · rw [ev3]; exact hC
  · rw [ev4]; exact hC
  · rw [ev5]; exact xr_lt ha hb
  · rw [ev6]; exact wnt_lt _
  · rw [ev7]; exact an_lt ha
  · rw [ev8]; exact an_lt ha
  · rw [ev9]; exact wsl_lt _ _
  · rw [ev10]; exact wsr_lt ha _
  · rw [ev11]; exact rt_lt ha
  · rw [ev12]; exact xr_lt (xr_lt ha hb) hd
  · rw [ev0 h]; decide
end Go.Proofs.YthkijncnndoafaaDoor

/- General: the machine that has every word as shares, as numbers. No program is named. -/
namespace Go.Proofs.YthkijncnndoafaaDoor

def updO (f : Nat → Op6) (j : Nat) (o : Op6) : Nat → Op6 := fun i => if i = j then o else f i
def updS (g : Nat → Sp3) (j : Nat) (s : Sp3) : Nat → Sp3 := fun i => if i = j then s else g i
def updN (v : Nat → Nat) (j : Nat) (z : Nat) : Nat → Nat := fun i => if i = j then z else v i
theorem updO_at (f : Nat → Op6) (j : Nat) (o : Op6) : updO f j o j = o := by simp [updO]
theorem updO_no (f : Nat → Op6) {j i : Nat} (o : Op6) (h : i ≠ j) : updO f j o i = f i := by simp [updO, h]
theorem updS_at (g : Nat → Sp3) (j : Nat) (s : Sp3) : updS g j s j = s := by simp [updS]
theorem updS_no (g : Nat → Sp3) {j i : Nat} (s : Sp3) (h : i ≠ j) : updS g j s i = g i := by simp [updS, h]
theorem updN_at (v : Nat → Nat) (j z : Nat) : updN v j z j = z := by simp [updN]
theorem updN_no (v : Nat → Nat) {j i : Nat} (z : Nat) (h : i ≠ j) : updN v j z i = v i := by simp [updN, h]

/-- A machine: shares, bound, words of keys, masks drawn, where the open block began, ops ahead (of a dry one), the open block's kind, the error, ops, blocks, words; the tape's words, how many there are, how many are used, how many may be drawn. -/
structure Ms where
  n : Int
  most : Int
  words : Nat
  draws : Nat
  fr : Nat
  skip : Nat
  kind : Int
  e : Nat
  L : Nat
  f : Nat → Op6
  M : Nat
  g : Nat → Sp3
  v : Nat → Nat
  tw : Nat → Nat
  TN : Nat
  used : Nat
  free : Nat
  dry : Bool
/-- A register's word; 0 of none. -/
def wordAt (v : Nat → Nat) (L : Nat) (r : Int) : Nat := if 0 ≤ r ∧ r < (L : Int) then v r.toNat else 0
namespace Ms
def len (S : Ms) : Nat := S.skip + S.L
def bad (S : Ms) (o : Op6) : Bool := !(okOp o (S.len : Int) S.n) || decide (o.K = 2 ∧ o.C ≠ S.words)
def full (S : Ms) : Bool := !S.dry && decide (S.most ≤ (S.len : Int))
def out (S : Ms) (o : Op6) : Bool := decide (o.K = 1) && !S.dry && decide (S.free < 1 ∨ S.TN ≤ S.used)
def word (S : Ms) (o : Op6) (x : Nat) : Nat := if o.K = 1 ∧ S.dry = false then S.tw S.used else x
def makes (S : Ms) (o : Op6) (x : Nat) : Nat := evN o.K o.C (wordAt S.v S.L o.A) (wordAt S.v S.L o.B) (wordAt S.v S.L o.E) (S.word o x)
def put (S : Ms) (o : Op6) (x : Nat) : Ms :=
  { S with
    draws := if o.K = 1 then S.draws + 1 else S.draws
    words := if o.K = 2 then S.words + 1 else S.words
    used := if o.K = 1 ∧ S.dry = false then S.used + 1 else S.used
    free := if o.K = 1 ∧ S.dry = false then S.free - 1 else S.free
    L := S.L + 1
    f := updO S.f S.L o
    v := updN S.v S.L (S.makes o x) }
/-- An op is done, or an error stays. -/
def doS (S : Ms) (o : Op6) (x : Nat) : Ms := if S.e ≠ 0 then S else if S.bad o = true then { S with e := 1 } else if S.full = true then { S with e := 3 } else if S.out o = true then { S with e := 2 } else S.put o x
def doR (S : Ms) (o : Op6) : Int := if S.e ≠ 0 ∨ S.bad o = true ∨ S.full = true ∨ S.out o = true then -1 else (S.len : Int)
def beginS (S : Ms) (k : Int) : Ms := if S.e ≠ 0 then S else if S.kind ≠ 0 ∨ k < 1 ∨ 3 < k then { S with e := 1 } else { S with kind := k, fr := S.len }
def endS (S : Ms) : Ms :=
  if S.e ≠ 0 then S else if S.kind = 0 then { S with e := 1 }
  else if S.fr < S.len then { S with M := S.M + 1, g := updS S.g S.M ⟨S.kind, (S.fr : Int), (S.len : Int)⟩, kind := 0 } else { S with kind := 0 }
end Ms

/-! ### what a wet machine did is a trace that may be -/
/-- The outside word of the op of place i. -/
def wdAt (f : Nat → Op6) (mk : Nat → Nat) (TN : Nat) (ks : Nat → Nat) (KN : Nat) (i : Nat) : Nat :=
  if (f i).K = 1 ∧ cnt (fun o => decide (o.K = 1)) f i < TN then mk (cnt (fun o => decide (o.K = 1)) f i) else if (f i).K = 2 ∧ (f i).C < KN then ks (f i).C else 0
/-- Is the word of place i what its op makes? -/
def okW (f : Nat → Op6) (v : Nat → Nat) (L : Nat) (mk : Nat → Nat) (TN : Nat) (ks : Nat → Nat) (KN : Nat) (i : Nat) : Prop :=
  v i = evN (f i).K (f i).C (wordAt v L (f i).A) (wordAt v L (f i).B) (wordAt v L (f i).E) (wdAt f mk TN ks KN i)
structure Wi (S : Ms) (ks : Nat → Nat) (KN : Nat) : Prop where
  wet : S.dry = false
  sk : S.skip = 0
  hn : S.n = 2 ∨ S.n = 3
  ops : ∀ i, i < S.L → okO S.n S.f i = true
  wk : S.words = cnt (fun o => decide (o.K = 2)) S.f S.L
  kn : KN = S.words
  us : S.used = cnt (fun o => decide (o.K = 1)) S.f S.L
  le : S.used ≤ S.TN
  blk : ∀ j, j < S.M → okS S.L S.g j = true
  open_ : S.kind ≠ 0 → (1 ≤ S.kind ∧ S.kind ≤ 3) ∧ lastT S.g S.M ≤ (S.fr : Int) ∧ S.fr ≤ S.L
  last : lastT S.g S.M ≤ (S.L : Int)
  word : ∀ i, i < S.L → okW S.f S.v S.L S.tw S.TN ks KN i
theorem cnt_upd {p : Op6 → Bool} {f : Nat → Op6} {L : Nat} {o : Op6} : ∀ {i : Nat}, i ≤ L → cnt p (updO f L o) i = cnt p f i
  | 0, _ => rfl
  | i + 1, h => by rw [cnt, cnt, cnt_upd (by omega), updO_no f o (by omega)]
theorem cnt_updN {p : Op6 → Bool} {f : Nat → Op6} {L : Nat} {o : Op6} : cnt p (updO f L o) (L + 1) = cnt p f L + (if p o = true then 1 else 0) := by
  rw [cnt, cnt_upd (Nat.le_refl _), updO_at]
theorem okO_upd {n : Int} {f : Nat → Op6} {L : Nat} {o : Op6} {i : Nat} (h : i < L) : okO n (updO f L o) i = okO n f i := by
  unfold okO
  rw [updO_no f o (by omega), cnt_upd (by omega)]
/-- Registers of an op that may stand. -/
theorem okOp_regs {o : Op6} {i : Nat} {n : Int} (h : okOp o (i : Int) n = true) : o.A < (i : Int) ∧ o.B < (i : Int) ∧ o.E < (i : Int) := by
  unfold okOp at h
  rw [Bool.and_eq_true, Bool.and_eq_true] at h
  have hr := allB_all h.1.2
  have key : ∀ j, j < 3 → rgL o j < (i : Int) := fun j hj => by
    have := hr j hj
    unfold rgB at this
    split at this
    · have := of_decide_eq_true this; exact this.2
    · have := of_decide_eq_true this; omega
  exact ⟨key 0 (by omega), key 1 (by omega), key 2 (by omega)⟩
theorem wordAt_upd {v : Nat → Nat} {L z : Nat} {r : Int} (h : r < (L : Int)) : wordAt (updN v L z) (L + 1) r = wordAt v L r := by
  unfold wordAt
  by_cases h0 : 0 ≤ r
  · rw [if_pos ⟨h0, by omega⟩, if_pos ⟨h0, h⟩, updN_no v z (by omega)]
  · rw [if_neg (fun e => h0 e.1), if_neg (fun e => h0 e.1)]
theorem okS_more {L : Nat} {g : Nat → Sp3} {j : Nat} (h : okS L g j = true) : okS (L + 1) g j = true := by
  unfold okS at h ⊢
  have := of_decide_eq_true h
  exact decide_eq_true ⟨this.1, this.2.1, this.2.2.1, by omega⟩
theorem lastT_upd {g : Nat → Sp3} {M : Nat} {s : Sp3} {j : Nat} (h : j ≤ M) : lastT (updS g M s) j = lastT g j := by
  unfold lastT
  split
  · rfl
  · rw [updS_no g s (by omega)]
theorem okS_upd {L : Nat} {g : Nat → Sp3} {M : Nat} {s : Sp3} {j : Nat} (h : j < M) : okS L (updS g M s) j = okS L g j := by
  unfold okS
  rw [lastT_upd (by omega), updS_no g s (by omega)]
theorem Wi.fails {S : Ms} {ks : Nat → Nat} {KN : Nat} (h : Wi S ks KN) (e : Nat) : Wi { S with e := e } ks KN := ⟨h.wet, h.sk, h.hn, h.ops, h.wk, h.kn, h.us, h.le, h.blk, h.open_, h.last, h.word⟩
theorem Wi.begins {S : Ms} {ks : Nat → Nat} {KN : Nat} (h : Wi S ks KN) (k : Int) : Wi (S.beginS k) ks KN := by
  unfold Ms.beginS
  split
  · exact h
  · split
    · exact h.fails 1
    · rename_i h2
      have hl : S.len = S.L := by unfold Ms.len; rw [h.sk]; omega
      exact ⟨h.wet, h.sk, h.hn, h.ops, h.wk, h.kn, h.us, h.le, h.blk, fun _ => ⟨by show 1 ≤ k ∧ k ≤ 3; omega, by show lastT S.g S.M ≤ (S.len : Int); rw [hl]; exact h.last, by show S.len ≤ S.L; omega⟩, h.last, h.word⟩
theorem Wi.ends {S : Ms} {ks : Nat → Nat} {KN : Nat} (h : Wi S ks KN) : Wi S.endS ks KN := by
  have hl : S.len = S.L := by unfold Ms.len; rw [h.sk]; omega
  unfold Ms.endS
  split
  · exact h
  · split
    · exact h.fails 1
    · rename_i hk
      obtain ⟨o1, o2, o3⟩ := h.open_ hk
      split
      · rename_i hlt
        refine ⟨h.wet, h.sk, h.hn, h.ops, h.wk, h.kn, h.us, h.le, fun j hj => ?_, fun e => absurd rfl e, ?_, h.word⟩
        · show okS S.L (updS S.g S.M ⟨S.kind, (S.fr : Int), (S.len : Int)⟩) j = true
          have hj' : j < S.M + 1 := hj
          by_cases e : j = S.M
          · subst e
            unfold okS
            rw [lastT_upd (Nat.le_refl _), updS_at]
            exact decide_eq_true ⟨o1, o2, by show (S.fr : Int) < (S.len : Int); omega, by show (S.len : Int) ≤ (S.L : Int); omega⟩
          · rw [okS_upd (by omega)]; exact h.blk j (by omega)
        · show lastT (updS S.g S.M ⟨S.kind, (S.fr : Int), (S.len : Int)⟩) (S.M + 1) ≤ (S.L : Int)
          unfold lastT
          rw [if_neg (by omega), Nat.add_sub_cancel, updS_at]
          show (S.len : Int) ≤ (S.L : Int)
          omega
      · exact ⟨h.wet, h.sk, h.hn, h.ops, h.wk, h.kn, h.us, h.le, h.blk, fun e => absurd rfl e, h.last, h.word⟩
theorem cnt_lt {p : Op6 → Bool} {f : Nat → Op6} {i : Nat} (hp : p (f i) = true) : ∀ {L : Nat}, i < L → cnt p f i < cnt p f L
  | 0, h => by omega
  | L + 1, h => by
    rw [cnt]
    by_cases e : i = L
    · subst e; rw [if_pos hp]; omega
    · have := cnt_lt (L := L) hp (by omega); omega
theorem ev_x {K : Int} {C a b d x y : Nat} (h1 : K ≠ 1) (h2 : K ≠ 2) : evN K C a b d x = evN K C a b d y := by
  unfold evN
  rw [if_neg h1, if_neg h1, if_neg h2, if_neg h2]
theorem Wi.puts {S : Ms} {ks : Nat → Nat} {KN : Nat} (h : Wi S ks KN) (o : Op6) (x : Nat) (hb : S.bad o = false) (ho : S.out o = false) (ks' : Nat → Nat) (KN' : Nat)
    (hk : o.K = 2 → KN' = KN + 1 ∧ ks' = updN ks KN x) (hk' : o.K ≠ 2 → KN' = KN ∧ ks' = ks) : Wi (S.put o x) ks' KN' := by
  have hl : S.len = S.L := by unfold Ms.len; rw [h.sk]; omega
  unfold Ms.bad at hb
  rw [Bool.or_eq_false_iff, Bool.not_eq_false', hl] at hb
  obtain ⟨hb1, hb2⟩ := hb
  have hc : o.K = 2 → o.C = S.words := fun e => by
    by_cases hc : o.C = S.words
    · exact hc
    · rw [decide_eq_true ⟨e, hc⟩] at hb2; cases hb2
  obtain ⟨rA, rB, rE⟩ := okOp_regs hb1
  have hout : o.K = 1 → S.used < S.TN ∧ 1 ≤ S.free := fun e => by
    unfold Ms.out at ho
    rw [decide_eq_true e, h.wet, Bool.not_false, Bool.true_and, Bool.true_and] at ho
    have := of_decide_eq_false ho
    omega
  have hws : (if o.K = 2 then S.words + 1 else S.words) = cnt (fun o => decide (o.K = 2)) (updO S.f S.L o) (S.L + 1) := by
    rw [cnt_updN, ← h.wk]
    by_cases e : o.K = 2
    · rw [if_pos e, if_pos (by simpa using e)]
    · rw [if_neg e, if_neg (by simpa using e)]; rfl
  have hus : (if o.K = 1 ∧ S.dry = false then S.used + 1 else S.used) = cnt (fun o => decide (o.K = 1)) (updO S.f S.L o) (S.L + 1) := by
    rw [cnt_updN, ← h.us]
    by_cases e : o.K = 1
    · rw [if_pos ⟨e, h.wet⟩, if_pos (by simpa using e)]
    · rw [if_neg (fun q => e q.1), if_neg (by simpa using e)]; rfl
  have hkw : KN' = (if o.K = 2 then S.words + 1 else S.words) := by
    by_cases e : o.K = 2
    · rw [(hk e).1, if_pos e, h.kn]
    · rw [(hk' e).1, if_neg e, h.kn]
  refine ⟨h.wet, h.sk, h.hn, fun i hi => ?_, hws, hkw, hus, ?_, fun j hj => okS_more (h.blk j hj), fun e => ?_, ?_, fun i hi => ?_⟩
  · show okO S.n (updO S.f S.L o) i = true
    have hi' : i < S.L + 1 := hi
    by_cases e : i = S.L
    · subst e
      unfold okO
      rw [updO_at, cnt_upd (Nat.le_refl _), hb1, Bool.true_and]
      exact decide_eq_true (fun e2 => by rw [hc e2, h.wk])
    · rw [okO_upd (by omega)]; exact h.ops i (by omega)
  · show (if o.K = 1 ∧ S.dry = false then S.used + 1 else S.used) ≤ S.TN
    split
    · rename_i e; have := (hout e.1).1; omega
    · exact h.le
  · obtain ⟨o1, o2, o3⟩ := h.open_ e
    exact ⟨o1, o2, by show S.fr ≤ S.L + 1; omega⟩
  · have := h.last
    show lastT S.g S.M ≤ ((S.L + 1 : Nat) : Int)
    omega
  · show okW (updO S.f S.L o) (updN S.v S.L (S.makes o x)) (S.L + 1) S.tw S.TN ks' KN' i
    have hi' : i < S.L + 1 := hi
    by_cases e : i = S.L
    · subst e
      unfold okW
      rw [updN_at, updO_at, wordAt_upd rA, wordAt_upd rB, wordAt_upd rE]
      unfold Ms.makes
      by_cases e1 : o.K = 1
      · have hw : wdAt (updO S.f S.L o) S.tw S.TN ks' KN' S.L = S.word o x := by
          unfold wdAt Ms.word
          rw [updO_at, cnt_upd (Nat.le_refl _), ← h.us, if_pos ⟨e1, (hout e1).1⟩, if_pos ⟨e1, h.wet⟩]
        rw [hw]
      · by_cases e2 : o.K = 2
        · have a1 : wdAt (updO S.f S.L o) S.tw S.TN ks' KN' S.L = x := by
            have hkn := h.kn
            unfold wdAt
            rw [updO_at, if_neg (fun q => e1 q.1), if_pos ⟨e2, by rw [(hk e2).1, hc e2]; omega⟩, (hk e2).2, hc e2, ← h.kn, updN_at]
          have a2 : S.word o x = x := by
            unfold Ms.word
            rw [if_neg (fun q => e1 q.1)]
          rw [a1, a2]
        · exact ev_x e1 e2
    · have hi2 : i < S.L := by omega
      have h0 := h.word i hi2
      have hr : okOp (S.f i) (i : Int) S.n = true := by
        have := h.ops i hi2
        unfold okO at this
        rw [Bool.and_eq_true] at this
        exact this.1
      have hkey : (S.f i).K = 2 → (S.f i).C < KN := fun e2 => by
        have := h.ops i hi2
        unfold okO at this
        rw [Bool.and_eq_true] at this
        have hcc := of_decide_eq_true this.2 e2
        have := cnt_lt (p := fun o => decide (o.K = 2)) (f := S.f) (i := i) (by simpa using e2) hi2
        rw [h.kn, h.wk, hcc]
        exact this
      obtain ⟨qA, qB, qE⟩ := okOp_regs hr
      unfold okW at h0 ⊢
      have hw : wdAt (updO S.f S.L o) S.tw S.TN ks' KN' i = wdAt S.f S.tw S.TN ks KN i := by
        unfold wdAt
        rw [updO_no S.f o e, cnt_upd (by omega)]
        by_cases e2 : (S.f i).K = 2
        · have hlt := hkey e2
          have h1 : ¬ ((S.f i).K = 1 ∧ cnt (fun o => decide (o.K = 1)) S.f i < S.TN) := fun q => by omega
          have r1 : (if (S.f i).K = 2 ∧ (S.f i).C < KN then ks (S.f i).C else 0) = ks (S.f i).C := if_pos ⟨e2, hlt⟩
          have r2 : (if (S.f i).K = 2 ∧ (S.f i).C < KN' then ks' (S.f i).C else 0) = ks (S.f i).C := by
            by_cases e3 : o.K = 2
            · rw [(hk e3).1, (hk e3).2, if_pos ⟨e2, by omega⟩, updN_no ks x (by omega)]
            · rw [(hk' e3).1, (hk' e3).2, if_pos ⟨e2, hlt⟩]
          rw [r1, r2]
        · rw [if_neg (fun (q : (S.f i).K = 2 ∧ (S.f i).C < KN') => e2 q.1), if_neg (fun (q : (S.f i).K = 2 ∧ (S.f i).C < KN) => e2 q.1)]
      rw [hw, updO_no S.f o e, updN_no S.v _ e, wordAt_upd (by omega), wordAt_upd (by omega), wordAt_upd (by omega)]
      exact h0
/-- An op is done or not; a key's word is told besides if it is. -/
theorem Wi.does {S : Ms} {ks : Nat → Nat} {KN : Nat} (h : Wi S ks KN) (o : Op6) (x : Nat) :
    if o.K = 2 ∧ S.doR o ≠ -1 then Wi (S.doS o x) (updN ks KN x) (KN + 1) else Wi (S.doS o x) ks KN := by
  unfold Ms.doS Ms.doR
  by_cases h0 : S.e ≠ 0
  · rw [if_pos h0, if_neg (by rw [if_pos (.inl h0)]; simp)]; exact h
  · rw [if_neg h0]
    by_cases h1 : S.bad o = true
    · rw [if_pos h1, if_neg (by rw [if_pos (.inr (.inl h1))]; simp)]; exact h.fails 1
    · rw [if_neg h1]
      by_cases h2 : S.full = true
      · rw [if_pos h2, if_neg (by rw [if_pos (.inr (.inr (.inl h2)))]; simp)]; exact h.fails 3
      · rw [if_neg h2]
        by_cases h3 : S.out o = true
        · rw [if_pos h3, if_neg (by rw [if_pos (.inr (.inr (.inr h3)))]; simp)]; exact h.fails 2
        · rw [if_neg h3]
          have hd : (if S.e ≠ 0 ∨ S.bad o = true ∨ S.full = true ∨ S.out o = true then (-1 : Int) else (S.len : Int)) = (S.len : Int) := if_neg (by rintro (q | q | q | q) <;> contradiction)
          rw [hd]
          by_cases hk : o.K = 2
          · rw [if_pos ⟨hk, by omega⟩]
            exact h.puts o x (by simpa using h1) (by simpa using h3) _ _ (fun _ => ⟨rfl, rfl⟩) (fun q => absurd hk q)
          · rw [if_neg (fun q => hk q.1)]
            exact h.puts o x (by simpa using h1) (by simpa using h3) _ _ (fun q => absurd q hk) (fun _ => ⟨rfl, rfl⟩)
end Go.Proofs.YthkijncnndoafaaDoor

set_option maxRecDepth 100000
namespace Go.Proofs.YthkijncnndoafaaDoor
open Go.RowKit

theorem wf_u8 {z : Int} (h : (Lit.int .u8 z).wf = true) : 0 ≤ z ∧ z ≤ 255 := bounds_u8 h
end Go.Proofs.YthkijncnndoafaaDoor

namespace Go.Proofs.YthkijncnndoafaaDoor
open Go.RowKit

theorem and63 (k : Int) : bits .and .u64 (IntKind.u64.wrap k) 63 = k % 64 := by
  rw [u64_and _ _ (by rw [IntKind.wrap_u64]; omega) (by rw [IntKind.wrap_u64]; omega) (by omega) (by omega), IntKind.wrap_u64]
  have h : (63 : Int).toNat = 2 ^ 6 - 1 := rfl
  rw [h, Nat.and_two_pow_sub_one_eq_mod]
  omega
def rotl (x : Int) (m : Nat) : Int := bits .or .u64 (IntKind.u64.wrap (x * 2 ^ m)) (x / 2 ^ (64 - m))
set_option maxHeartbeats 400000 in
theorem rot64_any (x k : Int) (w : World) (hx : 0 ≤ x ∧ x ≤ 18446744073709551615) :
    Calls Tryd.prog 83 #[.int .u64 x, .int .i64 k] w fun e w' => e = .returned (.int .u64 (rotl x (k % 64).toNat)) ∧ w' = w := by
  obtain ⟨hx1, hx2⟩ := hx
  have hb := and63 k
  obtain ⟨m, hm, hm64⟩ : ∃ m : Nat, k % 64 = m ∧ m < 64 := ⟨(k % 64).toNat, by omega, by omega⟩
  rw [hm] at hb ⊢
  clear hm
  go_enter Tryd.func83, Tryd.ntmps83
  go_wp2
  go_ret
  exact ⟨rfl, rfl⟩
set_option maxHeartbeats 400000 in
theorem orot_any (x k : Int) (w : World) (hx : 0 ≤ x ∧ x ≤ 18446744073709551615) :
    Calls Tryd.prog 79 #[.int .u64 x, .int .i64 k] w fun e w' => e = .returned (.int .u64 (rotl x (k % 64).toNat)) ∧ w' = w := by
  go_enter Tryd.func79, Tryd.ntmps79
  go_wp2_with (go_at_call 83; refine (rot64_any _ _ _ hx).mono ?_; rintro e w' ⟨rfl, rfl⟩)
  go_ret
  exact ⟨rfl, rfl⟩
end Go.Proofs.YthkijncnndoafaaDoor

namespace Go.Proofs.YthkijncnndoafaaDoor
open Go.RowKit
end Go.Proofs.YthkijncnndoafaaDoor

namespace Go.Proofs.YthkijncnndoafaaDoor
open Go.RowKit

/-! ### octet.Store -/
/-! ### octet.Xor and the reference's -/
end Go.Proofs.YthkijncnndoafaaDoor

namespace Go.Proofs.YthkijncnndoafaaDoor
open Go.RowKit

/-! ### Inc -/
def Bs (L : List Int) : Prop := ∀ z ∈ L, 0 ≤ z ∧ z ≤ 255
theorem Bs.set {L : List Int} (h : Bs L) (j : Nat) {z : Int} (hz : 0 ≤ z ∧ z ≤ 255) : Bs (L.set j z) := by
  intro x hx
  rcases List.mem_or_eq_of_mem_set hx with hx | rfl
  · exact h x hx
  · exact hz
end Go.Proofs.YthkijncnndoafaaDoor

namespace Go.Proofs.YthkijncnndoafaaDoor
open Go.RowKit

/-! ### Double -/
end Go.Proofs.YthkijncnndoafaaDoor

namespace Go.Proofs.YthkijncnndoafaaDoor
open Go.RowKit

end Go.Proofs.YthkijncnndoafaaDoor

/- The octet layer's plain mathematics: what the program computes is what the reference computes. No walk. -/
namespace Go.Proofs.YthkijncnndoafaaDoor
open Go.RowKit

/-! Load -/
/-! Store -/
/-! Low -/
/-! Rot -/
/-! Same -/
theorem xor_eq_zero (a b : Nat) : a ^^^ b = 0 ↔ a = b := by
  constructor
  · intro h
    have : a ^^^ b ^^^ b = b := by rw [h]; simp
    rwa [Nat.xor_assoc, Nat.xor_self, Nat.xor_zero] at this
  · rintro rfl; simp
theorem xor_zero {a b : Int} (ha : 0 ≤ a ∧ a ≤ 255) (hb : 0 ≤ b ∧ b ≤ 255) : bits .xor .u8 a b = 0 ↔ a = b := by
  rw [u8_xor _ _ ha.1 (by omega) hb.1 (by omega)]
  have : ((a.toNat ^^^ b.toNat : Nat) : Int) = 0 ↔ a.toNat ^^^ b.toNat = 0 := by omega
  rw [this, xor_eq_zero]
  omega
end Go.Proofs.YthkijncnndoafaaDoor

/- The octet layer's plain mathematics, more: doubling. No walk. -/
namespace Go.Proofs.YthkijncnndoafaaDoor
open Go.RowKit

end Go.Proofs.YthkijncnndoafaaDoor

/- Arrays of numbers that come in by value; more plain mathematics of the octet layer. -/
namespace Go.Proofs.YthkijncnndoafaaDoor
open Go.ChangeShapes Go.WideShapes Go.ChangeAt Go.RowKit

/-! what is stored is loaded -/
/-! what is rotated comes back -/
/-! doubling is linear -/
end Go.Proofs.YthkijncnndoafaaDoor

/- octet's rows put together, and held against others, as rows of numbers. -/
namespace Go.Proofs.YthkijncnndoafaaDoor
open Go.RowKit
set_option maxRecDepth 100000
/-! ### Data and a stream -/
end Go.Proofs.YthkijncnndoafaaDoor

/- Op: how many registers an op is of, and whether it may stand at a place, by the document. -/
namespace Go.Proofs.YthkijncnndoafaaDoor
open Go.RowKit
set_option maxRecDepth 100000

theorem rgN_zero {K n : Int} (h : K < 1 ∨ 12 < K) : rgN K n = 0 := by
  unfold rgN
  split
  · rfl
  · rw [if_neg (by omega), if_neg (by omega), if_neg (by omega), if_neg (by omega)]
theorem okH_no {o : Op6} {n : Int} (h : ¬ ((n = 2 ∨ n = 3) ∧ 1 ≤ o.K ∧ o.K ≤ 12 ∧ -1 ≤ o.D ∧ o.D < n ∧ (o.K = 12 → o.D = -1))) (at_ : Int) : okOp o at_ n = false := by
  unfold okOp okH; rw [decide_eq_false h]; rfl
end Go.Proofs.YthkijncnndoafaaDoor

/- Wire: the document's machine. -/
namespace Go.Proofs.YthkijncnndoafaaDoor
open Go.RowKit
set_option maxRecDepth 100000
abbrev opCs (o : Op6) : Array Value := #[.int .i64 o.K, .int .i64 o.D, .int .i64 o.A, .int .i64 o.B, .int .i64 o.E, .int .u64 (o.C : Int)]
abbrev spCs (s : Sp3) : Array Value := #[.int .i64 s.K, .int .i64 s.F, .int .i64 s.T]
/-- Numbers of words. -/
def wdL (v : Nat → Nat) (L : Nat) : List Int := (List.range L).map (fun i => (v i : Int))
theorem wdL_len (v : Nat → Nat) (L : Nat) : (wdL v L).length = L := by simp [wdL]
theorem wdL_nth (v : Nat → Nat) {L i : Nat} (h : i < L) : nth (wdL v L) i = (v i : Int) := by simp [wdL, nth, List.getD, h]
/-- The machine's cells. -/
def dmC (S : Ms) (ov bv vv tv : Value) : Array Value :=
  #[.int .i64 S.n, .int .i64 S.most, .int .i64 (S.words : Int), .int .i64 (S.draws : Int), .int .i64 (S.fr : Int), .int .i64 (S.skip : Int), .int .i64 S.kind, .int .i64 (S.e : Int), ov, bv, vv, tv, .int .i64 (S.used : Int), .int .i64 (S.free : Int), .bool S.dry]
/-- From where on an object's blocks lie; where what it only reads lies. -/
structure LoG where
  lo : Nat
  G : Nat → Prop
/-- The document's machine lies in block b. -/
structure Dm2 (lo : LoG) (w : World) (b : Nat) (S : Ms) (LV : Nat) (ov bv vv tv : Value) : Prop where
  blk : w.heap[b]? = some (.cells (dmC S ov bv vv tv) 75 (0, 0))
  lob : lo.lo ≤ b
  ops : Orw w lo.lo 83 6 ov S.L (fun i => (opCs (S.f i)).toList)
  bls : Orw w lo.lo 61 3 bv S.M (fun i => (spCs (S.g i)).toList)
  val : Orw w lo.lo 22 1 vv LV (fun i => [.int .u64 (S.v i : Int)])
  hob : ov.ownBlock ≠ some b
  hbb : bv.ownBlock ≠ some b
  hvb : vv.ownBlock ≠ some b
  hobv : ∀ k, ov.ownBlock = some k → bv.ownBlock ≠ some k
  hov : ∀ k, ov.ownBlock = some k → vv.ownBlock ≠ some k
  hbv : ∀ k, bv.ownBlock = some k → vv.ownBlock ≠ some k
  tap : RdS .u64 w (fun g => g ≠ b ∧ ov.ownBlock ≠ some g ∧ bv.ownBlock ≠ some g ∧ vv.ownBlock ≠ some g ∧ lo.G g) tv (wdL (fun i => S.tw (S.used + i)) (S.TN - S.used))
abbrev Dm (lo : LoG) (w : World) (b : Nat) (S : Ms) (ov bv vv tv : Value) : Prop := Dm2 lo w b S S.L ov bv vv tv
/-- What it owns. -/
def Ft (b : Nat) (ov bv vv : Value) (k : Nat) : Prop := k = b ∨ ov.ownBlock = some k ∨ bv.ownBlock = some k ∨ vv.ownBlock = some k
section
variable {lo : LoG} {b : Nat} {w w' : World} {S : Ms} {ov bv vv tv : Value}
theorem Dm.lt (h : Dm lo w b S ov bv vv tv) : b < w.heap.size := (Array.getElem?_eq_some_iff.1 h.blk).1
theorem rds_self {k : IntKind} {F : Nat → Prop} {v : Value} {zs : List Int} (h : RdS k w F v zs) (hb : Below w.heap.size w w') : RdS k w' F v zs := by
  obtain ⟨a, cap, e, h1, h2, h3, h4, h5⟩ := h
  refine ⟨a, cap, e, h1, h2, h3, h4, fun h0 => ?_⟩
  obtain ⟨g, off, ea, hF, hg, hc⟩ := h5 h0
  exact ⟨g, off, ea, hF, Nat.lt_of_lt_of_le hg hb.size, fun j hj => by rw [World.cell?_of_block (hb.block g hg)]; exact hc j hj⟩
theorem Dm.self (h : Dm lo w b S ov bv vv tv) (hb : Below w.heap.size w w') : Dm lo w' b S ov bv vv tv :=
  ⟨(hb.block b h.lt).trans h.blk, h.lob, h.ops.stays fun k hk => hb.block k (h.ops.lt k hk).2, h.bls.stays fun k hk => hb.block k (h.bls.lt k hk).2,
   h.val.stays fun k hk => hb.block k (h.val.lt k hk).2, h.hob, h.hbb, h.hvb, h.hobv, h.hov, h.hbv, rds_self h.tap hb⟩
theorem Dm.drew (h : Dm lo w b S ov bv vv tv) : Dm lo w.drew b S ov bv vv tv := h.self ((Below.refl _ w).drew)
/-- The cells of a machine, one by one. -/
theorem Dm.c (h : Dm lo w b S ov bv vv tv) (i : Nat) {u : Value} (hu : (dmC S ov bv vv tv)[i]? = some u) : w.cell? ⟨b, i, none⟩ = some u := by
  rw [cell_of_row w b i _ _ _ h.blk]; exact hu
theorem Dm.c_n (h : Dm lo w b S ov bv vv tv) : w.cell? ⟨b, 0, none⟩ = some (Value.int .i64 S.n) := h.c 0 rfl
theorem Dm.c_most (h : Dm lo w b S ov bv vv tv) : w.cell? ⟨b, 1, none⟩ = some (Value.int .i64 S.most) := h.c 1 rfl
theorem Dm.c_words (h : Dm lo w b S ov bv vv tv) : w.cell? ⟨b, 2, none⟩ = some (Value.int .i64 (S.words : Int)) := h.c 2 rfl
theorem Dm.c_draws (h : Dm lo w b S ov bv vv tv) : w.cell? ⟨b, 3, none⟩ = some (Value.int .i64 (S.draws : Int)) := h.c 3 rfl
theorem Dm.c_fr (h : Dm lo w b S ov bv vv tv) : w.cell? ⟨b, 4, none⟩ = some (Value.int .i64 (S.fr : Int)) := h.c 4 rfl
theorem Dm.c_kind (h : Dm lo w b S ov bv vv tv) : w.cell? ⟨b, 6, none⟩ = some (Value.int .i64 S.kind) := h.c 6 rfl
theorem Dm.c_e (h : Dm lo w b S ov bv vv tv) : w.cell? ⟨b, 7, none⟩ = some (Value.int .i64 (S.e : Int)) := h.c 7 rfl
theorem Dm.c_ov (h : Dm lo w b S ov bv vv tv) : w.cell? ⟨b, 8, none⟩ = some (ov) := h.c 8 rfl
theorem Dm.c_bv (h : Dm lo w b S ov bv vv tv) : w.cell? ⟨b, 9, none⟩ = some (bv) := h.c 9 rfl
theorem Dm.c_vv (h : Dm lo w b S ov bv vv tv) : w.cell? ⟨b, 10, none⟩ = some (vv) := h.c 10 rfl
theorem Dm.c_tv (h : Dm lo w b S ov bv vv tv) : w.cell? ⟨b, 11, none⟩ = some (tv) := h.c 11 rfl
theorem Dm.c_dry (h : Dm lo w b S ov bv vv tv) : w.cell? ⟨b, 14, none⟩ = some (Value.bool S.dry) := h.c 14 rfl
theorem Dm.fz (h : Dm lo w b S ov bv vv tv) (i : Nat) : w.frozen? ⟨b, i, none⟩ = false := frozen_of_row w b i _ _ h.blk
theorem Dm.vals (h : Dm lo w b S ov bv vv tv) : ∃ a cap, vv = .slice a S.L cap ∧ (0 < S.L → ∃ g, a = some ⟨g, 0, none⟩ ∧ ∀ i, i < S.L → w.cell? ⟨g, i, none⟩ = some (.int .u64 (S.v i : Int))) := by
  obtain ⟨a, cap, rfl, _, _, _, hp⟩ := h.val.slice
  refine ⟨a, cap, rfl, fun h0 => ?_⟩
  obtain ⟨g, rfl⟩ := hp h0
  refine ⟨g, rfl, fun i hi => ?_⟩
  have := Orw.cell h.val (fun _ => rfl) hi (by decide : 0 < 1) (u := .int .u64 (S.v i : Int)) rfl
  simpa using this
end
end Go.Proofs.YthkijncnndoafaaDoor

/- Wire: the document's machine: errors that stay, blocks that begin. -/
namespace Go.Proofs.YthkijncnndoafaaDoor
open Go.RowKit
set_option maxRecDepth 100000
section
variable {lo : LoG} {b : Nat} {w w' : World} {S S' : Ms} {ov bv vv tv : Value}
theorem rds_stays {k : IntKind} {F : Nat → Prop} {v : Value} {zs : List Int} (h : RdS k w F v zs) (hs : w.heap.size ≤ w'.heap.size) (hF : ∀ g, F g → g < w.heap.size → w'.heap[g]? = w.heap[g]?) : RdS k w' F v zs := by
  obtain ⟨a, cap, e, h1, h2, h3, h4, h5⟩ := h
  refine ⟨a, cap, e, h1, h2, h3, h4, fun h0 => ?_⟩
  obtain ⟨g, off, ea, hf, hg, hc⟩ := h5 h0
  exact ⟨g, off, ea, hf, Nat.lt_of_lt_of_le hg hs, fun j hj => by rw [World.cell?_of_block (hF g hf hg)]; exact hc j hj⟩
/-- The machine's own block alone is turned. -/
theorem Dm.turn (h : Dm lo w b S ov bv vv tv) (hblk : w'.heap[b]? = some (.cells (dmC S' ov bv vv tv) 75 (0, 0))) (hs : w.heap.size ≤ w'.heap.size) (ho : ∀ k, k ≠ b → k < w.heap.size → w'.heap[k]? = w.heap[k]?)
    (hL : S'.L = S.L) (hf : S'.f = S.f) (hM : S'.M = S.M) (hg : S'.g = S.g) (hv : S'.v = S.v) (htw : S'.tw = S.tw) (hu : S'.used = S.used) (hTN : S'.TN = S.TN) : Dm lo w' b S' ov bv vv tv := by
  refine ⟨hblk, h.lob, ?_, ?_, ?_, h.hob, h.hbb, h.hvb, h.hobv, h.hov, h.hbv, ?_⟩
  · rw [hL, hf]; exact h.ops.stays fun k hk => ho k (fun e => h.hob (e ▸ hk)) (h.ops.lt k hk).2
  · rw [hM, hg]; exact h.bls.stays fun k hk => ho k (fun e => h.hbb (e ▸ hk)) (h.bls.lt k hk).2
  · rw [hL, hv]; exact h.val.stays fun k hk => ho k (fun e => h.hvb (e ▸ hk)) (h.val.lt k hk).2
  · rw [htw, hu, hTN]; exact rds_stays h.tap hs fun g hg hlt => ho g hg.1 hlt
theorem Dm.cellSet (h : Dm lo w b S ov bv vv tv) (i : Nat) (u : Value) (e : (dmC S ov bv vv tv).setIfInBounds i u = dmC S' ov bv vv tv)
    (hL : S'.L = S.L) (hf : S'.f = S.f) (hM : S'.M = S.M) (hg : S'.g = S.g) (hv : S'.v = S.v) (htw : S'.tw = S.tw) (hu : S'.used = S.used) (hTN : S'.TN = S.TN) : Dm lo (w.setCell ⟨b, i, none⟩ u) b S' ov bv vv tv :=
  h.turn (by rw [heap_setCell_same w b i _ 75 u h.blk, e]) (by simp [World.setCell]) (fun k hk _ => heap_setCell_other w ⟨b, i, none⟩ k u hk) hL hf hM hg hv htw hu hTN
theorem tch_set (b i : Nat) (u : Value) (w : World) : Tch (Ft b ov bv vv) w (w.setCell ⟨b, i, none⟩ u) := Tch.set w u (.inl rfl)
end
/-- What a method of the machine leaves. -/
def DmR (lo : LoG) (b : Nat) (ov bv vv : Value) (S' : Ms) (w w' : World) : Prop := ∃ ov' bv' vv' tv', Dm lo w' b S' ov' bv' vv' tv' ∧ Tch (Ft b ov bv vv) w w' ∧ (∀ k, Ft b ov' bv' vv' k → Ft b ov bv vv k ∨ w.heap.size ≤ k)
end Go.Proofs.YthkijncnndoafaaDoor

/- Wire: the document's machine: a row grows; blocks that end. -/
namespace Go.Proofs.YthkijncnndoafaaDoor
open Go.RowKit
set_option maxRecDepth 100000
section
variable {lo : LoG} {b : Nat} {w w' : World} {S : Ms} {ov bv vv tv : Value}
theorem grown_at {r : Option Nat} (h : w.grownBy w' r) (b i : Nat) (u : Value) {k : Nat} (hk : k < w.heap.size) (hr : some k ≠ r) (hb : k ≠ b) : (w'.setCell ⟨b, i, none⟩ u).heap[k]? = w.heap[k]? := by
  rw [heap_setCell_other w' ⟨b, i, none⟩ k u hb]; exact h.block k hk hr
theorem row_in {B k n b : Nat} {E : TypeId} {v : Value} {c : Nat → List Value} (h : Orw w B E k v n c) (hb : v.ownBlock ≠ some b) (i : Nat) (u : Value) : Orw (w.setCell ⟨b, i, none⟩ u) B E k v n c :=
  h.stays fun j hj => heap_setCell_other w ⟨b, i, none⟩ j u (fun e => hb (by subst e; exact hj))
theorem Dm2.addBl (h : Dm2 lo w b S S.L ov bv vv tv) {g cap : Nat} {sp : Sp3} (hrow : Orw w' lo.lo 61 3 (.slice (some ⟨g, 0, none⟩) (S.M + 1) cap) (S.M + 1) (fun i => (spCs (updS S.g S.M sp i)).toList)) (hg : w.grownBy w' bv.ownBlock) (hp : bv.ownBlock = some g ∨ g = w.heap.size) :
    Dm2 lo (w'.setCell ⟨b, 9, none⟩ (.slice (some ⟨g, 0, none⟩) (S.M + 1) cap)) b { S with M := S.M + 1, g := updS S.g S.M sp } S.L ov (.slice (some ⟨g, 0, none⟩) (S.M + 1) cap) vv tv ∧ Tch (Ft b ov bv vv) w (w'.setCell ⟨b, 9, none⟩ (.slice (some ⟨g, 0, none⟩) (S.M + 1) cap)) ∧ (∀ k, Ft b ov (.slice (some ⟨g, 0, none⟩) (S.M + 1) cap) vv k → Ft b ov bv vv k ∨ w.heap.size ≤ k) := by
  have hgb : ((.slice (some ⟨g, 0, none⟩) (S.M + 1) cap) : Value).ownBlock ≠ some b := by
    intro e
    have e' : g = b := Option.some.inj e
    subst e'
    rcases hp with hp | hp
    · exact h.hbb hp
    · have := (Array.getElem?_eq_some_iff.1 h.blk).1; omega
  have hga_ov : ∀ k, g = k → ov.ownBlock ≠ some k := fun k e hk => by
    subst e
    rcases hp with hp | hp
    · exact (h.hobv g hk) hp
    · have := (h.ops.lt g hk).2; omega
  have hga_vv : ∀ k, g = k → vv.ownBlock ≠ some k := fun k e hk => by
    subst e
    rcases hp with hp | hp
    · exact (fun e => h.hbv g e hk) hp
    · have := (h.val.lt g hk).2; omega
  have hbl : w'.heap[b]? = w.heap[b]? := hg.block b (Array.getElem?_eq_some_iff.1 h.blk).1 (fun e => h.hbb e.symm)
  refine ⟨⟨?_, h.lob, ?_, ?_, ?_, h.hob, hgb, h.hvb, fun k hk e => hga_ov k (Option.some.inj e) hk, h.hov, fun k hk e => hga_vv k (Option.some.inj hk) e, ?_⟩, ?_, ?_⟩
  · rw [heap_setCell_same w' b 9 _ 75 _ (hbl.trans h.blk)]; rfl
  · exact h.ops.stays fun k hk => grown_at hg b 9 _ (h.ops.lt k hk).2 (fun e => (h.hobv k hk) e.symm) (fun e => h.hob (e ▸ hk))
  · exact row_in hrow hgb 9 _
  · exact h.val.stays fun k hk => grown_at hg b 9 _ (h.val.lt k hk).2 (fun e => (fun e => h.hbv k e hk) e.symm) (fun e => h.hvb (e ▸ hk))
  · obtain ⟨a, cp, e, h1, h2, h3, h4, h5⟩ := h.tap
    refine ⟨a, cp, e, h1, h2, h3, h4, fun h0 => ?_⟩
    obtain ⟨q, off, ea, ⟨f1, f2, f3, f4, f5⟩, hq, hc⟩ := h5 h0
    have hgq : g ≠ q := fun e => by
      subst e
      rcases hp with hp | hp
      · exact f3 hp
      · omega
    refine ⟨q, off, ea, ⟨f1, f2, fun e => hgq (Option.some.inj e), f4, f5⟩, by have := hg.size; simp [World.setCell]; omega, fun j hj => ?_⟩
    rw [World.cell?_of_block (grown_at hg b 9 _ hq (fun e => f3 e.symm) f1)]
    exact hc j hj
  · exact (Tch.of_grown hg (fun k e => .inr (.inr (.inl e)))).trans (tch_set b 9 _ w') (fun _ _ f => f)
  · rintro k (rfl | e | e | e)
    · exact .inl (.inl rfl)
    · exact .inl (.inr (.inl e))
    · have e' : g = k := Option.some.inj e
      subst e'
      rcases hp with hp | hp
      · exact .inl (.inr (.inr (.inl hp)))
      · exact .inr (by omega)
    · exact .inl (.inr (.inr (.inr e)))
theorem Dm2.addVal (h : Dm2 lo w b S S.L ov bv vv tv) {g cap : Nat} {x : Nat} (hrow : Orw w' lo.lo 22 1 (.slice (some ⟨g, 0, none⟩) (S.L + 1) cap) (S.L + 1) (fun i => [.int .u64 ((updN S.v S.L x i : Nat) : Int)])) (hg : w.grownBy w' vv.ownBlock) (hp : vv.ownBlock = some g ∨ g = w.heap.size) :
    Dm2 lo (w'.setCell ⟨b, 10, none⟩ (.slice (some ⟨g, 0, none⟩) (S.L + 1) cap)) b { S with v := updN S.v S.L x } (S.L + 1) ov bv (.slice (some ⟨g, 0, none⟩) (S.L + 1) cap) tv ∧ Tch (Ft b ov bv vv) w (w'.setCell ⟨b, 10, none⟩ (.slice (some ⟨g, 0, none⟩) (S.L + 1) cap)) ∧ (∀ k, Ft b ov bv (.slice (some ⟨g, 0, none⟩) (S.L + 1) cap) k → Ft b ov bv vv k ∨ w.heap.size ≤ k) := by
  have hgb : ((.slice (some ⟨g, 0, none⟩) (S.L + 1) cap) : Value).ownBlock ≠ some b := by
    intro e
    have e' : g = b := Option.some.inj e
    subst e'
    rcases hp with hp | hp
    · exact h.hvb hp
    · have := (Array.getElem?_eq_some_iff.1 h.blk).1; omega
  have hga_ov : ∀ k, g = k → ov.ownBlock ≠ some k := fun k e hk => by
    subst e
    rcases hp with hp | hp
    · exact (h.hov g hk) hp
    · have := (h.ops.lt g hk).2; omega
  have hga_bv : ∀ k, g = k → bv.ownBlock ≠ some k := fun k e hk => by
    subst e
    rcases hp with hp | hp
    · exact (h.hbv g hk) hp
    · have := (h.bls.lt g hk).2; omega
  have hbl : w'.heap[b]? = w.heap[b]? := hg.block b (Array.getElem?_eq_some_iff.1 h.blk).1 (fun e => h.hvb e.symm)
  refine ⟨⟨?_, h.lob, ?_, ?_, ?_, h.hob, h.hbb, hgb, h.hobv, fun k hk e => hga_ov k (Option.some.inj e) hk, fun k hk e => hga_bv k (Option.some.inj e) hk, ?_⟩, ?_, ?_⟩
  · rw [heap_setCell_same w' b 10 _ 75 _ (hbl.trans h.blk)]; rfl
  · exact h.ops.stays fun k hk => grown_at hg b 10 _ (h.ops.lt k hk).2 (fun e => (h.hov k hk) e.symm) (fun e => h.hob (e ▸ hk))
  · exact h.bls.stays fun k hk => grown_at hg b 10 _ (h.bls.lt k hk).2 (fun e => (h.hbv k hk) e.symm) (fun e => h.hbb (e ▸ hk))
  · exact row_in hrow hgb 10 _
  · obtain ⟨a, cp, e, h1, h2, h3, h4, h5⟩ := h.tap
    refine ⟨a, cp, e, h1, h2, h3, h4, fun h0 => ?_⟩
    obtain ⟨q, off, ea, ⟨f1, f2, f3, f4, f5⟩, hq, hc⟩ := h5 h0
    have hgq : g ≠ q := fun e => by
      subst e
      rcases hp with hp | hp
      · exact f4 hp
      · omega
    refine ⟨q, off, ea, ⟨f1, f2, f3, fun e => hgq (Option.some.inj e), f5⟩, by have := hg.size; simp [World.setCell]; omega, fun j hj => ?_⟩
    rw [World.cell?_of_block (grown_at hg b 10 _ hq (fun e => f4 e.symm) f1)]
    exact hc j hj
  · exact (Tch.of_grown hg (fun k e => .inr (.inr (.inr e)))).trans (tch_set b 10 _ w') (fun _ _ f => f)
  · rintro k (rfl | e | e | e)
    · exact .inl (.inl rfl)
    · exact .inl (.inr (.inl e))
    · exact .inl (.inr (.inr (.inl e)))
    · have e' : g = k := Option.some.inj e
      subst e'
      rcases hp with hp | hp
      · exact .inl (.inr (.inr (.inr hp)))
      · exact .inr (by omega)
end
end Go.Proofs.YthkijncnndoafaaDoor

/- Wire: the document's machine: a block ends. -/
namespace Go.Proofs.YthkijncnndoafaaDoor
open Go.RowKit
set_option maxRecDepth 100000
theorem Dm.drewN {lo : LoG} {b : Nat} {w : World} {S : Ms} {ov bv vv tv : Value} (h : Dm lo w b S ov bv vv tv) (n : Nat) : Dm lo (w.drewN n) b S ov bv vv tv := h.self (below_drewN w n)
end Go.Proofs.YthkijncnndoafaaDoor

/- Wire: the document's machine: a mask is drawn. -/
namespace Go.Proofs.YthkijncnndoafaaDoor
open Go.RowKit
set_option maxRecDepth 100000
section
variable {lo : LoG} {b : Nat} {w : World} {S : Ms} {ov bv vv tv : Value}
theorem Dm.drawn (h : Dm lo w b S ov bv vv tv) {v' : Value} {f' u' : Int} (hr : RdS .u64 w (fun g => g ≠ b ∧ ov.ownBlock ≠ some g ∧ bv.ownBlock ≠ some g ∧ vv.ownBlock ≠ some g ∧ lo.G g) v' (wdL (fun i => S.tw (S.used + 1 + i)) (S.TN - (S.used + 1)))) (hf : f' = ((S.free - 1 : Nat) : Int)) (hu : u' = ((S.used + 1 : Nat) : Int)) :
    Dm lo (((w.setCell ⟨b, 11, none⟩ v').setCell ⟨b, 13, none⟩ (.int .i64 f')).setCell ⟨b, 12, none⟩ (.int .i64 u')) b { S with used := S.used + 1, free := S.free - 1 } ov bv vv v' ∧ Tch (Ft b ov bv vv) w (((w.setCell ⟨b, 11, none⟩ v').setCell ⟨b, 13, none⟩ (.int .i64 f')).setCell ⟨b, 12, none⟩ (.int .i64 u')) := by
  subst hf; subst hu
  have ho : ∀ k, k ≠ b → (((w.setCell ⟨b, 11, none⟩ v').setCell ⟨b, 13, none⟩ (.int .i64 ((S.free - 1 : Nat) : Int))).setCell ⟨b, 12, none⟩ (.int .i64 ((S.used + 1 : Nat) : Int))).heap[k]? = w.heap[k]? := fun k hk => by
    rw [heap_setCell_other _ ⟨b, 12, none⟩ k _ hk, heap_setCell_other _ ⟨b, 13, none⟩ k _ hk, heap_setCell_other _ ⟨b, 11, none⟩ k _ hk]
  refine ⟨⟨?_, h.lob, ?_, ?_, ?_, h.hob, h.hbb, h.hvb, h.hobv, h.hov, h.hbv, ?_⟩, ?_⟩
  · rw [heap_setCell_same _ b 12 _ 75 _ (heap_setCell_same _ b 13 _ 75 _ (heap_setCell_same w b 11 _ 75 v' h.blk))]; rfl
  · exact h.ops.stays fun k hk => ho k (fun e => h.hob (by subst e; exact hk))
  · exact h.bls.stays fun k hk => ho k (fun e => h.hbb (by subst e; exact hk))
  · exact h.val.stays fun k hk => ho k (fun e => h.hvb (by subst e; exact hk))
  · exact rds_stays hr (by simp [World.setCell]) fun g hg _ => ho g hg.1
  · exact ((tch_set b 11 _ _).trans (tch_set b 13 _ _) (fun _ _ f => f)).trans (tch_set b 12 _ _) (fun _ _ f => f)
end
end Go.Proofs.YthkijncnndoafaaDoor

/- Op: what an op makes, by the document. -/
namespace Go.Proofs.YthkijncnndoafaaDoor
open Go.RowKit

theorem rotl_rtw {x m : Nat} (hx : x < 2 ^ 64) : rotl (x : Int) m = (rt x m : Nat) := by
  unfold rotl rt
  have d : ((x : Int) / 2 ^ (64 - m)) = ((x / 2 ^ (64 - m) : Nat) : Int) := by simp
  have e : IntKind.u64.wrap ((x : Int) * 2 ^ m) = ((x * 2 ^ m % 2 ^ 64 : Nat) : Int) := by rw [IntKind.wrap_u64]; simp
  rw [e, d, bits_or_u64_nat _ _ (Nat.mod_lt _ (by decide)) (by have := Nat.div_le_self x (2 ^ (64 - m)); omega)]
theorem orot_n {x m : Nat} {k : Int} (hx : x < 2 ^ 64) (hk : k % 64 = m) (w : World) :
    Calls Tryd.prog 79 #[.int .u64 (x : Int), .int .i64 k] w fun e w' => e = .returned (.int .u64 (rt x m : Nat)) ∧ w' = w := by
  have h := orot_any (x : Int) k w (by omega)
  rw [show (k % 64).toNat = m by omega, rotl_rtw hx] at h
  exact h
/-- An op, as it comes in. -/
abbrev opV (K D A B E : Int) (C : Nat) : Value := .agg #[.int .i64 K, .int .i64 D, .int .i64 A, .int .i64 B, .int .i64 E, .int .u64 (C : Int)]
end Go.Proofs.YthkijncnndoafaaDoor

/- General: whole stores and results of any row of cells (arrays, structs). No program is named. -/
namespace Go.Proofs.YthkijncnndoafaaDoor
open Go.RowKit
theorem step_store_row {P : Program} {w : World} {ops : Array Oper} {rest : List Oper} {o : Oper} {a : Act} {Q : Exit → Act → World → Prop} (hgd : o.guard = none) (ty : TypeId) (x y : Operand) (ho : o.op = .store ty x y)
    (b : Nat) (t : TypeId) (cs cs' : Array Value) (hx : a.eval x = .pointer (some ⟨b, 0, none⟩)) (hy : a.eval y = .agg cs') (hA : w.heap[b]? = some (.cells cs t (0, 0))) (hi : (P.info? ty).map (·.size) = some cs'.size) (hs : cs.size = cs'.size) (h1 : cs'.all (·.oneCell') = true)
    (k : wpList P ops Q rest (a.put o.dst undef) (w.setRow b cs')) : wpList P ops Q (o :: rest) a w :=
  wpList_plain hgd fun _ hK => wp_store_row ty x y ho b _ hx hy t _ hA hi hs h1 (hK _ _ k)
theorem ret_row_tmp {P : Program} {fn : Func} {p u : Tmp} {ty : TypeId} {R : Ending → World → Prop} {a : Act} {w : World} {b : Nat} {t : TypeId} {cs : Array Value} {d : TypeDesc} (h : fn.results = #[.cell p ty, .tmp u])
    (hp : a.tmps.getD p undef = .pointer (some ⟨b, 0, none⟩)) (hA : w.heap[b]? = some (.cells cs t (0, 0))) (hu : P.underlying ty = some d) (hag : (match d with | .struct _ | .array _ _ => true | _ => false) = true) (hi : (P.info? ty).map (·.size) = some cs.size) (hd : a.defers = [])
    (k : R (.returned (.tuple #[.agg cs, a.tmps.getD u undef])) w) : bodyPost P fn R .ret a w := by
  refine bodyPost_ret ?_ hd k
  rw [results_cell_tmp h, hp]
  simp only [asAddr, Sem.run_pure, Result.andThen_ok, run_loadVar_row w b t ty cs (0, 0) d hA hu hag hi]
theorem yields_load_row {P : Program} {ops : Array Oper} {S : World → Prop} {o : Oper} {a : Act} (hw : Region.wanted o (yielded ops a.tmps) = true) (ty : TypeId) (x : Operand) (ho : o.op = .load ty x) (b : Nat) (t : TypeId) (cs : Array Value) (d : TypeDesc)
    (hx : a.eval x = .pointer (some ⟨b, 0, none⟩)) (hS : ∀ w, S w → w.heap[b]? = some (.cells cs t (0, 0))) (hu : P.underlying ty = some d) (hag : (match d with | .struct _ | .array _ _ => true | _ => false) = true) (hi : (P.info? ty).map (·.size) = some cs.size) : YieldsIf P ops S o (.agg cs) a :=
  .inl ⟨hw, fun w h => by
    unfold execOp
    simp only [ho, hx, Instr.loadAt, Instr.sureAddr, Sem.run_bind, Sem.run_pure, Result.andThen_ok, run_loadVar_row w b t ty cs (0, 0) d (hS w h) hu hag hi]⟩
end Go.Proofs.YthkijncnndoafaaDoor

/- Wire: the document's machine: an op is done. -/
namespace Go.Proofs.YthkijncnndoafaaDoor
open Go.RowKit
set_option maxRecDepth 100000
/-- On the way through Do: the machine, and the op's box. -/
structure Dz (lo : LoG) (b : Nat) (w wx : World) (S : Ms) (o : Op6) (ov bv vv tv : Value) : Prop where
  dm : Dm lo wx b S ov bv vv tv
  op : wx.heap[w.heap.size]? = some (.cells (opCs o) 83 (0, 0))
  tch : Tch (Ft b ov bv vv) w wx
  no : ¬ Ft b ov bv vv w.heap.size
section
variable {lo : LoG} {b : Nat} {w wx wy : World} {S S' : Ms} {o : Op6} {ov bv vv tv tv' : Value}
theorem Dz.step (h : Dz lo b w wx S o ov bv vv tv) (hd : Dm lo wy b S' ov bv vv tv') (ht : Tch (Ft b ov bv vv) wx wy) : Dz lo b w wy S' o ov bv vv tv' :=
  ⟨hd, (ht.block _ (Array.getElem?_eq_some_iff.1 h.op).1 h.no).trans h.op, h.tch.trans ht (fun _ _ f => f), h.no⟩
theorem Dz.self (h : Dz lo b w wx S o ov bv vv tv) (hb : Below wx.heap.size wx wy) : Dz lo b w wy S o ov bv vv tv := h.step (h.dm.self hb) (Tch.of_below hb)
theorem Dz.drew (h : Dz lo b w wx S o ov bv vv tv) : Dz lo b w wx.drew S o ov bv vv tv := h.self ((Below.refl _ _).drew)
theorem Dz.drewN (h : Dz lo b w wx S o ov bv vv tv) (n : Nat) : Dz lo b w (wx.drewN n) S o ov bv vv tv := h.self (below_drewN wx n)
theorem Dm.no (h : Dm lo w b S ov bv vv tv) : ¬ Ft b ov bv vv w.heap.size := by
  rintro (e | e | e | e)
  · have := h.lt; omega
  · have := (h.ops.lt _ e).2; omega
  · have := (h.bls.lt _ e).2; omega
  · have := (h.val.lt _ e).2; omega
theorem Dz.start (h : Dm lo w b S ov bv vv tv) (o : Op6) : Dz lo b w (w.alloc (.cells (opCs o) 83)) S o ov bv vv tv :=
  ⟨h.self ((Below.refl _ _).alloc (Nat.le_refl _) _), heap_alloc_new w _, Tch.of_below ((Below.refl _ _).alloc (Nat.le_refl _) _), h.no⟩
end
namespace Ms
def p1 (S : Ms) (o : Op6) : Ms := { S with used := if o.K = 1 ∧ S.dry = false then S.used + 1 else S.used, free := if o.K = 1 ∧ S.dry = false then S.free - 1 else S.free }
def p2 (S : Ms) (o : Op6) : Ms := { S.p1 o with draws := if o.K = 1 then S.draws + 1 else S.draws }
def p3 (S : Ms) (o : Op6) : Ms := { S.p2 o with words := if o.K = 2 then S.words + 1 else S.words }
end Ms
theorem Dm2.self {lo : LoG} {b LV : Nat} {w w' : World} {S : Ms} {ov bv vv tv : Value} (h : Dm2 lo w b S LV ov bv vv tv) (hb : Below w.heap.size w w') : Dm2 lo w' b S LV ov bv vv tv :=
  ⟨(hb.block b (Array.getElem?_eq_some_iff.1 h.blk).1).trans h.blk, h.lob, h.ops.stays fun k hk => hb.block k (h.ops.lt k hk).2, h.bls.stays fun k hk => hb.block k (h.bls.lt k hk).2,
   h.val.stays fun k hk => hb.block k (h.val.lt k hk).2, h.hob, h.hbb, h.hvb, h.hobv, h.hov, h.hbv, rds_self h.tap hb⟩
theorem Dm2.lt {lo : LoG} {b LV : Nat} {w : World} {S : Ms} {ov bv vv tv : Value} (h : Dm2 lo w b S LV ov bv vv tv) : b < w.heap.size := (Array.getElem?_eq_some_iff.1 h.blk).1
theorem Dm2.c {lo : LoG} {b LV : Nat} {w : World} {S : Ms} {ov bv vv tv : Value} (h : Dm2 lo w b S LV ov bv vv tv) (i : Nat) {u : Value} (hu : (dmC S ov bv vv tv)[i]? = some u) : w.cell? ⟨b, i, none⟩ = some u := by
  rw [cell_of_row w b i _ _ _ h.blk]; exact hu
end Go.Proofs.YthkijncnndoafaaDoor

/- General: a slice of acts (an int, an op, a word) that comes in. No program is named. -/
namespace Go.Proofs.YthkijncnndoafaaDoor
open Go.ChangeShapes Go.WideShapes Go.ChangeAt Go.RowKit Go.Deep

/-- An act. -/
structure Act8 where
  K : Int
  o : Op6
  X : Nat
def acwf (a : Act8) : Prop := (-9223372036854775808 ≤ a.K ∧ a.K ≤ 9223372036854775807) ∧ opwf a.o ∧ a.X < 18446744073709551616
/-- The cells of an act from offset n of block b on. -/
structure Ac (w : World) (q n : Nat) (a : Act8) : Prop where
  k : w.cell? ⟨q, n, none⟩ = some (.int .i64 a.K)
  o : Oc w q (n + 1) a.o
  x : w.cell? ⟨q, n + 7, none⟩ = some (.int .u64 (a.X : Int))
theorem Ac.self {w w' : World} {b n : Nat} {a : Act8} (h : Ac w b n a) (hb : Below w.heap.size w w') : Ac w' b n a :=
  ⟨tcell_self h.k hb, h.o.self hb, tcell_self h.x hb⟩
/-- v reads as the L acts f. -/
structure RAc (w : World) (v : Value) (L : Nat) (f : Nat → Act8) : Prop where
  lim : L ≤ 2300000000000
  wf : ∀ i, i < L → acwf (f i)
  at_ : ∃ a cap, v = .slice a L cap ∧ L ≤ cap ∧ cap ≤ maxLen ∧ (0 < L → ∃ b off, a = some ⟨b, off, none⟩ ∧ b < w.heap.size ∧ ∀ i, i < L → Ac w b (off + i * 8) (f i))
theorem RAc.self {w w' : World} {v : Value} {L : Nat} {f : Nat → Act8} (h : RAc w v L f) (hb : Below w.heap.size w w') : RAc w' v L f := by
  obtain ⟨a, cap, h1, h2, h3, h4⟩ := h.at_
  refine ⟨h.lim, h.wf, a, cap, h1, h2, h3, fun h0 => ?_⟩
  obtain ⟨b, off, e1, e2, e3⟩ := h4 h0
  exact ⟨b, off, e1, Nat.lt_of_lt_of_le e2 hb.size, fun i hi => (e3 i hi).self hb⟩
end Go.Proofs.YthkijncnndoafaaDoor

/- General: the machine as numbers: bounds, acts, a dry machine, a new one. No program is named. -/
namespace Go.Proofs.YthkijncnndoafaaDoor

namespace Ms
end Ms
/-- Bounds of a machine. -/
structure Bq (k : Nat) (S : Ms) : Prop where
  len : S.len ≤ k
  M : S.M ≤ k
  words : S.words ≤ k
  draws : S.draws ≤ k
  fr : S.fr ≤ k
  used : S.used ≤ 20000000000000
  free : S.free ≤ 20000000000000
  TN : S.TN ≤ 20000000000000
  v : ∀ i, i < S.L → S.v i < 2 ^ 64
  tw : ∀ i, i < S.TN → S.tw i < 2 ^ 64
  wet : S.dry = false → S.skip = 0
  ops : ∀ i, i < S.L → opwf (S.f i)
  sps : ∀ i, i < S.M → spwf (S.g i)
  kind : 0 ≤ S.kind ∧ S.kind ≤ 3
  n : -9223372036854775808 ≤ S.n ∧ S.n ≤ 9223372036854775807
  most : -9223372036854775808 ≤ S.most ∧ S.most ≤ 9223372036854775807
  e : S.e ≤ 4
theorem Bq.mono {k k' : Nat} {S : Ms} (h : Bq k S) (hk : k ≤ k') : Bq k' S :=
  ⟨Nat.le_trans h.len hk, Nat.le_trans h.M hk, Nat.le_trans h.words hk, Nat.le_trans h.draws hk, Nat.le_trans h.fr hk, h.used, h.free, h.TN, h.v, h.tw, h.wet, h.ops, h.sps, h.kind, h.n, h.most, h.e⟩
theorem Bq.fails {k : Nat} {S : Ms} (h : Bq k S) (e : Nat) (he : e ≤ 4) : Bq k { S with e := e } :=
  ⟨h.len, h.M, h.words, h.draws, h.fr, h.used, h.free, h.TN, h.v, h.tw, h.wet, h.ops, h.sps, h.kind, h.n, h.most, he⟩
theorem wordAt_lt {v : Nat → Nat} {L : Nat} (h : ∀ i, i < L → v i < 2 ^ 64) (r : Int) : wordAt v L r < 2 ^ 64 := by
  unfold wordAt
  split
  · rename_i hr; exact h _ (by omega)
  · decide
theorem Bq.does {k : Nat} {S : Ms} (h : Bq k S) {o : Op6} {x : Nat} (ho : opwf o) (hx : x < 2 ^ 64) : Bq (k + 1) (S.doS o x) := by
  unfold Ms.doS
  split
  · exact h.mono (by omega)
  · split
    · exact (h.fails 1 (by omega)).mono (by omega)
    · split
      · exact (h.fails 3 (by omega)).mono (by omega)
      · split
        · exact (h.fails 2 (by omega)).mono (by omega)
        · rename_i _ hb hf hout
          have hw : S.word o x < 2 ^ 64 := by
            unfold Ms.word
            split
            · rename_i e
              unfold Ms.out at hout
              rw [decide_eq_true e.1, e.2, Bool.not_false, Bool.true_and, Bool.true_and] at hout
              have h2 := of_decide_eq_false (Bool.not_eq_true _ ▸ hout)
              exact h.tw _ (by omega)
            · exact hx
          have hm : S.makes o x < 2 ^ 64 := evN_lt (by have := ho.2.2.2.2.2; omega) (wordAt_lt h.v _) (wordAt_lt h.v _) (wordAt_lt h.v _) hw
          have hl := h.len
          unfold Ms.len at hl
          refine ⟨by show S.skip + (S.L + 1) ≤ k + 1; omega, Nat.le_succ_of_le h.M, ?_, ?_, Nat.le_succ_of_le h.fr, ?_, ?_, h.TN, fun i hi => ?_, h.tw, h.wet, fun i hi => ?_, h.sps, h.kind, h.n, h.most, h.e⟩
          · show (if o.K = 2 then S.words + 1 else S.words) ≤ k + 1
            have := h.words
            split <;> omega
          · show (if o.K = 1 then S.draws + 1 else S.draws) ≤ k + 1
            have := h.draws
            split <;> omega
          · show (if o.K = 1 ∧ S.dry = false then S.used + 1 else S.used) ≤ 20000000000000
            have := h.used
            split
            · rename_i e
              unfold Ms.out at hout
              rw [decide_eq_true e.1, e.2, Bool.not_false, Bool.true_and, Bool.true_and] at hout
              have h2 := of_decide_eq_false (Bool.not_eq_true _ ▸ hout)
              have := h.TN
              omega
            · exact this
          · show (if o.K = 1 ∧ S.dry = false then S.free - 1 else S.free) ≤ 20000000000000
            have := h.free
            split <;> omega
          · show updN S.v S.L (S.makes o x) i < 2 ^ 64
            have hi' : i < S.L + 1 := hi
            by_cases e : i = S.L
            · subst e; rw [updN_at]; exact hm
            · rw [updN_no _ _ e]; exact h.v i (by omega)
          · show opwf (updO S.f S.L o i)
            have hi' : i < S.L + 1 := hi
            by_cases e : i = S.L
            · subst e; rw [updO_at]; exact ho
            · rw [updO_no _ _ e]; exact h.ops i (by omega)
theorem Bq.begins {k : Nat} {S : Ms} (h : Bq k S) (kd : Int) : Bq k (S.beginS kd) := by
  unfold Ms.beginS
  split
  · exact h
  · split
    · exact h.fails 1 (by omega)
    · rename_i _ e
      exact ⟨h.len, h.M, h.words, h.draws, h.len, h.used, h.free, h.TN, h.v, h.tw, h.wet, h.ops, h.sps, by show 0 ≤ kd ∧ kd ≤ 3; omega, h.n, h.most, h.e⟩
theorem Bq.ends {k : Nat} {S : Ms} (h : Bq k S) (hk : k ≤ 1000000) : Bq (k + 1) S.endS := by
  unfold Ms.endS
  split
  · exact h.mono (by omega)
  · split
    · exact (h.fails 1 (by omega)).mono (by omega)
    · have g : Bq (k + 1) { S with kind := 0 } := ⟨Nat.le_succ_of_le h.len, Nat.le_succ_of_le h.M, Nat.le_succ_of_le h.words, Nat.le_succ_of_le h.draws, Nat.le_succ_of_le h.fr, h.used, h.free, h.TN, h.v, h.tw, h.wet, h.ops, h.sps, by show (0 : Int) ≤ 0 ∧ (0 : Int) ≤ 3; decide, h.n, h.most, h.e⟩
      split
      · refine ⟨g.len, Nat.succ_le_succ h.M, g.words, g.draws, g.fr, h.used, h.free, h.TN, h.v, h.tw, h.wet, h.ops, fun i hi => ?_, g.kind, h.n, h.most, h.e⟩
        show spwf (updS S.g S.M ⟨S.kind, (S.fr : Int), (S.len : Int)⟩ i)
        have hi' : i < S.M + 1 := hi
        by_cases e : i = S.M
        · subst e
          rw [updS_at]
          have h1 := h.kind
          have h2 := h.fr
          have h3 := h.len
          exact ⟨by show _ ≤ S.kind ∧ S.kind ≤ _; omega, by show _ ≤ (S.fr : Int) ∧ (S.fr : Int) ≤ _; omega, by show _ ≤ (S.len : Int) ∧ (S.len : Int) ≤ _; omega⟩
        · rw [updS_no _ _ e]; exact h.sps i (by omega)
      · exact g
theorem doS_n (S : Ms) (o : Op6) (x : Nat) : (S.doS o x).n = S.n := by
  unfold Ms.doS
  repeat' split
  all_goals rfl
theorem doS_tw (S : Ms) (o : Op6) (x : Nat) : (S.doS o x).tw = S.tw := by
  unfold Ms.doS
  repeat' split
  all_goals rfl
theorem beginS_n (S : Ms) (k : Int) : (S.beginS k).n = S.n ∧ (S.beginS k).tw = S.tw ∧ (S.beginS k).TN = S.TN := by
  unfold Ms.beginS
  repeat' split
  all_goals exact ⟨rfl, rfl, rfl⟩
end Go.Proofs.YthkijncnndoafaaDoor
