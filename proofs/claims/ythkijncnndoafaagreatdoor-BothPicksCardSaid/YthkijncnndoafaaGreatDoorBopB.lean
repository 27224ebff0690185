import Derived.Test.YthkijncnndoafaaGreatDoorShy
import Derived.Test.YthkijncnndoafaaGreatDoorGenB
import Derived.Test.YthkijncnndoafaaGreatDoorWlm
import Derived.Test.YthkijncnndoafaaGreatDoorAcw
import Derived.Test.YthkijncnndoafaaGreatDoorWdg
import Derived.Test.YthkijncnndoafaaGreatDoorOcb
import Derived.Test.YthkijncnndoafaaGreatDoorGen
import Derived.Test.YthkijncnndoafaaGreatDoorWde
import Derived.Test.YthkijncnndoafaaGreatDoorBtf
namespace Go.Proofs.YthkijncnndoafaaGreatDoor

theorem pick_eq {a b c : Nat} (ha : a < 2 ^ 64) (hb : b < 2 ^ 64) (hc : c < 2 ^ 64) : a ^^^ (c &&& (a ^^^ b)) = (a - (a &&& c)) + (b &&& c) := by
 have h1 := split_and ha hc
 have h2 : a - (a &&& c) = a &&& wnt c := by omega
 have l1 : a &&& wnt c < 2 ^ 64 := Nat.lt_of_le_of_lt Nat.and_le_left ha
 have l2 : b &&& c < 2 ^ 64 := Nat.lt_of_le_of_lt Nat.and_le_left hb
 rw [h2, disj_add l1 l2]
 ·
  refine word_ext (xr_lt ha (Nat.lt_of_le_of_lt Nat.and_le_left hc)) (Nat.or_lt_two_pow l1 l2) fun j hj => ?_
  rw [Nat.testBit_xor, Nat.testBit_and, Nat.testBit_xor, Nat.testBit_or, Nat.testBit_and, Nat.testBit_and, wnt_bit hc hj]
  cases a.testBit j <;> cases b.testBit j <;> cases c.testBit j <;> rfl
 ·
  refine word_ext (Nat.lt_of_le_of_lt Nat.and_le_left l1) (by decide) fun j hj => ?_
  rw [Nat.testBit_and, Nat.testBit_and, Nat.testBit_and, wnt_bit hc hj, Nat.zero_testBit]
  cases a.testBit j <;> cases b.testBit j <;> cases c.testBit j <;> rfl
theorem pick_lt {a b c : Nat} (ha : a < 2 ^ 64) (hb : b < 2 ^ 64) (hc : c < 2 ^ 64) : (a - (a &&& c)) + (b &&& c) < 2 ^ 64 := by
 rw [← pick_eq ha hb hc]
 exact xr_lt ha (Nat.lt_of_le_of_lt Nat.and_le_left hc)
theorem fo_bit (m x : Nat) : ∀ j, j ≤ m → ∀ i, (foN m x j).testBit i = true ↔ ∃ t, t < 2 ^ j ∧ x.testBit (i + t * 2 ^ (m - j)) = true
 | 0, _, i => by
  constructor
  · exact fun h => ⟨0, by decide, by rw [Nat.zero_mul]; exact h⟩
  ·
   rintro ⟨t, ht, h⟩
   obtain rfl : t = 0 := by have : t < 1 := ht; omega
   rw [Nat.zero_mul] at h
   exact h
 | j + 1, hj, i => by
  have hp : 2 ^ (m - j) = 2 * 2 ^ (m - 1 - j) := by rw [show m - j = (m - 1 - j) + 1 by omega, Nat.pow_succ, Nat.mul_comm]
  have hq : m - (j + 1) = m - 1 - j := by omega
  rw [foN_step, Nat.testBit_or, wsr_bit, Bool.or_eq_true, fo_bit m x j (by omega) i, fo_bit m x j (by omega) (i + 2 ^ (m - 1 - j)), hp, hq]
  generalize 2 ^ (m - 1 - j) = k
  constructor
  ·
   rintro (⟨t, ht, h⟩ | ⟨t, ht, h⟩)
   ·
    refine ⟨2 * t, by rw [Nat.pow_succ]; omega, ?_⟩
    rw [show 2 * t * k = t * (2 * k) by rw [Nat.mul_comm 2 t, Nat.mul_assoc]]
    exact h
   ·
    refine ⟨2 * t + 1, by rw [Nat.pow_succ]; omega, ?_⟩
    rw [show i + (2 * t + 1) * k = i + k + t * (2 * k) by rw [Nat.add_mul, Nat.one_mul, Nat.mul_comm 2 t, Nat.mul_assoc]; omega]
    exact h
  ·
   rintro ⟨t, ht, h⟩
   rw [Nat.pow_succ] at ht
   rcases Nat.mod_two_eq_zero_or_one t with e | e
   ·
    refine .inl ⟨t / 2, by omega, ?_⟩
    rw [show t / 2 * (2 * k) = t * k by rw [← Nat.mul_assoc, show t / 2 * 2 = t by omega]]
    exact h
   ·
    refine .inr ⟨t / 2, by omega, ?_⟩
    rw [show i + k + t / 2 * (2 * k) = i + t * k by rw [← Nat.mul_assoc, show t / 2 * 2 = t - 1 by omega, Nat.sub_mul, Nat.one_mul]; have : k ≤ t * k := Nat.le_mul_of_pos_left k (by omega); omega]
    exact h
theorem fo_any (m x : Nat) : foN m x m % 2 = 1 ↔ x % 2 ^ (2 ^ m) ≠ 0 := by
 have h0 : foN m x m % 2 = 1 ↔ (foN m x m).testBit 0 = true := by rw [Nat.testBit_zero]; simp
 rw [h0, fo_bit m x m (Nat.le_refl m) 0]
 simp only [Nat.sub_self, Nat.pow_zero, Nat.mul_one, Nat.zero_add]
 generalize 2 ^ m = q
 constructor
 ·
  rintro ⟨t, ht, h⟩ e
  have h2 : (x % 2 ^ q).testBit t = true := by rw [Nat.testBit_mod_two_pow, decide_eq_true ht, h]; rfl
  rw [e, Nat.zero_testBit] at h2
  cases h2
 ·
  intro hne
  obtain ⟨t, ht⟩ := Nat.exists_testBit_of_ne_zero hne
  rw [Nat.testBit_mod_two_pow, Bool.and_eq_true, decide_eq_true_eq] at ht
  exact ⟨t, ht.1, ht.2⟩
theorem foN_lt (m : Nat) {x : Nat} (hx : x < 2 ^ 64) : ∀ j, foN m x j < 2 ^ 64
 | 0 => hx
 | j + 1 => by rw [foN_step]; exact Nat.or_lt_two_pow (foN_lt m hx j) (wsr_lt (foN_lt m hx j) _)
theorem alike_eq {a b : Nat} (ha : a < 2 ^ 64) (hb : b < 2 ^ 64) : wnt (foN (lgW 64) (a ^^^ b) (lgW 64)) % 2 = 1 ↔ a = b := by
 have hl : lgW 64 = 6 := by decide
 rw [hl]
 have h1 := fo_any 6 (a ^^^ b)
 have h2 := foN_lt 6 (xr_lt ha hb) 6
 have h3 : wnt (foN 6 (a ^^^ b) 6) % 2 = 1 ↔ ¬ foN 6 (a ^^^ b) 6 % 2 = 1 := by unfold wnt; omega
 have h4 := xr_lt ha hb
 rw [h3, h1, show (2 : Nat) ^ 6 = 64 by decide, Nat.mod_eq_of_lt h4]
 constructor
 ·
  intro h
  have e : a ^^^ b = 0 := Decidable.not_not.1 h
  have e2 : a ^^^ (a ^^^ b) = b := by rw [← Nat.xor_assoc, Nat.xor_self, Nat.zero_xor]
  rw [e, Nat.xor_zero] at e2
  exact e2
 ·
  rintro rfl
  rw [Nat.xor_self]
  exact fun h => h rfl
def pkS3 (S : Ms) (x : Nat → Nat) : Ms := lyS S x 3
def pkS4 (S : Ms) (x : Nat → Nat) (dom : Bool) : Ms := bpS (pkS3 S x) dom (lyR S x 0) (lyR S x 1) (lyR S x 2)
def pkR4 (S : Ms) (x : Nat → Nat) (dom : Bool) : Nat → Int := bpR (pkS3 S x) dom (lyR S x 0) (lyR S x 1) (lyR S x 2)
def pkS5 (S : Ms) (x : Nat → Nat) (dom : Bool) : Ms := bkS (pkS4 S x dom) dom (lyR S x 1) (lyR S x 2)
def pkR5 (S : Ms) (x : Nat → Nat) (dom : Bool) : Nat → Int := bkR (pkS4 S x dom) dom (lyR S x 1) (lyR S x 2)
theorem pkS3_n (S : Ms) (x : Nat → Nat) : (pkS3 S x).n = S.n := lyS_n S x 3
theorem pkS4_n (S : Ms) (x : Nat → Nat) (dom : Bool) : (pkS4 S x dom).n = S.n := (bpS_ext _ _ _ _ _).n.trans (pkS3_n S x)
theorem pk_bq {S : Ms} {x : Nat → Nat} {dom : Bool} (h : Bq 0 S) (hn : S.n = 2 ∨ S.n = 3) (hx : ∀ i, x i < 2 ^ 64) : Bq 18 (pkS3 S x) ∧ (∀ i, i < 3 → Wb (lyR S x i)) ∧ (Bq 65 (pkS4 S x dom) ∧ Wb (pkR4 S x dom)) ∧ Bq 505 (pkS5 S x dom) ∧ Wb (pkR5 S x dom) := by
 have h3 : Bq 18 (pkS3 S x) := by have := ly_bq h hn hx 3; exact this
 have hw : ∀ i, i < 3 → Wb (lyR S x i) := fun i hi => lyR_wb h hn hx (by omega)
 have n3 : (pkS3 S x).n = 2 ∨ (pkS3 S x).n = 3 := by rw [pkS3_n]; exact hn
 have n4 : (pkS4 S x dom).n = 2 ∨ (pkS4 S x dom).n = 3 := by rw [pkS4_n]; exact hn
 have h4 := bp_bq (dom := dom) h3 n3 (by decide) (hw 0 (by decide)) (hw 1 (by decide)) (hw 2 (by decide))
 exact ⟨h3, hw, h4, bk_bq (dom := dom) h4.1 n4 (by decide) (hw 1 (by decide)) (hw 2 (by decide))⟩
theorem pk_vl {S : Ms} {x : Nat → Nat} {dom : Bool} (W : Wt S) (h : Bq 0 S) (hx : ∀ i, x i < 2 ^ 64) (he : (pkS5 S x dom).e = 0) :
  vlN (pkS5 S x dom).v (pkS5 S x dom).L (pkR4 S x dom) = (x 1 - (x 1 &&& x 0)) + (x 2 &&& x 0) ∧ (vlN (pkS5 S x dom).v (pkS5 S x dom).L (pkR5 S x dom) % 2 = 1 ↔ x 1 = x 2) := by
 obtain ⟨b3, bw, b4, _⟩ := pk_bq (dom := dom) h W.n hx
 have W3 : Wt (pkS3 S x) := W.ext (by have := lyS_more S x 0 3; exact this)
 have W4 : Wt (pkS4 S x dom) := W3.ext (bpS_ext _ _ _ _ _)
 have X5 : Ext (pkS4 S x dom) (pkS5 S x dom) := bkS_ext _ _ _ _
 have X4 : Ext (pkS3 S x) (pkS4 S x dom) := bpS_ext _ _ _ _ _
 have e4 : (pkS4 S x dom).e = 0 := xo_e (S := pkS4 S x dom) (A := lyR S x 1) (B := lyR S x 2) (bfX_sf_e (dom := dom) (m := lgW 64) (j := lgW 64) (nt_e (S := bfS (xorS (pkS4 S x dom) (lyR S x 1) (lyR S x 2)) dom (xorR (pkS4 S x dom) (lyR S x 1) (lyR S x 2)) 64) (A := bfR (xorS (pkS4 S x dom) (lyR S x 1) (lyR S x 2)) dom (xorR (pkS4 S x dom) (lyR S x 1) (lyR S x 2)) 64) he))
 have e3 : (pkS3 S x).e = 0 := xo_e (S := pkS3 S x) (A := lyR S x 1) (B := lyR S x 2) (ba_e (S := xorS (pkS3 S x) (lyR S x 1) (lyR S x 2)) (dom := dom) (A := lyR S x 0) (B := xorR (pkS3 S x) (lyR S x 1) (lyR S x 2)) (xo_e (S := baS (xorS (pkS3 S x) (lyR S x 1) (lyR S x 2)) dom (lyR S x 0) (xorR (pkS3 S x) (lyR S x 1) (lyR S x 2))) e4))
 have s0 := ly_sf W (x := x) (i := 0) (m := 3) (by decide) e3
 have s1 := ly_sf W (x := x) (i := 1) (m := 3) (by decide) e3
 have s2 := ly_sf W (x := x) (i := 2) (m := 3) (by decide) e3
 obtain ⟨p1, _⟩ := bp_sf (S := pkS3 S x) (dom := dom) W3 s0 s1 s2 e4
 obtain ⟨p2, _⟩ := bk_sf (S := pkS4 S x dom) (dom := dom) W4 b4.1 (by decide) (bw 1 (by decide)) (bw 2 (by decide)) (s1.ext X4) (s2.ext X4) he
 refine ⟨(p1.ext X5).vl.trans (pick_eq (hx 1) (hx 2) (hx 0)), ?_⟩
 rw [show vlN (pkS5 S x dom).v (pkS5 S x dom).L (pkR5 S x dom) = _ from p2.vl]
 exact alike_eq (hx 1) (hx 2)
end Go.Proofs.YthkijncnndoafaaGreatDoor
