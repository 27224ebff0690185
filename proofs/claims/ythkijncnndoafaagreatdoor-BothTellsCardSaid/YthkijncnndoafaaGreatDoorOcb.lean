import Derived.Test.YthkijncnndoafaaGreatDoorProg
import Derived.Test.YthkijncnndoafaaGreatDoorGen
import Derived.Laws.CopyOwn
import Derived.WalkKit
import Derived.ProofKit
import Derived.OpenShut
import Derived.SizedLaws
import Derived.BigQuiet
import Derived.Deep.QuietTactic
import Derived.Deep.RegionLaw
import GoSem.ClaimJoined
import Derived.Deep.Slices
import Derived.Deep.Fields
import Derived.Laws.Rows
import Derived.Laws.Tables
import Derived.Laws.StructEq
import Derived.ChangeKeysEq
import Derived.Deep.WholeRow
import Derived.Deep.RegionHeld3
import Derived.BigRegion
import Derived.StillTailTactics
import Derived.ArgAppend
import Derived.Deep.AppendLies
import Derived.Deep.MidRow
import Derived.Lib.AppendZerosOnto
import Derived.Deep.Matrix
import Derived.Laws.IdiomArrays
import Derived.Deep.RegionHeld
import Derived.ChangeArms
import Derived.Lib.ItoaNum
import Derived.Laws.Bits64
set_option maxRecDepth 100000
namespace Go.Proofs.YthkijncnndoafaaGreatDoor
open Go.RowKit

def byteAt (zs : List Int) (p : Int) : Int := if 0 ≤ p ∧ p < zs.length then nth zs p.toNat else 0
def rlTo (zs : List Int) (a : Int) : Nat → Int
 | 0 => 0
 | k + 1 => IntKind.u64.wrap (IntKind.u64.wrap (rlTo zs a k * 256) + IntKind.u64.wrap (byteAt zs (a + (7 - k))))
def rl (zs : List Int) (a : Int) : Int := if a < -8 ∨ zs.length ≤ a then 0 else rlTo zs a 8

open Go.RowKit

def rrTo (x : Int) : Nat → Int
 | 0 => x
 | k + 1 => IntKind.u64.wrap (IntKind.u64.wrap (rrTo x k * 2) + rrTo x k / 9223372036854775808)

set_option maxHeartbeats 400000 in
theorem mod_any (k : Int) (w : World) :
  Calls Tryz.prog 99 #[.int .i64 k, .int .i64 64] w fun e w' => e = .returned (.int .i64 (k % 64)) ∧ w' = w := by
 have hm : k.tmod 64 = if k % 64 ≠ 0 ∧ k < 0 then k % 64 - 64 else k % 64 := by
  rw [Int.tmod_eq_emod]; split <;> split <;> simp_all <;> omega
 by_cases hc : k % 64 ≠ 0 ∧ k < 0
 ·
  rw [if_pos hc] at hm
  obtain ⟨q, hq⟩ : ∃ q, k.tmod 64 = q := ⟨_, rfl⟩
  have h1 : q < 0 := by omega
  have h2 : -64 ≤ q := by omega
  have HQ := hid (show q + 64 = k % 64 by omega)
  clear hm hc
  go_enter Tryz.func99, Tryz.ntmps99
  go_wp2
  go_ret
  exact ⟨ret_int HQ.out, rfl⟩
 ·
  rw [if_neg hc] at hm
  obtain ⟨q, hq⟩ : ∃ q, k.tmod 64 = q := ⟨_, rfl⟩
  have h1 : 0 ≤ q := by omega
  have HQ := hid (show q = k % 64 by omega)
  clear hm hc
  go_enter Tryz.func99, Tryz.ntmps99
  go_wp2
  go_ret
  exact ⟨ret_int HQ.out, rfl⟩

set_option maxHeartbeats 400000 in
theorem refrot_any (x k : Int) (w : World) (hx : 0 ≤ x ∧ x ≤ 18446744073709551615) :
  Calls Tryz.prog 88 #[.int .u64 x, .int .i64 k] w fun e w' => e = .returned (.int .u64 (rrTo x (k % 64).toNat)) ∧ w' = w := by
 obtain ⟨n, hn, hn2⟩ : ∃ n : Nat, k % 64 = n ∧ n < 64 := ⟨(k % 64).toNat, by omega, by omega⟩
 have HN := hid hn
 clear hn
 have hbd : ∀ k, 0 ≤ rrTo x k ∧ rrTo x k ≤ 18446744073709551615 := by
  intro k
  cases k with
  | zero => exact hx
  | succ k => simp only [rrTo, IntKind.wrap_u64]; omega
 have HB := hid hbd
 clear hbd hx
 go_enter Tryz.func88, Tryz.ntmps88
 go_wp2
 go_loop [0, 5] (fun y i => ∃ j : Nat, j ≤ n ∧ i = .int .i64 j ∧ y = .int .u64 (rrTo x j)) (fun _ i => n - (intOf i).toNat)
 case atStart => exact ⟨0, by omega, rfl, rfl⟩
 case round =>
  obtain ⟨j, hj, rfl, rfl⟩ := hrel
  have hb1 := (HB.out j).1
  have hb2 := (HB.out j).2
  have HS := hid (show rrTo x (j + 1) = _ from rfl)
  obtain ⟨m, hm⟩ : ∃ m, k % 64 = m := ⟨_, rfl⟩
  have HM := hid (show m = n by rw [← hm]; exact HN.out)
  have hmn : (m : Int) ≤ n := by rw [HM.out]; omega
  have hmn' : (n : Int) ≤ m := by rw [HM.out]; omega
  by_cases hlt : j < n
  ·
   go_wp2_with (go_at_call 99; refine (mod_any _ _).mono ?_; rintro e w' ⟨rfl, rfl⟩)
   go_round
   case rel => exact ⟨j + 1, by omega, by go_num, rfl⟩
   case measure => simp [intOf]; omega
  ·
   go_wp2_with (go_at_call 99; refine (mod_any _ _).mono ?_; rintro e w' ⟨rfl, rfl⟩)
   go_ret
   obtain rfl : j = n := by omega
   exact ⟨by rw [HN.out]; simp, rfl⟩

theorem and63 (k : Int) : bits .and .u64 (IntKind.u64.wrap k) 63 = k % 64 := by
 rw [u64_and _ _ (by rw [IntKind.wrap_u64]; omega) (by rw [IntKind.wrap_u64]; omega) (by omega) (by omega), IntKind.wrap_u64]
 have h : (63 : Int).toNat = 2 ^ 6 - 1 := rfl
 rw [h, Nat.and_two_pow_sub_one_eq_mod]
 omega
def rotl (x : Int) (m : Nat) : Int := bits .or .u64 (IntKind.u64.wrap (x * 2 ^ m)) (x / 2 ^ (64 - m))
set_option maxHeartbeats 400000 in
theorem rot64_any (x k : Int) (w : World) (hx : 0 ≤ x ∧ x ≤ 18446744073709551615) :
  Calls Tryz.prog 128 #[.int .u64 x, .int .i64 k] w fun e w' => e = .returned (.int .u64 (rotl x (k % 64).toNat)) ∧ w' = w := by
 obtain ⟨hx1, hx2⟩ := hx
 have hb := and63 k
 obtain ⟨m, hm, hm64⟩ : ∃ m : Nat, k % 64 = m ∧ m < 64 := ⟨(k % 64).toNat, by omega, by omega⟩
 rw [hm] at hb ⊢
 clear hm
 go_enter Tryz.func128, Tryz.ntmps128
 go_wp2
 go_ret
 exact ⟨rfl, rfl⟩
set_option maxHeartbeats 400000 in
theorem orot_any (x k : Int) (w : World) (hx : 0 ≤ x ∧ x ≤ 18446744073709551615) :
  Calls Tryz.prog 124 #[.int .u64 x, .int .i64 k] w fun e w' => e = .returned (.int .u64 (rotl x (k % 64).toNat)) ∧ w' = w := by
 go_enter Tryz.func124, Tryz.ntmps124
 go_wp2_with (go_at_call 128; refine (rot64_any _ _ _ hx).mono ?_; rintro e w' ⟨rfl, rfl⟩)
 go_ret
 exact ⟨rfl, rfl⟩
def rlow : Nat → Int
 | 0 => 0
 | k + 1 => IntKind.u64.wrap (IntKind.u64.wrap (rlow k * 2) + 1)
set_option maxHeartbeats 400000 in
theorem reflow_any (n : Int) (w : World) :
  Calls Tryz.prog 89 #[.int .i64 n] w fun e w' => e = .returned (.int .u64 (rlow (min (max n 0) 64).toNat)) ∧ w' = w := by
 obtain ⟨m, hm, hm64⟩ : ∃ m : Nat, min (max n 0) 64 = m ∧ m ≤ 64 := ⟨(min (max n 0) 64).toNat, by omega, by omega⟩
 have HM := hid hm
 clear hm
 go_enter Tryz.func89, Tryz.ntmps89
 go_wp2
 go_loop [3, 4] (fun y i => ∃ j : Nat, j ≤ m ∧ i = .int .i64 j ∧ y = .int .u64 (rlow j)) (fun _ i => m - (intOf i).toNat)
 case atStart => exact ⟨0, by omega, rfl, rfl⟩
 case round =>
  obtain ⟨j, hj, rfl, rfl⟩ := hrel
  by_cases hlt : j < m
  ·
   have h1 : (j : Int) < n := by have := HM.out; omega
   go_wp2
   go_round
   case rel => exact ⟨j + 1, by omega, by go_num, rfl⟩
   case measure => simp [intOf]; omega
  ·
   have h0 : j = m := by omega
   by_cases h1 : (j : Int) < n
   ·
    have h2 : ¬ (j : Int) < 64 := by have := HM.out; omega
    clear h0
    go_wp2
    go_ret
    obtain rfl : j = m := by omega
    exact ⟨by rw [HM.out]; simp, rfl⟩
   ·
    clear h0
    go_wp2
    go_ret
    obtain rfl : j = m := by omega
    exact ⟨by rw [HM.out]; simp, rfl⟩
open Go.RowKit
open Go.RowKit

open Go.RowKit

open Go.RowKit

open Go.RowKit

open Go.RowKit

theorem wu64 (n : Int) : IntKind.u64.wrap n = n % 18446744073709551616 := IntKind.wrap_u64 n

theorem or_add (x b k : Nat) (hx : x < 2 ^ k) : x ||| b * 2 ^ k = x + b * 2 ^ k := by
 rw [Nat.or_comm, ← Nat.shiftLeft_eq, ← Nat.shiftLeft_add_eq_or_of_lt hx]
 omega
theorem rrTo_step (q t h c : Nat) (ht : t + q ≤ 9223372036854775808) (hh : h < q) (hc : c ≤ 1) :
  IntKind.u64.wrap (IntKind.u64.wrap (((c * 9223372036854775808 + t + h : Nat) : Int) * 2) + ((c * 9223372036854775808 + t + h : Nat) : Int) / 9223372036854775808) = ((t * 2 + h * 2 + c : Nat) : Int) := by
 obtain ⟨u, hu⟩ : ∃ u : Nat, u = t + h := ⟨_, rfl⟩
 have hu2 : u < 9223372036854775808 := by omega
 have e0 : c * 9223372036854775808 + t + h = c * 9223372036854775808 + u := by omega
 have hc' : c = 0 ∨ c = 1 := by omega
 rw [e0]
 have e1 : ((c * 9223372036854775808 + u : Nat) : Int) / 9223372036854775808 = (c : Int) := by omega
 have e2 : IntKind.u64.wrap (((c * 9223372036854775808 + u : Nat) : Int) * 2) = ((2 * u : Nat) : Int) := by
  rw [wu64]; rcases hc' with rfl | rfl <;> omega
 rw [e1, e2, wu64]
 rcases hc' with rfl | rfl <;> omega
theorem rrTo_form (X : Nat) (hX : X < 18446744073709551616) : ∀ m, m < 64 → rrTo (X : Int) m = (((X % 2 ^ (64 - m)) * 2 ^ m + X / 2 ^ (64 - m) : Nat) : Int)
 | 0, _ => by simp [rrTo]; omega
 | m + 1, hm => by
  have ih := rrTo_form X hX m (by omega)
  rw [rrTo, ih]
  obtain ⟨p, hp⟩ : ∃ p, 2 ^ (64 - (m + 1)) = p := ⟨_, rfl⟩
  obtain ⟨q, hq⟩ : ∃ q, 2 ^ m = q := ⟨_, rfl⟩
  have hp2 : 2 ^ (64 - m) = 2 * p := by rw [← hp, show 64 - m = (64 - (m + 1)) + 1 by omega, Nat.pow_succ, Nat.mul_comm]
  have hpq : p * q = 9223372036854775808 := by
   rw [← hp, ← hq, ← Nat.pow_add, show 64 - (m + 1) + m = 63 by omega]
  have hp0 : 0 < p := by rw [← hp]; exact Nat.two_pow_pos _
  have hq0 : 0 < q := by rw [← hq]; exact Nat.two_pow_pos _
  have hX2 : X < 2 * p * q * 1 * 1 := by rw [Nat.mul_one, Nat.mul_one, Nat.mul_assoc, hpq]; omega
  rw [Nat.pow_succ, hp, hp2, hq]
  have hH : X / (2 * p) < q := by
   rw [Nat.div_lt_iff_lt_mul (by omega)]
   calc X < 2 * p * q * 1 * 1 := hX2
    _ = q * (2 * p) := by rw [Nat.mul_one, Nat.mul_one, Nat.mul_comm]
  have hc : X / p % 2 ≤ 1 := by omega
  have e1 : X / p = 2 * (X / (2 * p)) + X / p % 2 := by
   have : X / (2 * p) = X / p / 2 := by rw [Nat.mul_comm, Nat.div_div_eq_div_mul]
   omega
  have e2 : X % (2 * p) = (X / p % 2) * p + X % p := by
   have h1 := Nat.div_add_mod X (2 * p)
   have h2 := Nat.div_add_mod X p
   have h3 : p * (X / p) = 2 * p * (X / (2 * p)) + (X / p % 2) * p := by
    conv => lhs; rw [e1]
    rw [Nat.mul_add]
    congr 1
    · rw [Nat.mul_comm 2 p, Nat.mul_assoc]
    · rw [Nat.mul_comm]
   omega
  have hL : X % p < p := Nat.mod_lt _ hp0
  have e3 : (X % (2 * p)) * q = (X / p % 2) * 9223372036854775808 + X % p * q := by
   rw [e2, Nat.add_mul, Nat.mul_assoc, hpq]
  have hLt : X % p * q + q ≤ 9223372036854775808 := by
   rw [← hpq, ← Nat.succ_mul]
   exact Nat.mul_le_mul_right _ hL
  rw [e3]
  have := rrTo_step q (X % p * q) (X / (2 * p)) (X / p % 2) hLt hH hc
  rw [this]
  have e4 : X % p * (q * 2) = X % p * q * 2 := by rw [Nat.mul_assoc]
  rw [e4]
  congr 1
  omega
theorem rot_math (x : Int) (hx : 0 ≤ x ∧ x ≤ 18446744073709551615) (m : Nat) (hm : m < 64) : rotl x m = rrTo x m := by
 obtain ⟨X, rfl⟩ := Int.eq_ofNat_of_zero_le hx.1
 have hX : X < 18446744073709551616 := by omega
 show rotl (X : Int) m = rrTo (X : Int) m
 rw [rrTo_form X hX m hm]
 unfold rotl
 have d : ((X : Int) / 2 ^ (64 - m)) = ((X / 2 ^ (64 - m) : Nat) : Int) := by simp
 have hsplit : 2 ^ (64 - m) * 2 ^ m = 18446744073709551616 := by rw [← Nat.pow_add, show 64 - m + m = 64 by omega]
 have hA : X * 2 ^ m % 18446744073709551616 = X % 2 ^ (64 - m) * 2 ^ m := by
  rw [← hsplit, Nat.mul_mod_mul_right]
 have e : IntKind.u64.wrap ((X : Int) * 2 ^ m) = ((X % 2 ^ (64 - m) * 2 ^ m : Nat) : Int) := by
  rw [wu64, ← hA]; simp
 have hB : X / 2 ^ (64 - m) < 2 ^ m := by
  rw [Nat.div_lt_iff_lt_mul (Nat.two_pow_pos _), Nat.mul_comm, hsplit]; exact hX
 have hM : X % 2 ^ (64 - m) * 2 ^ m < 18446744073709551616 := by rw [← hA]; exact Nat.mod_lt _ (by decide)
 rw [e, d, bits_or_u64_nat _ _ hM (by have := Nat.div_le_self X (2 ^ (64 - m)); omega), Nat.or_comm, or_add _ _ _ hB, Nat.add_comm]

theorem xor_eq_zero (a b : Nat) : a ^^^ b = 0 ↔ a = b := by
 constructor
 ·
  intro h
  have : a ^^^ b ^^^ b = b := by rw [h]; simp
  rwa [Nat.xor_assoc, Nat.xor_self, Nat.xor_zero] at this
 · rintro rfl; simp
theorem xor_zero {a b : Int} (ha : 0 ≤ a ∧ a ≤ 255) (hb : 0 ≤ b ∧ b ≤ 255) : bits .xor .u8 a b = 0 ↔ a = b := by
 rw [u8_xor _ _ ha.1 (by omega) hb.1 (by omega)]
 have : ((a.toNat ^^^ b.toNat : Nat) : Int) = 0 ↔ a.toNat ^^^ b.toNat = 0 := by omega
 rw [this, xor_eq_zero]
 omega
open Go.RowKit

open Go.ChangeShapes Go.WideShapes Go.ChangeAt Go.RowKit

open Go.RowKit
set_option maxRecDepth 100000
open Go.RowKit
set_option maxRecDepth 100000

theorem rgN_no {K n : Int} (h2 : ¬ n = 2) (h3 : ¬ n = 3) : rgN K n = 0 := by unfold rgN; rw [if_pos ⟨h2, h3⟩]
theorem rgN_zero {K n : Int} (h : K < 1 ∨ 12 < K) : rgN K n = 0 := by
 unfold rgN
 split
 · rfl
 · rw [if_neg (by omega), if_neg (by omega), if_neg (by omega), if_neg (by omega)]
set_option maxHeartbeats 3200000 in
theorem refregs_any (K n : Int) (w : World) : Calls Tryz.prog 87 #[.int .i64 K, .int .i64 n] w fun e w' => e = .returned (.int .i64 (rgN K n)) ∧ w' = w := by
 by_cases h2 : n = 2
 ·
  subst h2
  rcases kindsL K with rfl | rfl | rfl | rfl | rfl | rfl | rfl | rfl | rfl | rfl | rfl | rfl | h
  rotate_right
  ·
   rw [rgN_zero h]
   have q2 : ¬ K = 2 := by omega
   have q5 : ¬ K = 5 := by omega
   have q6 : ¬ K = 6 := by omega
   have q7 : ¬ K = 7 := by omega
   have q8 : ¬ K = 8 := by omega
   have q9 : ¬ K = 9 := by omega
   have q10 : ¬ K = 10 := by omega
   have q11 : ¬ K = 11 := by omega
   have q12 : ¬ K = 12 := by omega
   go_enter Tryz.func87, Tryz.ntmps87
   go_wp2
   go_ret
   exact ⟨rfl, rfl⟩
  all_goals
   simp only [rgN, reduceIte, Int.reduceEq]
   go_enter Tryz.func87, Tryz.ntmps87
   go_wp2
   go_ret
   exact ⟨rfl, rfl⟩
 ·
  by_cases h3 : n = 3
  ·
   subst h3
   rcases kindsL K with rfl | rfl | rfl | rfl | rfl | rfl | rfl | rfl | rfl | rfl | rfl | rfl | h
   rotate_right
   ·
    rw [rgN_zero h]
    have q2 : ¬ K = 2 := by omega
    have q5 : ¬ K = 5 := by omega
    have q6 : ¬ K = 6 := by omega
    have q7 : ¬ K = 7 := by omega
    have q8 : ¬ K = 8 := by omega
    have q9 : ¬ K = 9 := by omega
    have q10 : ¬ K = 10 := by omega
    have q11 : ¬ K = 11 := by omega
    have q12 : ¬ K = 12 := by omega
    go_enter Tryz.func87, Tryz.ntmps87
    go_wp2
    go_ret
    exact ⟨rfl, rfl⟩
   all_goals
    simp only [rgN, reduceIte, Int.reduceEq]
    go_enter Tryz.func87, Tryz.ntmps87
    go_wp2
    go_ret
    exact ⟨rfl, rfl⟩
  ·
   rw [rgN_no h2 h3]
   have g2 : (n != 2) = true := by simpa using h2
   have g3 : (n != 3) = true := by simpa using h3
   clear h2 h3
   go_enter Tryz.func87, Tryz.ntmps87
   go_wp2
   go_ret
   exact ⟨rfl, rfl⟩
theorem oc_box {w w' : World} (o : Op6) (h : Below (w.alloc (.cells #[.int .i64 o.K, .int .i64 o.D, .int .i64 o.A, .int .i64 o.B, .int .i64 o.E, .int .u64 (o.C : Int)] 75)).heap.size (w.alloc (.cells #[.int .i64 o.K, .int .i64 o.D, .int .i64 o.A, .int .i64 o.B, .int .i64 o.E, .int .u64 (o.C : Int)] 75)) w') : Oc w' w.heap.size 0 o := by
 have e : w'.heap[w.heap.size]? = some (.cells #[.int .i64 o.K, .int .i64 o.D, .int .i64 o.A, .int .i64 o.B, .int .i64 o.E, .int .u64 (o.C : Int)] 75 (0, 0)) := by rw [h.block _ (by simp)]; exact heap_alloc_new w _
 exact ⟨by rw [cell_of_row w' _ 0 _ _ _ e]; rfl, by rw [cell_of_row w' _ (0 + 1) _ _ _ e]; rfl, by rw [cell_of_row w' _ (0 + 2) _ _ _ e]; rfl, by rw [cell_of_row w' _ (0 + 3) _ _ _ e]; rfl, by rw [cell_of_row w' _ (0 + 4) _ _ _ e]; rfl, by rw [cell_of_row w' _ (0 + 5) _ _ _ e]; rfl⟩
theorem rgL_cell {w : World} {n : Nat} {o : Op6} {T : TypeId} (h : w.heap[n]? = some (.cells #[.int .i64 o.A, .int .i64 o.B, .int .i64 o.E] T (0, 0))) (j : Nat) (hj : j < 3) : w.cell? ⟨n, j, none⟩ = some (.int .i64 (rgL o j)) := by
 rw [cell_of_row w _ j _ _ _ h]
 rcases (by omega : j = 0 ∨ j = 1 ∨ j = 2) with rfl | rfl | rfl <;> rfl
theorem okH_no {o : Op6} {n : Int} (h : ¬ ((n = 2 ∨ n = 3) ∧ 1 ≤ o.K ∧ o.K ≤ 12 ∧ -1 ≤ o.D ∧ o.D < n ∧ (o.K = 12 → o.D = -1))) (at_ : Int) : okOp o at_ n = false := by
 unfold okOp okH; rw [decide_eq_false h]; rfl
theorem okH_yes {o : Op6} {n : Int} (h : (n = 2 ∨ n = 3) ∧ 1 ≤ o.K ∧ o.K ≤ 12 ∧ -1 ≤ o.D ∧ o.D < n ∧ (o.K = 12 → o.D = -1)) (at_ : Int) : okOp o at_ n = (allB (rgB o at_ n) 3 && okC o.K o.C) := by
 unfold okOp okH; rw [decide_eq_true h]; rfl
set_option maxHeartbeats 3200000 in
theorem refopright_head (o : Op6) (at_ n : Int) (w : World) (h : ¬ ((n = 2 ∨ n = 3) ∧ 1 ≤ o.K ∧ o.K ≤ 12 ∧ -1 ≤ o.D ∧ o.D < n ∧ (o.K = 12 → o.D = -1))) :
  Calls Tryz.prog 67 #[.agg #[.int .i64 o.K, .int .i64 o.D, .int .i64 o.A, .int .i64 o.B, .int .i64 o.E, .int .u64 (o.C : Int)], .int .i64 at_, .int .i64 n] w fun e w' => e = .returned (.bool false) ∧ Below w.heap.size w w' := by
 have HB : Hid (Below w.heap.size w (w.alloc (.cells #[.int .i64 o.K, .int .i64 o.D, .int .i64 o.A, .int .i64 o.B, .int .i64 o.E, .int .u64 (o.C : Int)] 75))) := hid ((Below.refl _ _).alloc (Nat.le_refl _) _)
 obtain ⟨K, D, A, B, E, C⟩ := o
 simp only at *
 by_cases h1 : n = 2 ∨ n = 3
 ·
  have g0 : ((n != 2) && (n != 3)) = false := by rcases h1 with rfl | rfl <;> rfl
  have g1 : (n != 2) = false ∨ (n != 3) = false := by rcases h1 with rfl | rfl <;> simp
  by_cases h2 : K < 1
  ·
   rcases h1 with rfl | rfl
   all_goals
    clear h g0 g1
    go_enter Tryz.func67, Tryz.ntmps67
    go_wp2
    go_ret
    exact ⟨rfl, HB.out⟩
  ·
   by_cases h3 : 12 < K
   ·
    rcases h1 with rfl | rfl
    all_goals
     clear h g0 g1
     go_enter Tryz.func67, Tryz.ntmps67
     go_wp2
     go_ret
     exact ⟨rfl, HB.out⟩
   ·
    by_cases h4 : D < -1
    ·
     rcases h1 with rfl | rfl
     all_goals
      clear h g0 g1
      go_enter Tryz.func67, Tryz.ntmps67
      go_wp2
      go_ret
      exact ⟨rfl, HB.out⟩
    ·
     by_cases h5 : n ≤ D
     ·
      rcases h1 with rfl | rfl
      all_goals
       clear h g0 g1
       go_enter Tryz.func67, Tryz.ntmps67
       go_wp2
       go_ret
       exact ⟨rfl, HB.out⟩
     ·
      obtain ⟨rfl, h6⟩ : K = 12 ∧ ¬ D = -1 := by
       refine ⟨?_, fun e => h ⟨h1, by omega, by omega, by omega, by omega, fun _ => e⟩⟩
       refine Classical.byContradiction fun e => h ⟨h1, by omega, by omega, by omega, by omega, fun e' => absurd e' e⟩
      have g6 : (D != -1) = true := by simpa using h6
      rcases h1 with rfl | rfl
      all_goals
       clear h g0 g1 h6 h2 h3
       go_enter Tryz.func67, Tryz.ntmps67
       go_wp2
       go_ret
       exact ⟨rfl, HB.out⟩
 ·
  have g2 : (n != 2) = true := by simp; omega
  have g3 : (n != 3) = true := by simp; omega
  clear h h1
  go_enter Tryz.func67, Tryz.ntmps67
  go_wp2
  go_ret
  exact ⟨rfl, HB.out⟩
open Go.RowKit
set_option maxRecDepth 100000
abbrev opCs (o : Op6) : Array Value := #[.int .i64 o.K, .int .i64 o.D, .int .i64 o.A, .int .i64 o.B, .int .i64 o.E, .int .u64 (o.C : Int)]
abbrev spCs (s : Sp3) : Array Value := #[.int .i64 s.K, .int .i64 s.F, .int .i64 s.T]
def wdL (v : Nat → Nat) (L : Nat) : List Int := (List.range L).map (fun i => (v i : Int))
theorem wdL_len (v : Nat → Nat) (L : Nat) : (wdL v L).length = L := by simp [wdL]
theorem wdL_nth (v : Nat → Nat) {L i : Nat} (h : i < L) : nth (wdL v L) i = (v i : Int) := by simp [wdL, nth, List.getD, h]
def dmC (S : Ms) (ov bv vv tv : Value) : Array Value :=
 #[.int .i64 S.n, .int .i64 S.most, .int .i64 (S.words : Int), .int .i64 (S.draws : Int), .int .i64 (S.fr : Int), .int .i64 (S.skip : Int), .int .i64 S.kind, .int .i64 (S.e : Int), ov, bv, vv, tv, .int .i64 (S.used : Int), .int .i64 (S.free : Int), .bool S.dry]
structure Bd (S : Ms) : Prop where
 L : S.L ≤ 100000
 skip : S.skip ≤ 100000
 M : S.M ≤ 100000
 words : S.words ≤ 1000000
 draws : S.draws ≤ 1000000
 used : S.used ≤ 20000000000000
 free : S.free ≤ 20000000000000
 TN : S.TN ≤ 20000000000000
 v : ∀ i, i < S.L → S.v i < 2 ^ 64
 tw : ∀ i, i < S.TN → S.tw i < 2 ^ 64
structure LoG where
 lo : Nat
 G : Nat → Prop
structure Dm2 (lo : LoG) (w : World) (b : Nat) (S : Ms) (LV : Nat) (ov bv vv tv : Value) : Prop where
 blk : w.heap[b]? = some (.cells (dmC S ov bv vv tv) 53 (0, 0))
 lob : lo.lo ≤ b
 ops : Orw w lo.lo 75 6 ov S.L (fun i => (opCs (S.f i)).toList)
 bls : Orw w lo.lo 89 3 bv S.M (fun i => (spCs (S.g i)).toList)
 val : Orw w lo.lo 34 1 vv LV (fun i => [.int .u64 (S.v i : Int)])
 hob : ov.ownBlock ≠ some b
 hbb : bv.ownBlock ≠ some b
 hvb : vv.ownBlock ≠ some b
 hobv : ∀ k, ov.ownBlock = some k → bv.ownBlock ≠ some k
 hov : ∀ k, ov.ownBlock = some k → vv.ownBlock ≠ some k
 hbv : ∀ k, bv.ownBlock = some k → vv.ownBlock ≠ some k
 tap : RdS .u64 w (fun g => g ≠ b ∧ ov.ownBlock ≠ some g ∧ bv.ownBlock ≠ some g ∧ vv.ownBlock ≠ some g ∧ lo.G g) tv (wdL (fun i => S.tw (S.used + i)) (S.TN - S.used))
abbrev Dm (lo : LoG) (w : World) (b : Nat) (S : Ms) (ov bv vv tv : Value) : Prop := Dm2 lo w b S S.L ov bv vv tv
def Ft (b : Nat) (ov bv vv : Value) (k : Nat) : Prop := k = b ∨ ov.ownBlock = some k ∨ bv.ownBlock = some k ∨ vv.ownBlock = some k
section
variable {lo : LoG} {b : Nat} {w w' : World} {S : Ms} {ov bv vv tv : Value}
theorem Dm.lt (h : Dm lo w b S ov bv vv tv) : b < w.heap.size := (Array.getElem?_eq_some_iff.1 h.blk).1
theorem rds_self {k : IntKind} {F : Nat → Prop} {v : Value} {zs : List Int} (h : RdS k w F v zs) (hb : Below w.heap.size w w') : RdS k w' F v zs := by
 obtain ⟨a, cap, e, h1, h2, h3, h4, h5⟩ := h
 refine ⟨a, cap, e, h1, h2, h3, h4, fun h0 => ?_⟩
 obtain ⟨g, off, ea, hF, hg, hc⟩ := h5 h0
 exact ⟨g, off, ea, hF, Nat.lt_of_lt_of_le hg hb.size, fun j hj => by rw [World.cell?_of_block (hb.block g hg)]; exact hc j hj⟩
theorem Dm.self (h : Dm lo w b S ov bv vv tv) (hb : Below w.heap.size w w') : Dm lo w' b S ov bv vv tv :=
 ⟨(hb.block b h.lt).trans h.blk, h.lob, h.ops.stays fun k hk => hb.block k (h.ops.lt k hk).2, h.bls.stays fun k hk => hb.block k (h.bls.lt k hk).2,
  h.val.stays fun k hk => hb.block k (h.val.lt k hk).2, h.hob, h.hbb, h.hvb, h.hobv, h.hov, h.hbv, rds_self h.tap hb⟩
theorem Dm.drew (h : Dm lo w b S ov bv vv tv) : Dm lo w.drew b S ov bv vv tv := h.self ((Below.refl _ w).drew)
theorem Dm.c (h : Dm lo w b S ov bv vv tv) (i : Nat) {u : Value} (hu : (dmC S ov bv vv tv)[i]? = some u) : w.cell? ⟨b, i, none⟩ = some u := by
 rw [cell_of_row w b i _ _ _ h.blk]; exact hu
theorem Dm.c_n (h : Dm lo w b S ov bv vv tv) : w.cell? ⟨b, 0, none⟩ = some (Value.int .i64 S.n) := h.c 0 rfl
theorem Dm.c_most (h : Dm lo w b S ov bv vv tv) : w.cell? ⟨b, 1, none⟩ = some (Value.int .i64 S.most) := h.c 1 rfl
theorem Dm.c_words (h : Dm lo w b S ov bv vv tv) : w.cell? ⟨b, 2, none⟩ = some (Value.int .i64 (S.words : Int)) := h.c 2 rfl
theorem Dm.c_draws (h : Dm lo w b S ov bv vv tv) : w.cell? ⟨b, 3, none⟩ = some (Value.int .i64 (S.draws : Int)) := h.c 3 rfl
theorem Dm.c_fr (h : Dm lo w b S ov bv vv tv) : w.cell? ⟨b, 4, none⟩ = some (Value.int .i64 (S.fr : Int)) := h.c 4 rfl
theorem Dm.c_skip (h : Dm lo w b S ov bv vv tv) : w.cell? ⟨b, 5, none⟩ = some (Value.int .i64 (S.skip : Int)) := h.c 5 rfl
theorem Dm.c_kind (h : Dm lo w b S ov bv vv tv) : w.cell? ⟨b, 6, none⟩ = some (Value.int .i64 S.kind) := h.c 6 rfl
theorem Dm.c_e (h : Dm lo w b S ov bv vv tv) : w.cell? ⟨b, 7, none⟩ = some (Value.int .i64 (S.e : Int)) := h.c 7 rfl
theorem Dm.c_ov (h : Dm lo w b S ov bv vv tv) : w.cell? ⟨b, 8, none⟩ = some (ov) := h.c 8 rfl
theorem Dm.c_bv (h : Dm lo w b S ov bv vv tv) : w.cell? ⟨b, 9, none⟩ = some (bv) := h.c 9 rfl
theorem Dm.c_vv (h : Dm lo w b S ov bv vv tv) : w.cell? ⟨b, 10, none⟩ = some (vv) := h.c 10 rfl
theorem Dm.c_tv (h : Dm lo w b S ov bv vv tv) : w.cell? ⟨b, 11, none⟩ = some (tv) := h.c 11 rfl
theorem Dm.c_used (h : Dm lo w b S ov bv vv tv) : w.cell? ⟨b, 12, none⟩ = some (Value.int .i64 (S.used : Int)) := h.c 12 rfl
theorem Dm.c_free (h : Dm lo w b S ov bv vv tv) : w.cell? ⟨b, 13, none⟩ = some (Value.int .i64 (S.free : Int)) := h.c 13 rfl
theorem Dm.c_dry (h : Dm lo w b S ov bv vv tv) : w.cell? ⟨b, 14, none⟩ = some (Value.bool S.dry) := h.c 14 rfl
theorem Dm.fz (h : Dm lo w b S ov bv vv tv) (i : Nat) : w.frozen? ⟨b, i, none⟩ = false := frozen_of_row w b i _ _ h.blk
theorem Dm.opsv (h : Dm lo w b S ov bv vv tv) : ∃ a cap, ov = .slice a S.L cap := by
 obtain ⟨a, cap, e, _⟩ := h.ops.slice
 exact ⟨a, cap, e⟩
theorem Dm.vals (h : Dm lo w b S ov bv vv tv) : ∃ a cap, vv = .slice a S.L cap ∧ (0 < S.L → ∃ g, a = some ⟨g, 0, none⟩ ∧ ∀ i, i < S.L → w.cell? ⟨g, i, none⟩ = some (.int .u64 (S.v i : Int))) := by
 obtain ⟨a, cap, rfl, _, _, _, hp⟩ := h.val.slice
 refine ⟨a, cap, rfl, fun h0 => ?_⟩
 obtain ⟨g, rfl⟩ := hp h0
 refine ⟨g, rfl, fun i hi => ?_⟩
 have := Orw.cell h.val (fun _ => rfl) hi (by decide : 0 < 1) (u := .int .u64 (S.v i : Int)) rfl
 simpa using this
end
theorem dlen_any (lo : LoG) (b : Nat) (S : Ms) (ov bv vv tv : Value) (w : World) (h : Dm lo w b S ov bv vv tv) (hb : Bd S) :
  Calls Tryz.prog 68 #[.pointer (some ⟨b, 0, none⟩)] w fun e w' => e = .returned (.int .i64 (S.len : Nat)) ∧ Below w.heap.size w w' := by
 obtain ⟨a, cap, rfl⟩ := h.opsv
 have c5 := h.drew.c_skip
 have c8 := h.drew.c_ov
 have l1 := hb.L
 have l2 := hb.skip
 have hw : IntKind.i64.wrap ((S.skip : Int) + (S.L : Int)) = ((S.len : Nat) : Int) := by unfold Ms.len; rw [IntKind.wrap_i64]; omega
 clear h hb l1 l2
 generalize S.len = n at *
 go_enter Tryz.func68, Tryz.ntmps68
 go_wp2_with fail
 go_region
 go_wp2
 go_ret
 exact ⟨rfl, (Below.refl _ _).drew⟩
theorem dat_any (lo : LoG) (b : Nat) (S : Ms) (ov bv vv tv : Value) (r : Int) (w : World) (h : Dm lo w b S ov bv vv tv) (l1 : S.L ≤ 100000) :
  Calls Tryz.prog 72 #[.pointer (some ⟨b, 0, none⟩), .int .i64 r] w fun e w' => e = .returned (.int .u64 (wordAt S.v S.L r : Nat)) ∧ w' = w := by
 obtain ⟨a, cap, rfl, hc⟩ := h.vals
 have c10 := h.c_vv
 clear h
 by_cases h0 : r < 0
 ·
  have e : wordAt S.v S.L r = 0 := if_neg (by omega)
  rw [e]
  have q1 : decide (r < 0) = true := decide_eq_true h0
  clear hc h0
  go_enter Tryz.func72, Tryz.ntmps72
  go_wp2
  go_ret
  exact ⟨rfl, rfl⟩
 ·
  have q1 : decide (r < 0) = false := decide_eq_false h0
  by_cases h1 : r < (S.L : Int)
  ·
   obtain ⟨k, rfl⟩ := Int.eq_ofNat_of_zero_le (by omega : 0 ≤ r)
   have e : wordAt S.v S.L (k : Int) = S.v k := by unfold wordAt; rw [if_pos ⟨by omega, h1⟩]; simp
   rw [e]
   obtain ⟨g, rfl, hcc⟩ := hc (by omega)
   have hk := hcc k (by omega)
   have j1 : (0 : Int) ≤ (k : Int) := by omega
   have q2 : decide ((S.L : Int) ≤ (k : Int)) = false := decide_eq_false (by omega)
   clear hc hcc e
   generalize S.v k = z at *
   go_enter Tryz.func72, Tryz.ntmps72
   go_wp2
   go_ret
   exact ⟨rfl, rfl⟩
  ·
   have e : wordAt S.v S.L r = 0 := if_neg (by omega)
   rw [e]
   have q2 : decide ((S.L : Int) ≤ r) = true := decide_eq_true (by omega)
   clear hc
   go_enter Tryz.func72, Tryz.ntmps72
   go_wp2
   go_ret
   exact ⟨rfl, rfl⟩
open Go.RowKit
set_option maxRecDepth 100000
section
variable {lo : LoG} {b : Nat} {w w' : World} {S S' : Ms} {ov bv vv tv : Value}
theorem rds_stays {k : IntKind} {F : Nat → Prop} {v : Value} {zs : List Int} (h : RdS k w F v zs) (hs : w.heap.size ≤ w'.heap.size) (hF : ∀ g, F g → g < w.heap.size → w'.heap[g]? = w.heap[g]?) : RdS k w' F v zs := by
 obtain ⟨a, cap, e, h1, h2, h3, h4, h5⟩ := h
 refine ⟨a, cap, e, h1, h2, h3, h4, fun h0 => ?_⟩
 obtain ⟨g, off, ea, hf, hg, hc⟩ := h5 h0
 exact ⟨g, off, ea, hf, Nat.lt_of_lt_of_le hg hs, fun j hj => by rw [World.cell?_of_block (hF g hf hg)]; exact hc j hj⟩
theorem Dm.turn (h : Dm lo w b S ov bv vv tv) (hblk : w'.heap[b]? = some (.cells (dmC S' ov bv vv tv) 53 (0, 0))) (hs : w.heap.size ≤ w'.heap.size) (ho : ∀ k, k ≠ b → k < w.heap.size → w'.heap[k]? = w.heap[k]?)
  (hL : S'.L = S.L) (hf : S'.f = S.f) (hM : S'.M = S.M) (hg : S'.g = S.g) (hv : S'.v = S.v) (htw : S'.tw = S.tw) (hu : S'.used = S.used) (hTN : S'.TN = S.TN) : Dm lo w' b S' ov bv vv tv := by
 refine ⟨hblk, h.lob, ?_, ?_, ?_, h.hob, h.hbb, h.hvb, h.hobv, h.hov, h.hbv, ?_⟩
 · rw [hL, hf]; exact h.ops.stays fun k hk => ho k (fun e => h.hob (e ▸ hk)) (h.ops.lt k hk).2
 · rw [hM, hg]; exact h.bls.stays fun k hk => ho k (fun e => h.hbb (e ▸ hk)) (h.bls.lt k hk).2
 · rw [hL, hv]; exact h.val.stays fun k hk => ho k (fun e => h.hvb (e ▸ hk)) (h.val.lt k hk).2
 · rw [htw, hu, hTN]; exact rds_stays h.tap hs fun g hg hlt => ho g hg.1 hlt
theorem Dm.cellSet (h : Dm lo w b S ov bv vv tv) (i : Nat) (u : Value) (e : (dmC S ov bv vv tv).setIfInBounds i u = dmC S' ov bv vv tv)
  (hL : S'.L = S.L) (hf : S'.f = S.f) (hM : S'.M = S.M) (hg : S'.g = S.g) (hv : S'.v = S.v) (htw : S'.tw = S.tw) (hu : S'.used = S.used) (hTN : S'.TN = S.TN) : Dm lo (w.setCell ⟨b, i, none⟩ u) b S' ov bv vv tv :=
 h.turn (by rw [heap_setCell_same w b i _ 53 u h.blk, e]) (by simp [World.setCell]) (fun k hk _ => heap_setCell_other w ⟨b, i, none⟩ k u hk) hL hf hM hg hv htw hu hTN
theorem tch_set (b i : Nat) (u : Value) (w : World) : Tch (Ft b ov bv vv) w (w.setCell ⟨b, i, none⟩ u) := Tch.set w u (.inl rfl)
end
def DmR (lo : LoG) (b : Nat) (ov bv vv : Value) (S' : Ms) (w w' : World) : Prop := ∃ ov' bv' vv' tv', Dm lo w' b S' ov' bv' vv' tv' ∧ Tch (Ft b ov bv vv) w w' ∧ (∀ k, Ft b ov' bv' vv' k → Ft b ov bv vv k ∨ w.heap.size ≤ k)
theorem dfails_any (lo : LoG) (b : Nat) (S : Ms) (ov bv vv tv : Value) (x : Nat) (w : World) (h : Dm lo w b S ov bv vv tv) (he : S.e = 0) :
  Calls Tryz.prog 69 #[.pointer (some ⟨b, 0, none⟩), .int .i64 (x : Int)] w fun e w' => e = .returned (.int .i64 (-1)) ∧ Dm lo w' b { S with e := x } ov bv vv tv ∧ Tch (Ft b ov bv vv) w w' := by
 have c7 := h.c_e
 have f7 := h.fz 7
 rw [he] at c7
 have HN := hid (h.cellSet (S' := { S with e := x }) 7 (.int .i64 (x : Int)) rfl rfl rfl rfl rfl rfl rfl rfl rfl)
 have HT := hid (tch_set (ov := ov) (bv := bv) (vv := vv) b 7 (.int .i64 (x : Int)) w)
 clear h he
 go_enter Tryz.func69, Tryz.ntmps69
 go_wp2
 go_ret
 exact ⟨rfl, HN.out, HT.out⟩
theorem dop_any (K D A B : Int) (C : Nat) (w : World) : Calls Tryz.prog 45 #[.int .i64 K, .int .i64 D, .int .i64 A, .int .i64 B, .int .u64 (C : Int)] w fun e w' => e = .returned (.agg #[.int .i64 K, .int .i64 D, .int .i64 A, .int .i64 B, .int .i64 (-1), .int .u64 (C : Int)]) ∧ Below w.heap.size w w' := by
 go_enter Tryz.func45, Tryz.ntmps45
 go_wp2
 exact bodyPost_ret (results_cell_row (by rfl) _ _ w.heap.size 75 #[.int .i64 K, .int .i64 D, .int .i64 A, .int .i64 B, .int .i64 (-1), .int .u64 (C : Int)] (0, 0) _ rfl (heap_alloc_new _ _) Tryz.underlying75 rfl (by kernel_rfl)) rfl ⟨rfl, (Below.refl _ _).alloc (Nat.le_refl _) _⟩
theorem dbegin_any (lo : LoG) (b : Nat) (S : Ms) (ov bv vv tv : Value) (k : Int) (w : World) (h : Dm lo w b S ov bv vv tv) (hb : Bd S) :
  Calls Tryz.prog 77 #[.pointer (some ⟨b, 0, none⟩), .int .i64 k] w fun e w' => e = .returned (.tuple #[]) ∧ Dm lo w' b (S.beginS k) ov bv vv tv ∧ Tch (Ft b ov bv vv) w w' := by
 have c7 := h.c_e
 have c6 := h.c_kind
 have f6 := h.fz 6
 have f7 := h.fz 7
 have HD := hid h
 by_cases he : S.e = 0
 ·
  rw [he] at c7
  by_cases hk : S.kind ≠ 0 ∨ k < 1 ∨ 3 < k
  ·
   have e : S.beginS k = { S with e := 1 } := by unfold Ms.beginS; rw [if_neg (by omega), if_pos hk]
   rw [e]
   have HN := hid (h.cellSet (S' := { S with e := 1 }) 7 (.int .i64 1) rfl rfl rfl rfl rfl rfl rfl rfl rfl)
   have HT := hid (tch_set (ov := ov) (bv := bv) (vv := vv) b 7 (.int .i64 1) w)
   clear h e
   by_cases h1 : S.kind = 0
   ·
    have q1 : (S.kind != 0) = false := by simp [h1]
    by_cases h2 : k < 1
    ·
     have q2 : decide (k < 1) = true := decide_eq_true h2
     clear h2 h1 hk
     go_enter Tryz.func77, Tryz.ntmps77
     go_wp2
     exact bodyPost_ret (results_none rfl _ _ _) rfl ⟨rfl, HN.out, HT.out⟩
    ·
     have q2 : decide (k < 1) = false := decide_eq_false h2
     have q3 : decide (3 < k) = true := decide_eq_true (by omega)
     clear h2 h1 hk
     go_enter Tryz.func77, Tryz.ntmps77
     go_wp2
     exact bodyPost_ret (results_none rfl _ _ _) rfl ⟨rfl, HN.out, HT.out⟩
   ·
    have q1 : (S.kind != 0) = true := by simp [h1]
    clear h1 hk
    go_enter Tryz.func77, Tryz.ntmps77
    go_wp2
    exact bodyPost_ret (results_none rfl _ _ _) rfl ⟨rfl, HN.out, HT.out⟩
  ·
   have e : S.beginS k = { S with kind := k, fr := S.len } := by unfold Ms.beginS; rw [if_neg (by omega), if_neg hk]
   rw [e]
   have q1 : (S.kind != 0) = false := by simp; omega
   have q2 : decide (k < 1) = false := decide_eq_false (by omega)
   have q3 : decide (3 < k) = false := decide_eq_false (by omega)
   have H1 := hid (h.cellSet (S' := { S with kind := k }) 6 (.int .i64 k) rfl rfl rfl rfl rfl rfl rfl rfl rfl)
   have HT1 := hid (tch_set (ov := ov) (bv := bv) (vv := vv) b 6 (.int .i64 k) w)
   have HL := hid (fun w1 (h1 : Dm lo w1 b { S with kind := k } ov bv vv tv) => dlen_any lo b { S with kind := k } ov bv vv tv w1 h1 ⟨hb.L, hb.skip, hb.M, hb.words, hb.draws, hb.used, hb.free, hb.TN, hb.v, hb.tw⟩)
   have hlen : ({ S with kind := k } : Ms).len = S.len := rfl
   rw [hlen] at HL
   clear h e hk
   go_enter Tryz.func77, Tryz.ntmps77
   go_wp2_with (go_at_call 68; (with_reducible refine (HL.out _ H1.out).mono ?_); rintro e w2 ⟨rfl, hb2⟩; have X2 := hid (H1.out.self hb2); have HB2 := hid hb2; have f4 := X2.out.fz 4; have c4 := X2.out.c_fr; clear hb2)
   exact bodyPost_end (results_none rfl _ _ _) rfl ⟨rfl, X2.out.cellSet (S' := { S with kind := k, fr := S.len }) 4 (.int .i64 (S.len : Int)) rfl rfl rfl rfl rfl rfl rfl rfl rfl, (HT1.out.trans (Tch.of_below (F := Ft b ov bv vv) HB2.out) (fun _ _ h => h)).trans (tch_set b 4 _ w2) (fun _ _ h => h)⟩
 ·
  have e : S.beginS k = S := by unfold Ms.beginS; rw [if_pos he]
  rw [e]
  have q1 : ((S.e : Int) != 0) = true := by simp; omega
  clear h e he
  go_enter Tryz.func77, Tryz.ntmps77
  go_wp2
  exact bodyPost_ret (results_none rfl _ _ _) rfl ⟨rfl, HD.out, Tch.refl _ _⟩
open Go.RowKit
set_option maxRecDepth 100000
section
variable {lo : LoG} {b : Nat} {w w' : World} {S : Ms} {ov bv vv tv : Value}
theorem grown_at {r : Option Nat} (h : w.grownBy w' r) (b i : Nat) (u : Value) {k : Nat} (hk : k < w.heap.size) (hr : some k ≠ r) (hb : k ≠ b) : (w'.setCell ⟨b, i, none⟩ u).heap[k]? = w.heap[k]? := by
 rw [heap_setCell_other w' ⟨b, i, none⟩ k u hb]; exact h.block k hk hr
theorem row_in {B k n b : Nat} {E : TypeId} {v : Value} {c : Nat → List Value} (h : Orw w B E k v n c) (hb : v.ownBlock ≠ some b) (i : Nat) (u : Value) : Orw (w.setCell ⟨b, i, none⟩ u) B E k v n c :=
 h.stays fun j hj => heap_setCell_other w ⟨b, i, none⟩ j u (fun e => hb (by subst e; exact hj))
theorem Dm2.addBl (h : Dm2 lo w b S S.L ov bv vv tv) {g cap : Nat} {sp : Sp3} (hrow : Orw w' lo.lo 89 3 (.slice (some ⟨g, 0, none⟩) (S.M + 1) cap) (S.M + 1) (fun i => (spCs (updS S.g S.M sp i)).toList)) (hg : w.grownBy w' bv.ownBlock) (hp : bv.ownBlock = some g ∨ g = w.heap.size) :
  Dm2 lo (w'.setCell ⟨b, 9, none⟩ (.slice (some ⟨g, 0, none⟩) (S.M + 1) cap)) b { S with M := S.M + 1, g := updS S.g S.M sp } S.L ov (.slice (some ⟨g, 0, none⟩) (S.M + 1) cap) vv tv ∧ Tch (Ft b ov bv vv) w (w'.setCell ⟨b, 9, none⟩ (.slice (some ⟨g, 0, none⟩) (S.M + 1) cap)) ∧ (∀ k, Ft b ov (.slice (some ⟨g, 0, none⟩) (S.M + 1) cap) vv k → Ft b ov bv vv k ∨ w.heap.size ≤ k) := by
 have hgb : ((.slice (some ⟨g, 0, none⟩) (S.M + 1) cap) : Value).ownBlock ≠ some b := by
  intro e
  have e' : g = b := Option.some.inj e
  subst e'
  rcases hp with hp | hp
  · exact h.hbb hp
  · have := (Array.getElem?_eq_some_iff.1 h.blk).1; omega
 have hga_ov : ∀ k, g = k → ov.ownBlock ≠ some k := fun k e hk => by
  subst e
  rcases hp with hp | hp
  · exact (h.hobv g hk) hp
  · have := (h.ops.lt g hk).2; omega
 have hga_vv : ∀ k, g = k → vv.ownBlock ≠ some k := fun k e hk => by
  subst e
  rcases hp with hp | hp
  · exact (fun e => h.hbv g e hk) hp
  · have := (h.val.lt g hk).2; omega
 have hbl : w'.heap[b]? = w.heap[b]? := hg.block b (Array.getElem?_eq_some_iff.1 h.blk).1 (fun e => h.hbb e.symm)
 refine ⟨⟨?_, h.lob, ?_, ?_, ?_, h.hob, hgb, h.hvb, fun k hk e => hga_ov k (Option.some.inj e) hk, h.hov, fun k hk e => hga_vv k (Option.some.inj hk) e, ?_⟩, ?_, ?_⟩
 · rw [heap_setCell_same w' b 9 _ 53 _ (hbl.trans h.blk)]; rfl
 · exact h.ops.stays fun k hk => grown_at hg b 9 _ (h.ops.lt k hk).2 (fun e => (h.hobv k hk) e.symm) (fun e => h.hob (e ▸ hk))
 · exact row_in hrow hgb 9 _
 · exact h.val.stays fun k hk => grown_at hg b 9 _ (h.val.lt k hk).2 (fun e => (fun e => h.hbv k e hk) e.symm) (fun e => h.hvb (e ▸ hk))
 ·
  obtain ⟨a, cp, e, h1, h2, h3, h4, h5⟩ := h.tap
  refine ⟨a, cp, e, h1, h2, h3, h4, fun h0 => ?_⟩
  obtain ⟨q, off, ea, ⟨f1, f2, f3, f4, f5⟩, hq, hc⟩ := h5 h0
  have hgq : g ≠ q := fun e => by
   subst e
   rcases hp with hp | hp
   · exact f3 hp
   · omega
  refine ⟨q, off, ea, ⟨f1, f2, fun e => hgq (Option.some.inj e), f4, f5⟩, by have := hg.size; simp [World.setCell]; omega, fun j hj => ?_⟩
  rw [World.cell?_of_block (grown_at hg b 9 _ hq (fun e => f3 e.symm) f1)]
  exact hc j hj
 · exact (Tch.of_grown hg (fun k e => .inr (.inr (.inl e)))).trans (tch_set b 9 _ w') (fun _ _ f => f)
 ·
  rintro k (rfl | e | e | e)
  · exact .inl (.inl rfl)
  · exact .inl (.inr (.inl e))
  ·
   have e' : g = k := Option.some.inj e
   subst e'
   rcases hp with hp | hp
   · exact .inl (.inr (.inr (.inl hp)))
   · exact .inr (by omega)
  · exact .inl (.inr (.inr (.inr e)))
theorem Dm2.addVal (h : Dm2 lo w b S S.L ov bv vv tv) {g cap : Nat} {x : Nat} (hrow : Orw w' lo.lo 34 1 (.slice (some ⟨g, 0, none⟩) (S.L + 1) cap) (S.L + 1) (fun i => [.int .u64 ((updN S.v S.L x i : Nat) : Int)])) (hg : w.grownBy w' vv.ownBlock) (hp : vv.ownBlock = some g ∨ g = w.heap.size) :
  Dm2 lo (w'.setCell ⟨b, 10, none⟩ (.slice (some ⟨g, 0, none⟩) (S.L + 1) cap)) b { S with v := updN S.v S.L x } (S.L + 1) ov bv (.slice (some ⟨g, 0, none⟩) (S.L + 1) cap) tv ∧ Tch (Ft b ov bv vv) w (w'.setCell ⟨b, 10, none⟩ (.slice (some ⟨g, 0, none⟩) (S.L + 1) cap)) ∧ (∀ k, Ft b ov bv (.slice (some ⟨g, 0, none⟩) (S.L + 1) cap) k → Ft b ov bv vv k ∨ w.heap.size ≤ k) := by
 have hgb : ((.slice (some ⟨g, 0, none⟩) (S.L + 1) cap) : Value).ownBlock ≠ some b := by
  intro e
  have e' : g = b := Option.some.inj e
  subst e'
  rcases hp with hp | hp
  · exact h.hvb hp
  · have := (Array.getElem?_eq_some_iff.1 h.blk).1; omega
 have hga_ov : ∀ k, g = k → ov.ownBlock ≠ some k := fun k e hk => by
  subst e
  rcases hp with hp | hp
  · exact (h.hov g hk) hp
  · have := (h.ops.lt g hk).2; omega
 have hga_bv : ∀ k, g = k → bv.ownBlock ≠ some k := fun k e hk => by
  subst e
  rcases hp with hp | hp
  · exact (h.hbv g hk) hp
  · have := (h.bls.lt g hk).2; omega
 have hbl : w'.heap[b]? = w.heap[b]? := hg.block b (Array.getElem?_eq_some_iff.1 h.blk).1 (fun e => h.hvb e.symm)
 refine ⟨⟨?_, h.lob, ?_, ?_, ?_, h.hob, h.hbb, hgb, h.hobv, fun k hk e => hga_ov k (Option.some.inj e) hk, fun k hk e => hga_bv k (Option.some.inj e) hk, ?_⟩, ?_, ?_⟩
 · rw [heap_setCell_same w' b 10 _ 53 _ (hbl.trans h.blk)]; rfl
 · exact h.ops.stays fun k hk => grown_at hg b 10 _ (h.ops.lt k hk).2 (fun e => (h.hov k hk) e.symm) (fun e => h.hob (e ▸ hk))
 · exact h.bls.stays fun k hk => grown_at hg b 10 _ (h.bls.lt k hk).2 (fun e => (h.hbv k hk) e.symm) (fun e => h.hbb (e ▸ hk))
 · exact row_in hrow hgb 10 _
 ·
  obtain ⟨a, cp, e, h1, h2, h3, h4, h5⟩ := h.tap
  refine ⟨a, cp, e, h1, h2, h3, h4, fun h0 => ?_⟩
  obtain ⟨q, off, ea, ⟨f1, f2, f3, f4, f5⟩, hq, hc⟩ := h5 h0
  have hgq : g ≠ q := fun e => by
   subst e
   rcases hp with hp | hp
   · exact f4 hp
   · omega
  refine ⟨q, off, ea, ⟨f1, f2, f3, fun e => hgq (Option.some.inj e), f5⟩, by have := hg.size; simp [World.setCell]; omega, fun j hj => ?_⟩
  rw [World.cell?_of_block (grown_at hg b 10 _ hq (fun e => f4 e.symm) f1)]
  exact hc j hj
 · exact (Tch.of_grown hg (fun k e => .inr (.inr (.inr e)))).trans (tch_set b 10 _ w') (fun _ _ f => f)
 ·
  rintro k (rfl | e | e | e)
  · exact .inl (.inl rfl)
  · exact .inl (.inr (.inl e))
  · exact .inl (.inr (.inr (.inl e)))
  ·
   have e' : g = k := Option.some.inj e
   subst e'
   rcases hp with hp | hp
   · exact .inl (.inr (.inr (.inr hp)))
   · exact .inr (by omega)
theorem Dm2.addOps (h : Dm2 lo w b S (S.L + 1) ov bv vv tv) {g cap : Nat} {o : Op6} (hrow : Orw w' lo.lo 75 6 (.slice (some ⟨g, 0, none⟩) (S.L + 1) cap) (S.L + 1) (fun i => (opCs (updO S.f S.L o i)).toList)) (hg : w.grownBy w' ov.ownBlock) (hp : ov.ownBlock = some g ∨ g = w.heap.size) :
  Dm2 lo (w'.setCell ⟨b, 8, none⟩ (.slice (some ⟨g, 0, none⟩) (S.L + 1) cap)) b { S with L := S.L + 1, f := updO S.f S.L o } (S.L + 1) (.slice (some ⟨g, 0, none⟩) (S.L + 1) cap) bv vv tv ∧ Tch (Ft b ov bv vv) w (w'.setCell ⟨b, 8, none⟩ (.slice (some ⟨g, 0, none⟩) (S.L + 1) cap)) ∧ (∀ k, Ft b (.slice (some ⟨g, 0, none⟩) (S.L + 1) cap) bv vv k → Ft b ov bv vv k ∨ w.heap.size ≤ k) := by
 have hgb : ((.slice (some ⟨g, 0, none⟩) (S.L + 1) cap) : Value).ownBlock ≠ some b := by
  intro e
  have e' : g = b := Option.some.inj e
  subst e'
  rcases hp with hp | hp
  · exact h.hob hp
  · have := (Array.getElem?_eq_some_iff.1 h.blk).1; omega
 have hga_bv : ∀ k, g = k → bv.ownBlock ≠ some k := fun k e hk => by
  subst e
  rcases hp with hp | hp
  · exact (fun e => h.hobv g e hk) hp
  · have := (h.bls.lt g hk).2; omega
 have hga_vv : ∀ k, g = k → vv.ownBlock ≠ some k := fun k e hk => by
  subst e
  rcases hp with hp | hp
  · exact (fun e => h.hov g e hk) hp
  · have := (h.val.lt g hk).2; omega
 have hbl : w'.heap[b]? = w.heap[b]? := hg.block b (Array.getElem?_eq_some_iff.1 h.blk).1 (fun e => h.hob e.symm)
 refine ⟨⟨?_, h.lob, ?_, ?_, ?_, hgb, h.hbb, h.hvb, fun k hk e => hga_bv k (Option.some.inj hk) e, fun k hk e => hga_vv k (Option.some.inj hk) e, h.hbv, ?_⟩, ?_, ?_⟩
 · rw [heap_setCell_same w' b 8 _ 53 _ (hbl.trans h.blk)]; rfl
 · exact row_in hrow hgb 8 _
 · exact h.bls.stays fun k hk => grown_at hg b 8 _ (h.bls.lt k hk).2 (fun e => (fun e => h.hobv k e hk) e.symm) (fun e => h.hbb (e ▸ hk))
 · exact h.val.stays fun k hk => grown_at hg b 8 _ (h.val.lt k hk).2 (fun e => (fun e => h.hov k e hk) e.symm) (fun e => h.hvb (e ▸ hk))
 ·
  obtain ⟨a, cp, e, h1, h2, h3, h4, h5⟩ := h.tap
  refine ⟨a, cp, e, h1, h2, h3, h4, fun h0 => ?_⟩
  obtain ⟨q, off, ea, ⟨f1, f2, f3, f4, f5⟩, hq, hc⟩ := h5 h0
  have hgq : g ≠ q := fun e => by
   subst e
   rcases hp with hp | hp
   · exact f2 hp
   · omega
  refine ⟨q, off, ea, ⟨f1, fun e => hgq (Option.some.inj e), f3, f4, f5⟩, by have := hg.size; simp [World.setCell]; omega, fun j hj => ?_⟩
  rw [World.cell?_of_block (grown_at hg b 8 _ hq (fun e => f2 e.symm) f1)]
  exact hc j hj
 · exact (Tch.of_grown hg (fun k e => .inr (.inl e))).trans (tch_set b 8 _ w') (fun _ _ f => f)
 ·
  rintro k (rfl | e | e | e)
  · exact .inl (.inl rfl)
  ·
   have e' : g = k := Option.some.inj e
   subst e'
   rcases hp with hp | hp
   · exact .inl (.inr (.inl hp))
   · exact .inr (by omega)
  · exact .inl (.inr (.inr (.inl e)))
  · exact .inl (.inr (.inr (.inr e)))
end
open Go.RowKit
set_option maxRecDepth 100000
theorem infoSp : (Tryz.prog.info? 89).map (fun i => (i.zero, i.size, i.bytes)) = some (some (.agg #[.int .i64 0, .int .i64 0, .int .i64 0]), 3, 24) := by kernel_rfl
theorem dlen_quiet (lo : LoG) (b : Nat) (S : Ms) (ov bv vv tv : Value) (w : World) (h : Dm lo w b S ov bv vv tv) (l1 : S.L ≤ 1000000) (l2 : S.skip ≤ 1000000) :
  Calls Tryz.prog 68 #[.pointer (some ⟨b, 0, none⟩)] w fun e w' => e = .returned (.int .i64 (S.len : Nat)) ∧ ∃ n, w' = w.drewN n := by
 obtain ⟨a, cap, rfl⟩ := h.opsv
 have c5 := h.drew.c_skip
 have c8 := h.drew.c_ov
 have hw : IntKind.i64.wrap ((S.skip : Int) + (S.L : Int)) = ((S.len : Nat) : Int) := by unfold Ms.len; rw [IntKind.wrap_i64]; omega
 clear h l1 l2
 generalize S.len = n at *
 go_enter Tryz.func68, Tryz.ntmps68
 go_wp2_with fail
 go_region
 go_wp2
 go_ret
 exact ⟨rfl, 1, rfl⟩
theorem Dm.drewN {lo : LoG} {b : Nat} {w : World} {S : Ms} {ov bv vv tv : Value} (h : Dm lo w b S ov bv vv tv) (n : Nat) : Dm lo (w.drewN n) b S ov bv vv tv := h.self (below_drewN w n)
set_option maxHeartbeats 1600000 in
theorem dend_any (lo : LoG) (b : Nat) (S : Ms) (ov bv vv tv : Value) (w : World) (h : Dm lo w b S ov bv vv tv) (hb : Bd S) :
  Calls Tryz.prog 78 #[.pointer (some ⟨b, 0, none⟩)] w fun e w' => e = .returned (.tuple #[]) ∧ DmR lo b ov bv vv S.endS w w' := by
 have c7 := h.c_e
 have c6 := h.c_kind
 have f6 := h.fz 6
 have f7 := h.fz 7
 have HD := hid h
 have HBD := hid hb
 by_cases he : S.e = 0
 ·
  rw [he] at c7
  by_cases hk : S.kind = 0
  ·
   have e : S.endS = { S with e := 1 } := by unfold Ms.endS; rw [if_neg (by omega), if_pos hk]
   rw [e]
   have q1 : (S.kind == 0) = true := by simp [hk]
   have HN := hid (h.cellSet (S' := { S with e := 1 }) 7 (.int .i64 1) rfl rfl rfl rfl rfl rfl rfl rfl rfl)
   have HT := hid (tch_set (ov := ov) (bv := bv) (vv := vv) b 7 (.int .i64 1) w)
   clear h e hk
   go_enter Tryz.func78, Tryz.ntmps78
   go_wp2
   exact bodyPost_ret (results_none rfl _ _ _) rfl ⟨rfl, _, _, _, _, HN.out, HT.out, fun k hk => .inl hk⟩
  ·
   have q1 : (S.kind == 0) = false := by simp [hk]
   have HLQ := hid (fun w1 (h1 : Dm lo w1 b S ov bv vv tv) => dlen_any lo b S ov bv vv tv w1 h1 hb)
   have HQ := hid (fun n => dlen_quiet lo b S ov bv vv tv _ (h.drewN n) (by have := hb.L; omega) (by have := hb.skip; omega))
   by_cases hl : S.fr < S.len
   ·
    have e : S.endS = { S with M := S.M + 1, g := updS S.g S.M ⟨S.kind, (S.fr : Int), (S.len : Int)⟩, kind := 0 } := by unfold Ms.endS; rw [if_neg (by omega), if_neg hk, if_pos hl]
    rw [e]
    have q2 : decide ((S.fr : Int) < (S.len : Int)) = true := decide_eq_true (by omega)
    have XN := hid (fun n => h.drewN n)
    have c4 := h.c_fr
    clear h e hk hb
    go_enter Tryz.func78, Tryz.ntmps78
    go_wp2_with fail
    go_quiet ((go_at_call 68; exact Calls.quiet_of (HQ.out _)))
    go_wp2_with fail
    have X0 := hid ((XN.out nq).drew)
    have HB0 := hid ((below_drewN w nq).drew)
    refine wp_region_noPanic ?_
    refine wp_region_held_drew (S := fun w' => w'.cell? ⟨b, 6, none⟩ = some (Value.int .i64 S.kind) ∧ w'.cell? ⟨b, 4, none⟩ = some (Value.int .i64 (S.fr : Int))) (by kernel_rfl) (⟨X0.out.c_kind, X0.out.c_fr⟩) (fun h0 => ?_)
    generalize (w.drewN nq).drew = w1 at *
    refine tK 0 (.pointer (some ⟨b, 0, none⟩)) rfl (.inl ⟨by rfl, fun w hw => by clear hw; go_simp⟩) h0 ?_
    try simp only [Act.put, lay_out]
    refine tK 1 (.pointer (some ⟨b, 0, none⟩)) rfl (.inl ⟨by rfl, fun w hw => by clear hw; go_simp⟩) h0 ?_
    try simp only [Act.put, lay_out]
    refine tK 2 (.pointer (some ⟨b, 0, none⟩)) rfl (.inl ⟨by rfl, fun w hw => by clear hw; go_simp⟩) h0 ?_
    try simp only [Act.put, lay_out]
    refine tK 3 (.pointer (some ⟨b, 9, none⟩)) rfl (.inl ⟨by rfl, fun w hw => by clear hw; go_simp⟩) h0 ?_
    try simp only [Act.put, lay_out]
    refine tK 5 (.pointer (some ⟨b, 0, none⟩)) rfl (.inl ⟨by rfl, fun w hw => by clear hw; go_simp⟩) h0 ?_
    try simp only [Act.put, lay_out]
    refine tK 6 (.pointer (some ⟨b, 0, none⟩)) rfl (.inl ⟨by rfl, fun w hw => by clear hw; go_simp⟩) h0 ?_
    try simp only [Act.put, lay_out]
    refine tK 7 (.pointer (some ⟨b, 6, none⟩)) rfl (.inl ⟨by rfl, fun w hw => by clear hw; go_simp⟩) h0 ?_
    try simp only [Act.put, lay_out]
    refine tK 8 (.int .i64 S.kind) rfl (.inl ⟨by rfl, fun w hw => by go_simp⟩) h0 ?_
    try simp only [Act.put, lay_out]
    refine tK 9 (.pointer (some ⟨b, 0, none⟩)) rfl (.inl ⟨by rfl, fun w hw => by clear hw; go_simp⟩) h0 ?_
    try simp only [Act.put, lay_out]
    refine tK 10 (.pointer (some ⟨b, 0, none⟩)) rfl (.inl ⟨by rfl, fun w hw => by clear hw; go_simp⟩) h0 ?_
    try simp only [Act.put, lay_out]
    refine tK 11 (.pointer (some ⟨b, 4, none⟩)) rfl (.inl ⟨by rfl, fun w hw => by clear hw; go_simp⟩) h0 ?_
    try simp only [Act.put, lay_out]
    refine tK 12 (.int .i64 (S.fr : Int)) rfl (.inl ⟨by rfl, fun w hw => by go_simp⟩) h0 ?_
    try simp only [Act.put, lay_out]
    refine tK 13 (.pointer (some ⟨b, 0, none⟩)) rfl (.inl ⟨by rfl, fun w hw => by clear hw; go_simp⟩) h0 ?_
    try simp only [Act.put, lay_out]
    refine wpAnyH_ready (rs := [4, 14]) (by kernel_rfl) (by simp) (AllReadyH.cons rfl (fun K hK => ?_) (AllReadyH.cons rfl (fun K hK => ?_) AllReadyH.nil))
    ·
     have c9 := X0.out.c_bv
     rw [if_pos (by rfl)]
     go_simp
     clear c9
     refine hK.out _ _ (⟨X0.out.c_kind, X0.out.c_fr⟩) (fun h1x => ?_)
     clear hK K
     try simp only [Act.put, lay_out]
     refine wpAnyH_ready (rs := [14]) (by kernel_rfl) (by simp) (AllReadyH.cons rfl (fun K hK => ?_) AllReadyH.nil)
     rw [if_pos (by rfl)]
     go_simp
     go_at_call 68
     (with_reducible refine (HLQ.out _ X0.out).mono ?_); rintro e w2 ⟨rfl, hb1⟩
     have X1 := hid (X0.out.self hb1)
     have HBX1 := hid hb1
     clear hb1
     refine hK.out _ _ (⟨X1.out.c_kind, X1.out.c_fr⟩) (fun h2x => ?_)
     clear hK K
     try simp only [Act.put, lay_out]
     refine tK 15 (.agg #[.int .i64 S.kind, .int .i64 (S.fr : Int), .int .i64 (S.len : Int)]) rfl (.inl ⟨by rfl, fun w hw => by clear hw; go_simp⟩) h2x ?_
     try simp only [Act.put, lay_out]
     refine wpAnyH_ready (rs := [16]) (by kernel_rfl) (by simp) (AllReadyH.cons rfl (fun K hK => ?_) AllReadyH.nil)
     rw [if_pos (by rfl)]
     go_simp
     have XA := hid (X1.out.self ((Below.refl w2.heap.size w2).alloc (Nat.le_refl _) (.cells #[.int .i64 S.kind, .int .i64 (S.fr : Int), .int .i64 (S.len : Int)] 89)))
     refine hK.out _ _ (⟨XA.out.c_kind, XA.out.c_fr⟩) (fun h3x => ?_)
     clear hK K
     try simp only [Act.put, lay_out]
     refine wpAnyH_ready (rs := [17]) (by kernel_rfl) (by simp) (AllReadyH.cons rfl (fun K hK => ?_) AllReadyH.nil)
     rw [if_pos (by rfl)]
     refine wp_append_rec (.tmp 26) (.tmp 38) 49 rfl lo.lo 89 3 24 (.agg #[.int .i64 0, .int .i64 0, .int .i64 0]) Tryz.underlying49 infoSp (by rfl) (by decide) bv S.M (fun i => (spCs (updS S.g S.M ⟨S.kind, (S.fr : Int), (S.len : Int)⟩ i)).toList) rfl (XA.out.bls.ext fun i hi => by rw [updS_no _ _ (by omega)]) ⟨w2.heap.size, 0, none⟩ 1 rfl rfl (by intro u hu; simp at hu; rcases hu with rfl | rfl | rfl <;> rfl) ?_ (by have := HBD.out.M; unfold maxLen; omega) (by have := HBD.out.M; omega) (by have := XA.out.lt; have := XA.out.lob; omega) (fun g cap' w9 g1 g2 g3 => ?_)
     · rw [updS_at]; exact World.news_of_block (heap_alloc_new _ _)
     have XG := hid (XA.out.addBl g1 g2 g3)
     have hbl : w9.heap[b]? = _ := g2.block b XA.out.lt (fun e => XA.out.hbb e.symm)
     have f6 := frozen_of_row w9 b 6 _ _ (hbl.trans XA.out.blk)
     have f9 := frozen_of_row w9 b 9 _ _ (hbl.trans XA.out.blk)
     have c6 : w9.cell? ⟨b, 6, none⟩ = some (Value.int .i64 S.kind) := by rw [World.cell?_of_block hbl]; exact XA.out.c_kind
     have K6 := hid c6
     have K4 : Hid (w9.cell? ⟨b, 4, none⟩ = some (Value.int .i64 (S.fr : Int))) := hid (by rw [World.cell?_of_block hbl]; exact XA.out.c_fr)
     have c9 : w9.cell? ⟨b, 9, none⟩ = some bv := by rw [World.cell?_of_block hbl]; exact XA.out.c_bv
     clear g1 g2 g3 hbl
     refine hK.out _ _ (⟨K6.out, K4.out⟩) (fun h4x => ?_)
     clear hK K
     try simp only [Act.put, lay_out]
     refine tK 18 (.pointer (some ⟨b, 0, none⟩)) rfl (.inl ⟨by rfl, fun w hw => by clear hw; go_simp⟩) h4x ?_
     try simp only [Act.put, lay_out]
     refine tK 19 (.pointer (some ⟨b, 9, none⟩)) rfl (.inl ⟨by rfl, fun w hw => by clear hw; go_simp⟩) h4x ?_
     try simp only [Act.put, lay_out]
     refine wpAnyH_ready (rs := [20]) (by kernel_rfl) (by simp) (AllReadyH.cons rfl (fun K hK => ?_) AllReadyH.nil)
     rw [if_pos (by rfl)]
     go_simp
     refine hK.out _ _ (⟨Dm.c_kind (S := { S with M := S.M + 1, g := updS S.g S.M ⟨S.kind, (S.fr : Int), (S.len : Int)⟩ }) XG.out.1, Dm.c_fr (S := { S with M := S.M + 1, g := updS S.g S.M ⟨S.kind, (S.fr : Int), (S.len : Int)⟩ }) XG.out.1⟩) (fun h5x => ?_)
     clear hK K
     try simp only [Act.put, lay_out]
     refine wpAnyH_done (by kernel_rfl) ?_ _
     refine NoPanic.normal ?_
     clear h0 h1x h2x h3x h4x h5x
     try simp only [Act.put, lay_out]
     go_wp2
     have HT0 := ((Tch.of_below (F := Ft b ov bv vv) HB0.out).trans (Tch.of_below (F := Ft b ov bv vv) HBX1.out) (fun _ _ f => f)).trans (Tch.of_below (F := Ft b ov bv vv) ((Below.refl w2.heap.size w2).alloc (Nat.le_refl _) (.cells #[.int .i64 S.kind, .int .i64 (S.fr : Int), .int .i64 (S.len : Int)] 89))) (fun _ _ f => f)
     exact bodyPost_end (results_none rfl _ _ _) rfl ⟨rfl, _, _, _, _, Dm.cellSet (S := { S with M := S.M + 1, g := updS S.g S.M ⟨S.kind, (S.fr : Int), (S.len : Int)⟩ }) XG.out.1 (S' := { S with M := S.M + 1, g := updS S.g S.M ⟨S.kind, (S.fr : Int), (S.len : Int)⟩, kind := 0 }) 6 (.int .i64 0) rfl rfl rfl rfl rfl rfl rfl rfl rfl, (HT0.trans XG.out.2.1 (fun _ _ f => f)).trans (tch_set b 6 _ _) (fun _ _ f => f), fun k hk => (XG.out.2.2 k hk).imp id (fun hk => Nat.le_trans HT0.size hk)⟩
    ·
     rw [if_pos (by rfl)]
     go_simp
     go_at_call 68
     (with_reducible refine (HLQ.out _ X0.out).mono ?_); rintro e w2 ⟨rfl, hb1⟩
     have X1 := hid (X0.out.self hb1)
     have HBX1 := hid hb1
     clear hb1
     refine hK.out _ _ (⟨X1.out.c_kind, X1.out.c_fr⟩) (fun h1x => ?_)
     clear hK K
     try simp only [Act.put, lay_out]
     refine tK 15 (.agg #[.int .i64 S.kind, .int .i64 (S.fr : Int), .int .i64 (S.len : Int)]) rfl (.inl ⟨by rfl, fun w hw => by clear hw; go_simp⟩) h1x ?_
     try simp only [Act.put, lay_out]
     refine wpAnyH_ready (rs := [4, 16]) (by kernel_rfl) (by simp) (AllReadyH.cons rfl (fun K hK => ?_) (AllReadyH.cons rfl (fun K hK => ?_) AllReadyH.nil))
     ·
      have c9 := X1.out.c_bv
      rw [if_pos (by rfl)]
      go_simp
      clear c9
      refine hK.out _ _ (⟨X1.out.c_kind, X1.out.c_fr⟩) (fun h2x => ?_)
      clear hK K
      try simp only [Act.put, lay_out]
      refine wpAnyH_ready (rs := [16]) (by kernel_rfl) (by simp) (AllReadyH.cons rfl (fun K hK => ?_) AllReadyH.nil)
      rw [if_pos (by rfl)]
      go_simp
      have XA := hid (X1.out.self ((Below.refl w2.heap.size w2).alloc (Nat.le_refl _) (.cells #[.int .i64 S.kind, .int .i64 (S.fr : Int), .int .i64 (S.len : Int)] 89)))
      refine hK.out _ _ (⟨XA.out.c_kind, XA.out.c_fr⟩) (fun h3x => ?_)
      clear hK K
      try simp only [Act.put, lay_out]
      refine wpAnyH_ready (rs := [17]) (by kernel_rfl) (by simp) (AllReadyH.cons rfl (fun K hK => ?_) AllReadyH.nil)
      rw [if_pos (by rfl)]
      refine wp_append_rec (.tmp 26) (.tmp 38) 49 rfl lo.lo 89 3 24 (.agg #[.int .i64 0, .int .i64 0, .int .i64 0]) Tryz.underlying49 infoSp (by rfl) (by decide) bv S.M (fun i => (spCs (updS S.g S.M ⟨S.kind, (S.fr : Int), (S.len : Int)⟩ i)).toList) rfl (XA.out.bls.ext fun i hi => by rw [updS_no _ _ (by omega)]) ⟨w2.heap.size, 0, none⟩ 1 rfl rfl (by intro u hu; simp at hu; rcases hu with rfl | rfl | rfl <;> rfl) ?_ (by have := HBD.out.M; unfold maxLen; omega) (by have := HBD.out.M; omega) (by have := XA.out.lt; have := XA.out.lob; omega) (fun g cap' w9 g1 g2 g3 => ?_)
      · rw [updS_at]; exact World.news_of_block (heap_alloc_new _ _)
      have XG := hid (XA.out.addBl g1 g2 g3)
      have hbl : w9.heap[b]? = _ := g2.block b XA.out.lt (fun e => XA.out.hbb e.symm)
      have f6 := frozen_of_row w9 b 6 _ _ (hbl.trans XA.out.blk)
      have f9 := frozen_of_row w9 b 9 _ _ (hbl.trans XA.out.blk)
      have c6 : w9.cell? ⟨b, 6, none⟩ = some (Value.int .i64 S.kind) := by rw [World.cell?_of_block hbl]; exact XA.out.c_kind
      have K6 := hid c6
      have K4 : Hid (w9.cell? ⟨b, 4, none⟩ = some (Value.int .i64 (S.fr : Int))) := hid (by rw [World.cell?_of_block hbl]; exact XA.out.c_fr)
      have c9 : w9.cell? ⟨b, 9, none⟩ = some bv := by rw [World.cell?_of_block hbl]; exact XA.out.c_bv
      clear g1 g2 g3 hbl
      refine hK.out _ _ (⟨K6.out, K4.out⟩) (fun h4x => ?_)
      clear hK K
      try simp only [Act.put, lay_out]
      refine tK 18 (.pointer (some ⟨b, 0, none⟩)) rfl (.inl ⟨by rfl, fun w hw => by clear hw; go_simp⟩) h4x ?_
      try simp only [Act.put, lay_out]
      refine tK 19 (.pointer (some ⟨b, 9, none⟩)) rfl (.inl ⟨by rfl, fun w hw => by clear hw; go_simp⟩) h4x ?_
      try simp only [Act.put, lay_out]
      refine wpAnyH_ready (rs := [20]) (by kernel_rfl) (by simp) (AllReadyH.cons rfl (fun K hK => ?_) AllReadyH.nil)
      rw [if_pos (by rfl)]
      go_simp
      refine hK.out _ _ (⟨Dm.c_kind (S := { S with M := S.M + 1, g := updS S.g S.M ⟨S.kind, (S.fr : Int), (S.len : Int)⟩ }) XG.out.1, Dm.c_fr (S := { S with M := S.M + 1, g := updS S.g S.M ⟨S.kind, (S.fr : Int), (S.len : Int)⟩ }) XG.out.1⟩) (fun h5x => ?_)
      clear hK K
      try simp only [Act.put, lay_out]
      refine wpAnyH_done (by kernel_rfl) ?_ _
      refine NoPanic.normal ?_
      clear h0 h1x h2x h3x h4x h5x
      try simp only [Act.put, lay_out]
      go_wp2
      have HT0 := ((Tch.of_below (F := Ft b ov bv vv) HB0.out).trans (Tch.of_below (F := Ft b ov bv vv) HBX1.out) (fun _ _ f => f)).trans (Tch.of_below (F := Ft b ov bv vv) ((Below.refl w2.heap.size w2).alloc (Nat.le_refl _) (.cells #[.int .i64 S.kind, .int .i64 (S.fr : Int), .int .i64 (S.len : Int)] 89))) (fun _ _ f => f)
      exact bodyPost_end (results_none rfl _ _ _) rfl ⟨rfl, _, _, _, _, Dm.cellSet (S := { S with M := S.M + 1, g := updS S.g S.M ⟨S.kind, (S.fr : Int), (S.len : Int)⟩ }) XG.out.1 (S' := { S with M := S.M + 1, g := updS S.g S.M ⟨S.kind, (S.fr : Int), (S.len : Int)⟩, kind := 0 }) 6 (.int .i64 0) rfl rfl rfl rfl rfl rfl rfl rfl rfl, (HT0.trans XG.out.2.1 (fun _ _ f => f)).trans (tch_set b 6 _ _) (fun _ _ f => f), fun k hk => (XG.out.2.2 k hk).imp id (fun hk => Nat.le_trans HT0.size hk)⟩
     ·
      rw [if_pos (by rfl)]
      go_simp
      have XA := hid (X1.out.self ((Below.refl w2.heap.size w2).alloc (Nat.le_refl _) (.cells #[.int .i64 S.kind, .int .i64 (S.fr : Int), .int .i64 (S.len : Int)] 89)))
      refine hK.out _ _ (⟨XA.out.c_kind, XA.out.c_fr⟩) (fun h2x => ?_)
      clear hK K
      try simp only [Act.put, lay_out]
      refine wpAnyH_ready (rs := [4]) (by kernel_rfl) (by simp) (AllReadyH.cons rfl (fun K hK => ?_) AllReadyH.nil)
      have c9 := XA.out.c_bv
      rw [if_pos (by rfl)]
      go_simp
      clear c9
      refine hK.out _ _ (⟨XA.out.c_kind, XA.out.c_fr⟩) (fun h3x => ?_)
      clear hK K
      try simp only [Act.put, lay_out]
      refine wpAnyH_ready (rs := [17]) (by kernel_rfl) (by simp) (AllReadyH.cons rfl (fun K hK => ?_) AllReadyH.nil)
      rw [if_pos (by rfl)]
      refine wp_append_rec (.tmp 26) (.tmp 38) 49 rfl lo.lo 89 3 24 (.agg #[.int .i64 0, .int .i64 0, .int .i64 0]) Tryz.underlying49 infoSp (by rfl) (by decide) bv S.M (fun i => (spCs (updS S.g S.M ⟨S.kind, (S.fr : Int), (S.len : Int)⟩ i)).toList) rfl (XA.out.bls.ext fun i hi => by rw [updS_no _ _ (by omega)]) ⟨w2.heap.size, 0, none⟩ 1 rfl rfl (by intro u hu; simp at hu; rcases hu with rfl | rfl | rfl <;> rfl) ?_ (by have := HBD.out.M; unfold maxLen; omega) (by have := HBD.out.M; omega) (by have := XA.out.lt; have := XA.out.lob; omega) (fun g cap' w9 g1 g2 g3 => ?_)
      · rw [updS_at]; exact World.news_of_block (heap_alloc_new _ _)
      have XG := hid (XA.out.addBl g1 g2 g3)
      have hbl : w9.heap[b]? = _ := g2.block b XA.out.lt (fun e => XA.out.hbb e.symm)
      have f6 := frozen_of_row w9 b 6 _ _ (hbl.trans XA.out.blk)
      have f9 := frozen_of_row w9 b 9 _ _ (hbl.trans XA.out.blk)
      have c6 : w9.cell? ⟨b, 6, none⟩ = some (Value.int .i64 S.kind) := by rw [World.cell?_of_block hbl]; exact XA.out.c_kind
      have K6 := hid c6
      have K4 : Hid (w9.cell? ⟨b, 4, none⟩ = some (Value.int .i64 (S.fr : Int))) := hid (by rw [World.cell?_of_block hbl]; exact XA.out.c_fr)
      have c9 : w9.cell? ⟨b, 9, none⟩ = some bv := by rw [World.cell?_of_block hbl]; exact XA.out.c_bv
      clear g1 g2 g3 hbl
      refine hK.out _ _ (⟨K6.out, K4.out⟩) (fun h4x => ?_)
      clear hK K
      try simp only [Act.put, lay_out]
      refine tK 18 (.pointer (some ⟨b, 0, none⟩)) rfl (.inl ⟨by rfl, fun w hw => by clear hw; go_simp⟩) h4x ?_
      try simp only [Act.put, lay_out]
      refine tK 19 (.pointer (some ⟨b, 9, none⟩)) rfl (.inl ⟨by rfl, fun w hw => by clear hw; go_simp⟩) h4x ?_
      try simp only [Act.put, lay_out]
      refine wpAnyH_ready (rs := [20]) (by kernel_rfl) (by simp) (AllReadyH.cons rfl (fun K hK => ?_) AllReadyH.nil)
      rw [if_pos (by rfl)]
      go_simp
      refine hK.out _ _ (⟨Dm.c_kind (S := { S with M := S.M + 1, g := updS S.g S.M ⟨S.kind, (S.fr : Int), (S.len : Int)⟩ }) XG.out.1, Dm.c_fr (S := { S with M := S.M + 1, g := updS S.g S.M ⟨S.kind, (S.fr : Int), (S.len : Int)⟩ }) XG.out.1⟩) (fun h5x => ?_)
      clear hK K
      try simp only [Act.put, lay_out]
      refine wpAnyH_done (by kernel_rfl) ?_ _
      refine NoPanic.normal ?_
      clear h0 h1x h2x h3x h4x h5x
      try simp only [Act.put, lay_out]
      go_wp2
      have HT0 := ((Tch.of_below (F := Ft b ov bv vv) HB0.out).trans (Tch.of_below (F := Ft b ov bv vv) HBX1.out) (fun _ _ f => f)).trans (Tch.of_below (F := Ft b ov bv vv) ((Below.refl w2.heap.size w2).alloc (Nat.le_refl _) (.cells #[.int .i64 S.kind, .int .i64 (S.fr : Int), .int .i64 (S.len : Int)] 89))) (fun _ _ f => f)
      exact bodyPost_end (results_none rfl _ _ _) rfl ⟨rfl, _, _, _, _, Dm.cellSet (S := { S with M := S.M + 1, g := updS S.g S.M ⟨S.kind, (S.fr : Int), (S.len : Int)⟩ }) XG.out.1 (S' := { S with M := S.M + 1, g := updS S.g S.M ⟨S.kind, (S.fr : Int), (S.len : Int)⟩, kind := 0 }) 6 (.int .i64 0) rfl rfl rfl rfl rfl rfl rfl rfl rfl, (HT0.trans XG.out.2.1 (fun _ _ f => f)).trans (tch_set b 6 _ _) (fun _ _ f => f), fun k hk => (XG.out.2.2 k hk).imp id (fun hk => Nat.le_trans HT0.size hk)⟩
   ·
    have e : S.endS = { S with kind := 0 } := by unfold Ms.endS; rw [if_neg (by omega), if_neg hk, if_neg hl]
    rw [e]
    have q2 : decide ((S.fr : Int) < (S.len : Int)) = false := decide_eq_false (by omega)
    have c4 := h.c_fr
    have XN := hid (fun n => h.drewN n)
    have hl' : ¬ S.fr < S.len := hl
    clear h e hk hb
    go_enter Tryz.func78, Tryz.ntmps78
    go_wp2_with fail
    go_quiet ((go_at_call 68; exact Calls.quiet_of (HQ.out _)))
    go_wp2
    exact bodyPost_end (results_none rfl _ _ _) rfl ⟨rfl, _, _, _, _, (XN.out nq).cellSet (S' := { S with kind := 0 }) 6 (.int .i64 0) rfl rfl rfl rfl rfl rfl rfl rfl rfl, (Tch.of_below (F := Ft b ov bv vv) (below_drewN w nq)).trans (tch_set b 6 _ _) (fun _ _ f => f), fun k hk => .inl hk⟩
 ·
  have e : S.endS = S := by unfold Ms.endS; rw [if_pos he]
  rw [e]
  have q1 : ((S.e : Int) != 0) = true := by simp; omega
  clear h e he
  go_enter Tryz.func78, Tryz.ntmps78
  go_wp2
  exact bodyPost_ret (results_none rfl _ _ _) rfl ⟨rfl, _, _, _, _, HD.out, Tch.refl _ _, fun k hk => .inl hk⟩
end Go.Proofs.YthkijncnndoafaaGreatDoor
