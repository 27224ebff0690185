import Derived.Test.YtoicanbgaghpcaaProg
import Derived.Test.YtoicanbgaghpcaaOct
namespace Go.Proofs.Ytoicanbgaghpcaa
open Go.RowKit

def rrTo (x : Int) : Nat → Int
  | 0 => x
  | k + 1 => IntKind.u64.wrap (IntKind.u64.wrap (rrTo x k * 2) + rrTo x k / 9223372036854775808)

set_option maxHeartbeats 400000 in
theorem mod_any (k : Int) (w : World) :
    Calls Try.prog 26 #[.int .i64 k, .int .i64 64] w fun e w' => e = .returned (.int .i64 (k % 64)) ∧ w' = w := by
  have hm : k.tmod 64 = if k % 64 ≠ 0 ∧ k < 0 then k % 64 - 64 else k % 64 := by
    rw [Int.tmod_eq_emod]; split <;> split <;> simp_all <;> omega
  by_cases hc : k % 64 ≠ 0 ∧ k < 0
  · rw [if_pos hc] at hm
    obtain ⟨q, hq⟩ : ∃ q, k.tmod 64 = q := ⟨_, rfl⟩
    have h1 : q < 0 := by omega
    have h2 : -64 ≤ q := by omega
    have HQ := hid (show q + 64 = k % 64 by omega)
    clear hm hc
    go_enter Try.func26, Try.ntmps26
    go_wp2
    go_ret
    exact ⟨ret_int HQ.out, rfl⟩
  · rw [if_neg hc] at hm
    obtain ⟨q, hq⟩ : ∃ q, k.tmod 64 = q := ⟨_, rfl⟩
    have h1 : 0 ≤ q := by omega
    have HQ := hid (show q = k % 64 by omega)
    clear hm hc
    go_enter Try.func26, Try.ntmps26
    go_wp2
    go_ret
    exact ⟨ret_int HQ.out, rfl⟩

set_option maxHeartbeats 400000 in
theorem refrot_any (x k : Int) (w : World) (hx : 0 ≤ x ∧ x ≤ 18446744073709551615) :
    Calls Try.prog 12 #[.int .u64 x, .int .i64 k] w fun e w' => e = .returned (.int .u64 (rrTo x (k % 64).toNat)) ∧ w' = w := by
  obtain ⟨n, hn, hn2⟩ : ∃ n : Nat, k % 64 = n ∧ n < 64 := ⟨(k % 64).toNat, by omega, by omega⟩
  have HN := hid hn
  clear hn
  have hbd : ∀ k, 0 ≤ rrTo x k ∧ rrTo x k ≤ 18446744073709551615 := by
    intro k
    cases k with
    | zero => exact hx
    | succ k => simp only [rrTo, IntKind.wrap_u64]; omega
  have HB := hid hbd
  clear hbd hx
  go_enter Try.func12, Try.ntmps12
  go_wp2
  go_loop [0, 5] (fun y i => ∃ j : Nat, j ≤ n ∧ i = .int .i64 j ∧ y = .int .u64 (rrTo x j)) (fun _ i => n - (intOf i).toNat)
  case atStart => exact ⟨0, by omega, rfl, rfl⟩
  case round =>
    obtain ⟨j, hj, rfl, rfl⟩ := hrel
    have hb1 := (HB.out j).1
    have hb2 := (HB.out j).2
    have HS := hid (show rrTo x (j + 1) = _ from rfl)
    obtain ⟨m, hm⟩ : ∃ m, k % 64 = m := ⟨_, rfl⟩
    have HM := hid (show m = n by rw [← hm]; exact HN.out)
    have hmn : (m : Int) ≤ n := by rw [HM.out]; omega
    have hmn' : (n : Int) ≤ m := by rw [HM.out]; omega
    by_cases hlt : j < n
    · go_wp2_with (go_at_call 26; refine (mod_any _ _).mono ?_; rintro e w' ⟨rfl, rfl⟩)
      go_round
      case rel => exact ⟨j + 1, by omega, by go_num, rfl⟩
      case measure => simp [intOf]; omega
    · go_wp2_with (go_at_call 26; refine (mod_any _ _).mono ?_; rintro e w' ⟨rfl, rfl⟩)
      go_ret
      obtain rfl : j = n := by omega
      exact ⟨by rw [HN.out]; simp, rfl⟩

def dif (xs ys : List Int) : Nat → Int
  | 0 => 0
  | k + 1 => bits .or .u8 (dif xs ys k) (bits .xor .u8 (nth xs k) (nth ys k))
set_option maxHeartbeats 400000 in
theorem same_any (v v' : Value) (xs ys : List Int) (w : World) (h : Rd .u8 w v xs) (h' : Rd .u8 w v' ys) :
    Calls Try.prog 22 #[v, v'] w fun e w' => e = .returned (.bool (decide (xs.length = ys.length) && (dif xs ys xs.length == 0))) ∧ Below w.heap.size w w' := by
  have hl := u8lim h
  have hl' := u8lim h'
  obtain ⟨a, cap, rfl, _, hz, hc⟩ := h
  obtain ⟨a', cap', rfl, _, hz', hc'⟩ := h'
  clear hz hz'
  by_cases hn : xs.length = ys.length
  · have HN := hid hn
    rw [← hn] at hc' ⊢
    clear hn
    go_enter Try.func22, Try.ntmps22
    go_wp2
    go_loopw [5, 14] (fun x i wr => ∃ k : Nat, k ≤ xs.length ∧ i = .int .i64 k ∧ x = .int .u8 (dif xs ys k) ∧ Below w.heap.size w wr) (fun _ i _ => xs.length - (intOf i).toNat)
    case atStart => exact ⟨0, by omega, rfl, rfl, Below.refl _ _⟩
    case round =>
      obtain ⟨k, hk, rfl, rfl, hb⟩ := hrel
      by_cases hlt : k < xs.length
      · obtain ⟨b, off, rfl, hbw, hc⟩ := hc (by omega)
        obtain ⟨b', off', rfl, hbw', hc'⟩ := hc' (by omega)
        have c1 := (hb.cell (p := ⟨b, off + k, none⟩) hbw).trans (hc k hlt)
        have c2 := (hb.cell (p := ⟨b', off' + k, none⟩) hbw').trans (hc' k hlt)
        clear hc hc'
        go_wp2
        go_region
        go_wp2
        go_roundw
        case rel => exact ⟨k + 1, by omega, by go_num, rfl, hb.drew⟩
        case measure => simp [intOf]; omega
      · go_wp2
        go_ret
        obtain rfl : k = xs.length := by omega
        exact ⟨by simp, hb⟩
  · have HN : (((xs.length : Int)) != ys.length) = true := by rw [bne_iff_ne]; omega
    clear hc hc'
    go_enter Try.func22, Try.ntmps22
    go_wp2
    go_ret
    exact ⟨by simp [hn], Below.refl _ _⟩

theorem and63 (k : Int) : bits .and .u64 (IntKind.u64.wrap k) 63 = k % 64 := by
  rw [u64_and _ _ (by rw [IntKind.wrap_u64]; omega) (by rw [IntKind.wrap_u64]; omega) (by omega) (by omega), IntKind.wrap_u64]
  have h : (63 : Int).toNat = 2 ^ 6 - 1 := rfl
  rw [h, Nat.and_two_pow_sub_one_eq_mod]
  omega
def rotl (x : Int) (m : Nat) : Int := bits .or .u64 (IntKind.u64.wrap (x * 2 ^ m)) (x / 2 ^ (64 - m))
set_option maxHeartbeats 400000 in
theorem rot64_any (x k : Int) (w : World) (hx : 0 ≤ x ∧ x ≤ 18446744073709551615) :
    Calls Try.prog 25 #[.int .u64 x, .int .i64 k] w fun e w' => e = .returned (.int .u64 (rotl x (k % 64).toNat)) ∧ w' = w := by
  obtain ⟨hx1, hx2⟩ := hx
  have hb := and63 k
  obtain ⟨m, hm, hm64⟩ : ∃ m : Nat, k % 64 = m ∧ m < 64 := ⟨(k % 64).toNat, by omega, by omega⟩
  rw [hm] at hb ⊢
  clear hm
  go_enter Try.func25, Try.ntmps25
  go_wp2
  go_ret
  exact ⟨rfl, rfl⟩
set_option maxHeartbeats 400000 in
theorem rot_any (x k : Int) (w : World) (hx : 0 ≤ x ∧ x ≤ 18446744073709551615) :
    Calls Try.prog 11 #[.int .u64 x, .int .i64 k] w fun e w' => e = .returned (.int .u64 (rotl x (k % 64).toNat)) ∧ w' = w := by
  go_enter Try.func11, Try.ntmps11
  go_wp2_with (go_at_call 25; refine (rot64_any _ _ _ hx).mono ?_; rintro e w' ⟨rfl, rfl⟩)
  go_ret
  exact ⟨rfl, rfl⟩
def lowL (m : Nat) : Int := IntKind.u64.wrap (IntKind.u64.wrap (2 ^ m) - 1)
set_option maxHeartbeats 400000 in
theorem low_any (n : Int) (w : World) :
    Calls Try.prog 13 #[.int .i64 n] w fun e w' => e = .returned (.int .u64 (lowL (min (max n 0) 64).toNat)) ∧ w' = w := by
  have hc := clamp_any n 64 w
  obtain ⟨m, hm, hm64⟩ : ∃ m : Nat, min (max n 0) 64 = m ∧ m ≤ 64 := ⟨(min (max n 0) 64).toNat, by omega, by omega⟩
  rw [hm] at hc ⊢
  clear hm
  go_enter Try.func13, Try.ntmps13
  go_wp2_with (go_at_call 24; refine hc.mono ?_; rintro e w' ⟨rfl, rfl⟩)
  go_ret
  exact ⟨rfl, rfl⟩
def rlow : Nat → Int
  | 0 => 0
  | k + 1 => IntKind.u64.wrap (IntKind.u64.wrap (rlow k * 2) + 1)
set_option maxHeartbeats 400000 in
theorem reflow_any (n : Int) (w : World) :
    Calls Try.prog 14 #[.int .i64 n] w fun e w' => e = .returned (.int .u64 (rlow (min (max n 0) 64).toNat)) ∧ w' = w := by
  obtain ⟨m, hm, hm64⟩ : ∃ m : Nat, min (max n 0) 64 = m ∧ m ≤ 64 := ⟨(min (max n 0) 64).toNat, by omega, by omega⟩
  have HM := hid hm
  clear hm
  go_enter Try.func14, Try.ntmps14
  go_wp2
  go_loop [3, 4] (fun y i => ∃ j : Nat, j ≤ m ∧ i = .int .i64 j ∧ y = .int .u64 (rlow j)) (fun _ i => m - (intOf i).toNat)
  case atStart => exact ⟨0, by omega, rfl, rfl⟩
  case round =>
    obtain ⟨j, hj, rfl, rfl⟩ := hrel
    by_cases hlt : j < m
    · have h1 : (j : Int) < n := by have := HM.out; omega
      go_wp2
      go_round
      case rel => exact ⟨j + 1, by omega, by go_num, rfl⟩
      case measure => simp [intOf]; omega
    · have h0 : j = m := by omega
      by_cases h1 : (j : Int) < n
      · have h2 : ¬ (j : Int) < 64 := by have := HM.out; omega
        clear h0
        go_wp2
        go_ret
        obtain rfl : j = m := by omega
        exact ⟨by rw [HM.out]; simp, rfl⟩
      · clear h0
        go_wp2
        go_ret
        obtain rfl : j = m := by omega
        exact ⟨by rw [HM.out]; simp, rfl⟩
end Go.Proofs.Ytoicanbgaghpcaa
