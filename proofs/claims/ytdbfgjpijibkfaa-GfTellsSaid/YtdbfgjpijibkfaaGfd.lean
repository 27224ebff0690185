import Derived.Test.YtdbfgjpijibkfaaProg
import Derived.Test.YtdbfgjpijibkfaaGfc
namespace Go.Proofs.Ytdbfgjpijibkfaa
open Go.RowKit

theorem eqT {x y : Nat} (h : x = y) : ((x : Int) == (y : Int)) = true := by rw [h]; simp
theorem eqF {x y : Nat} (h : x ≠ y) : ((x : Int) == (y : Int)) = false := by rw [beq_eq_false_iff_ne]; omega
theorem neT {x y : Nat} (h : x ≠ y) : ((x : Int) != (y : Int)) = true := by rw [bne, eqF h]; rfl
theorem neF {x y : Nat} (h : x = y) : ((x : Int) != (y : Int)) = false := by rw [bne, eqT h]; rfl

set_option maxRecDepth 20000 in
set_option maxHeartbeats 400000 in
theorem order_any (a d : Nat) (w : World) (ha : a < 256) (h0 : a ≠ 0) (hd : IsOrd a d) :
    Calls Try.prog 13 #[.int .u8 (a : Int)] w fun e w' => e = .returned (.int .i64 d) ∧ w' = w := by
  have HD := hid hd.2.2
  have H1 := hid (pw_one ha)
  have hd1 := hd.1
  have hd2 := hd.2.1
  have hb0 : ((a : Int) == 0) = false := eqF (y := 0) h0
  clear hd h0
  go_enter Try.func13, Try.ntmps13
  go_wp2
  go_loop [3, 4] (fun n p => ∃ k x : Nat, 1 ≤ k ∧ k ≤ d ∧ x < 256 ∧ Hid (x = pw a k) ∧ n = .int .i64 k ∧ p = .int .u8 x) (fun n _ => d - (intOf n).toNat)
  case atStart => exact ⟨1, a, by omega, by omega, ha, hid H1.out.symm, rfl, rfl⟩
  case round =>
    obtain ⟨k, x, hk, hkd, hx, HX, rfl, rfl⟩ := hrel
    by_cases h1 : x = 1
    · have HE : Hid (k = d) := hid (by
        rcases Nat.lt_or_ge k d with h | h
        · exact absurd (by rw [← HX.out]; exact h1) (HD.out.2 k hk h)
        · omega)
      have hb := neF (y := 1) h1
      clear h1
      go_wp2
      go_ret
      exact ⟨ret_int (by rw [HE.out]), rfl⟩
    · have hne : k ≠ d := by
        rintro rfl
        exact h1 (by rw [HX.out]; exact HD.out.1)
      have hb := neT (y := 1) h1
      clear h1
      go_wp2_with (first | (go_at_call 8; (with_reducible refine (mul_any x a _ hx ha).mono ?_); rintro e w1 ⟨rfl, rfl⟩))
      go_round
      case rel => exact ⟨k + 1, _, by omega, by omega, gm_lt hx, hid (by rw [HX.out]; rfl), by go_num, rfl⟩
      case measure => simp [intOf]; omega

set_option maxHeartbeats 400000 in
theorem order_zero (w : World) :
    Calls Try.prog 13 #[.int .u8 0] w fun e w' => e = .returned (.int .i64 0) ∧ w' = w := by
  go_enter Try.func13, Try.ntmps13
  go_wp2
  go_ret
  exact ⟨rfl, rfl⟩

set_option maxRecDepth 20000 in
set_option maxHeartbeats 400000 in
theorem reforder_any (a d : Nat) (w : World) (ha : a < 256) (hd : IsOrd a d) :
    Calls Try.prog 14 #[.int .u8 (a : Int)] w fun e w' => e = .returned (.int .i64 d) ∧ w' = w := by
  have HD := hid hd.2.2
  have H1 := hid (pw_one ha)
  have hd1 := hd.1
  have hd2 := hd.2.1
  clear hd
  go_enter Try.func14, Try.ntmps14
  go_wp2
  go_loop [3, 4] (fun p n => ∃ k x : Nat, 1 ≤ k ∧ k ≤ d ∧ x < 256 ∧ Hid (x = pw a k) ∧ n = .int .i64 k ∧ p = .int .u8 x) (fun _ n => d - (intOf n).toNat)
  case atStart => exact ⟨1, a, by omega, by omega, ha, hid H1.out.symm, rfl, rfl⟩
  case round =>
    obtain ⟨k, x, hk, hkd, hx, HX, rfl, rfl⟩ := hrel
    by_cases h1 : x = 1
    · have HE : Hid (k = d) := hid (by
        rcases Nat.lt_or_ge k d with h | h
        · exact absurd (by rw [← HX.out]; exact h1) (HD.out.2 k hk h)
        · omega)
      have hb := eqT (y := 1) h1
      clear h1
      go_wp2
      go_ret
      exact ⟨ret_int (by rw [HE.out]), rfl⟩
    · have hne : k ≠ d := by
        rintro rfl
        exact h1 (by rw [HX.out]; exact HD.out.1)
      have hb := eqF (y := 1) h1
      clear h1
      go_wp2_with (first | (go_at_call 7; (with_reducible refine (refmul_any x a _ hx ha).mono ?_); rintro e w1 ⟨rfl, rfl⟩))
      go_round
      case rel => exact ⟨k + 1, _, by omega, by omega, gm_lt hx, hid (by rw [HX.out]; rfl), by go_num, rfl⟩
      case measure => simp [intOf]; omega

theorem refmul_zero (w : World) :
    Calls Try.prog 7 #[.int .u8 0, .int .u8 0] w fun e w' => e = .returned (.int .u8 0) ∧ w' = w := by
  have := refmul_any 0 0 w (by decide) (by decide)
  rw [zero_gm] at this
  exact this

set_option maxRecDepth 20000 in
set_option maxHeartbeats 400000 in
theorem reforder_zero (w : World) :
    Calls Try.prog 14 #[.int .u8 0] w fun e w' => e = .returned (.int .i64 0) ∧ w' = w := by
  go_enter Try.func14, Try.ntmps14
  go_wp2
  go_loop [3, 4] (fun p n => ∃ k : Nat, k ≤ 256 ∧ n = .int .i64 k ∧ p = .int .u8 0) (fun _ n => 256 - (intOf n).toNat)
  case atStart => exact ⟨1, by omega, rfl, rfl⟩
  case round =>
    obtain ⟨k, hk, rfl, rfl⟩ := hrel
    by_cases h : k < 256
    · go_wp2_with (first | (go_at_call 7; (with_reducible refine (refmul_zero _).mono ?_); rintro e w1 ⟨rfl, rfl⟩))
      go_round
      case rel => exact ⟨k + 1, by omega, by go_num, rfl⟩
      case measure => simp [intOf]; omega
    · obtain rfl : k = 256 := by omega
      go_wp2
      go_ret
      exact ⟨rfl, rfl⟩

theorem mul3_any (x : Nat) (w : World) (hx : x < 256) :
    Calls Try.prog 8 #[.int .u8 (x : Int), .int .u8 3] w fun e w' => e = .returned (.int .u8 (gm x 3 : Nat)) ∧ w' = w := mul_any x 3 w hx (by decide)

set_option maxRecDepth 20000 in
set_option maxHeartbeats 400000 in
theorem log_any (a l : Nat) (w : World) (ha : a < 256) (h0 : a ≠ 0) (hl : IsLog a l) :
    Calls Try.prog 16 #[.int .u8 (a : Int)] w fun e w' => e = .returned (.tuple #[.int .i64 l, .bool true]) ∧ w' = w := by
  have HL := hid hl.2
  have hl1 := hl.1
  have hb0 : ((a : Int) == 0) = false := eqF (y := 0) h0
  clear hl h0
  go_enter Try.func16, Try.ntmps16
  go_wp2
  go_loop [4, 5] (fun n p => ∃ k x : Nat, k ≤ l ∧ x < 256 ∧ Hid (x = pw 3 k) ∧ n = .int .i64 k ∧ p = .int .u8 x) (fun n _ => l - (intOf n).toNat)
  case atStart => exact ⟨0, 1, by omega, by omega, hid rfl, rfl, rfl⟩
  case round =>
    obtain ⟨k, x, hk, hx, HX, rfl, rfl⟩ := hrel
    by_cases h1 : x = a
    · have HE : Hid (k = l) := hid (by
        rcases Nat.lt_or_ge k l with h | h
        · exact absurd (by rw [← HX.out]; exact h1) (HL.out.2 k h)
        · omega)
      have hb := neF h1
      clear h1
      go_wp2
      go_ret2
      exact ⟨by rw [HE.out]; rfl, rfl⟩
    · have hne : k ≠ l := by
        rintro rfl
        exact h1 (by rw [HX.out]; exact HL.out.1)
      have hb := neT h1
      clear h1
      go_wp2_with (first | (go_at_call 8; (with_reducible refine (mul3_any x _ hx).mono ?_); rintro e w1 ⟨rfl, rfl⟩))
      go_round
      case rel => exact ⟨k + 1, _, by omega, gm_lt hx, hid (by rw [HX.out]; rfl), by go_num, rfl⟩
      case measure => simp [intOf]; omega

set_option maxHeartbeats 400000 in
theorem log_zero (w : World) :
    Calls Try.prog 16 #[.int .u8 0] w fun e w' => e = .returned (.tuple #[.int .i64 0, .bool false]) ∧ w' = w := by
  go_enter Try.func16, Try.ntmps16
  go_wp2
  go_ret2
  exact ⟨rfl, rfl⟩
end Go.Proofs.Ytdbfgjpijibkfaa
