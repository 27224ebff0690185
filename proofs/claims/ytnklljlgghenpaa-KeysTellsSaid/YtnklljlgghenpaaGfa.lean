import Derived.Test.YtnklljlgghenpaaProg
import Derived.Test.YtnklljlgghenpaaLib
import Derived.Test.YtnklljlgghenpaaGfm
namespace Go.Proofs.Ytnklljlgghenpaa
open Go.RowKit



set_option maxHeartbeats 400000 in
theorem twice_any (a : Nat) (w : World) (ha : a < 256) :
    Calls Try.prog 26 #[.int .u8 (a : Int)] w fun e w' => e = .returned (.int .u8 (tw a : Nat)) ∧ w' = w := by
  by_cases h : a < 128
  · have H := hid (show tw a = 2 * a from if_pos h)
    go_enter Try.func26, Try.ntmps26
    go_wp2
    go_ret
    exact ⟨ret_int (by rw [H.out]; omega), rfl⟩
  · have H := hid (show tw a = (2 * a - 256) ^^^ 27 from if_neg h)
    go_enter Try.func26, Try.ntmps26
    go_wp2
    go_ret
    refine ⟨ret_int ?_, rfl⟩
    rw [H.out, show ((a : Int) * 2 % 256) = ((2 * a - 256 : Nat) : Int) by omega]
    exact xor8 (b := 27) (by omega) (by decide)

set_option maxHeartbeats 400000 in
theorem mul_any (a b : Nat) (w : World) (ha : a < 256) (hb : b < 256) :
    Calls Try.prog 19 #[.int .u8 (a : Int), .int .u8 (b : Int)] w fun e w' => e = .returned (.int .u8 (gm a b : Nat)) ∧ w' = w := by
  go_enter Try.func19, Try.ntmps19
  go_wp2
  go_loop [0, 1, 5] (fun x y s => ∃ A B S : Nat, MulInv a b A B S ∧ x = .int .u8 A ∧ y = .int .u8 B ∧ s = .int .u8 S) (fun _ y _ => (intOf y).toNat)
  case atStart => exact ⟨a, b, 0, .start ha hb, rfl, rfl, rfl⟩
  case round =>
    obtain ⟨A, B, S, hI, rfl, rfl, rfl⟩ := hrel
    have hA := hI.1
    have hB := hI.2.1
    have hS := hI.2.2.1
    have HI := hid hI
    clear hI
    by_cases h0 : B = 0
    · subst h0
      go_wp2
      go_ret
      exact ⟨ret_int (by rw [HI.out.done]), rfl⟩
    · by_cases h1 : B % 2 = 1
      · have hb1 := odd8 hB h1
        go_wp2_with (first | (go_at_call 26; refine (twice_any A _ hA).mono ?_; rintro e w1 ⟨rfl, rfl⟩))
        go_round
        case rel => exact ⟨_, B / 2, S ^^^ A, HI.out.odd h1, rfl, by simp, by rw [xor8 hS hA]⟩
        case measure => simp [intOf]; omega
      · have hb1 := even8 hB h1
        go_wp2_with (first | (go_at_call 26; refine (twice_any A _ hA).mono ?_; rintro e w1 ⟨rfl, rfl⟩))
        go_round
        case rel => exact ⟨_, B / 2, S, HI.out.even h1 h0, rfl, by simp, rfl⟩
        case measure => simp [intOf]; omega

theorem shl_283 : ∀ k < 7, wrap64 (283 * 2 ^ k) = ((283 * 2 ^ k : Nat) : Int) := by decide +kernel

set_option maxHeartbeats 400000 in
theorem refmul_any (a b : Nat) (w : World) (ha : a < 256) (hb : b < 256) :
    Calls Try.prog 20 #[.int .u8 (a : Int), .int .u8 (b : Int)] w fun e w' => e = .returned (.int .u8 (gm a b : Nat)) ∧ w' = w := by
  have HG := hid (doc_gm ha hb)
  have HC := hid (clF_lt b ha)
  go_enter Try.func20, Try.ntmps20
  go_wp2
  go_loop [5, 6, 7] (fun n x i => ∃ j X N : Nat, j ≤ 8 ∧ X < 65536 ∧ N < 65536 ∧ Hid (X = a * 2 ^ j) ∧ Hid (N = clF a b j) ∧ i = .int .i64 j ∧ x = .int .i64 X ∧ n = .int .i64 N) (fun _ _ i => 8 - (intOf i).toNat)
  case atStart => exact ⟨0, a, 0, by omega, by omega, by omega, hid (by simp), hid rfl, rfl, rfl, rfl⟩
  case round =>
    obtain ⟨j, X, N, hj, hX, hN, HX, HN, rfl, rfl, rfl⟩ := hrel
    by_cases h8 : j < 8
    · have HX2 : Hid (X * 2 = a * 2 ^ (j + 1)) := hid (by rw [HX.out, Nat.pow_succ, Nat.mul_assoc])
      have hX2 : X * 2 < 65536 := by
        have := pow_le_128 h8
        have := Nat.mul_le_mul (show a ≤ 255 by omega) this
        rw [HX.out]; omega
      by_cases hb1 : b / 2 ^ j % 2 = 1
      · have HN2 : Hid (N ^^^ X = clF a b (j + 1)) := hid (by rw [clF, if_pos hb1, HN.out, HX.out])
        have hN2 : N ^^^ X < 65536 := Nat.xor_lt_two_pow (n := 16) hN hX
        have ht := bitT hb1
        clear hb1
        go_wp2
        go_round
        case rel => exact ⟨j + 1, X * 2, N ^^^ X, by omega, hX2, hN2, HX2, HN2, by go_num, by go_num, by rw [xor64 (by omega) (by omega)]⟩
        case measure => simp [intOf]; omega
      · have HN2 : Hid (N = clF a b (j + 1)) := hid (by rw [clF, if_neg hb1]; exact HN.out)
        have ht := bitF hb1
        clear hb1
        go_wp2
        go_round
        case rel => exact ⟨j + 1, X * 2, N, by omega, hX2, hN, HX2, HN2, by go_num, by go_num, rfl⟩
        case measure => simp [intOf]; omega
    · obtain rfl : j = 8 := by omega
      have HN8 : Hid (N = rdF (clF a b 8) (14 - 14)) := hid HN.out
      clear HX HN h8
      go_wp2
      go_loop [5, 8] (fun n i => ∃ i' N : Nat, 7 ≤ i' ∧ i' ≤ 14 ∧ N < 65536 ∧ Hid (N = rdF (clF a b 8) (14 - i')) ∧ i = .int .i64 i' ∧ n = .int .i64 N) (fun _ i => (intOf i).toNat)
      case atStart => exact ⟨14, N, by omega, by omega, hN, HN8, rfl, rfl⟩
      case round =>
        obtain ⟨i, M, hi, hi2, hM, HM, rfl, rfl⟩ := hrel
        by_cases h7 : 8 ≤ i
        · by_cases hb1 : M / 2 ^ i % 2 = 1
          · have HM2 : Hid (M ^^^ (283 * 2 ^ (i - 8)) = rdF (clF a b 8) (14 - (i - 1))) := hid (by
              rw [show 14 - (i - 1) = (14 - i) + 1 by omega, rdF, ← HM.out, show 14 - (14 - i) = i by omega, rd, if_pos hb1])
            have hM2 : M ^^^ (283 * 2 ^ (i - 8)) < 65536 := by
              have := rdF_lt (HC.out 8 (by omega)) (14 - (i - 1))
              rw [HM2.out]; exact this
            have HS := hid (shl_283 (i - 8) (by omega))
            have hS : 283 * 2 ^ (i - 8) < 65536 := by
              have := Nat.pow_le_pow_right (show 0 < 2 by decide) (show i - 8 ≤ 6 by omega)
              omega
            have ht := bitT hb1
            clear hb1
            go_wp2
            go_round
            case rel => exact ⟨i - 1, _, by omega, by omega, hM2, HM2, by go_num, by rw [HS.out, xor64 (by omega) (by omega)]⟩
            case measure => simp [intOf]; omega
          · have HM2 : Hid (M = rdF (clF a b 8) (14 - (i - 1))) := hid (by
              rw [show 14 - (i - 1) = (14 - i) + 1 by omega, rdF, ← HM.out, show 14 - (14 - i) = i by omega, rd, if_neg hb1])
            have ht := bitF hb1
            clear hb1
            go_wp2
            go_round
            case rel => exact ⟨i - 1, _, by omega, by omega, hM, HM2, by go_num, rfl⟩
            case measure => simp [intOf]; omega
        · obtain rfl : i = 7 := by omega
          have HE : Hid (M = gm a b) := hid (by rw [HM.out]; exact HG.out)
          have hM2 : M < 256 := by rw [HE.out]; exact gm_lt ha
          go_wp2
          go_ret
          exact ⟨ret_int (by rw [← HE.out]), rfl⟩
end Go.Proofs.Ytnklljlgghenpaa
