import Derived.Test.YtmggmjilgjogfaaProg
import Derived.Test.YtmggmjilgjogfaaLib
import Derived.Test.YtmggmjilgjogfaaNbm
namespace Go.Proofs.Ytmggmjilgjogfaa
open Go.RowKit

set_option maxHeartbeats 400000 in
theorem ntwice_any (a : Nat) (w : World) (ha : a < 16) :
    Calls Try.prog 72 #[.int .u8 (a : Int)] w fun e w' => e = .returned (.int .u8 (ntw a : Nat)) ∧ w' = w := by
  by_cases h : a < 8
  · have H := hid (show ntw a = 2 * a from if_pos h)
    go_enter Try.func72, Try.ntmps72
    go_wp2
    go_ret
    exact ⟨ret_int (by rw [H.out]; omega), rfl⟩
  · have H := hid (show ntw a = (2 * a) ^^^ 19 from if_neg h)
    go_enter Try.func72, Try.ntmps72
    go_wp2
    go_ret
    refine ⟨ret_int ?_, rfl⟩
    rw [H.out, show ((a : Int) * 2) = ((2 * a : Nat) : Int) by omega]
    exact xor8 (b := 19) (by omega) (by decide)

set_option maxHeartbeats 400000 in
theorem nmul_any (a b : Nat) (w : World) (ha : a < 256) (hb : b < 256) :
    Calls Try.prog 63 #[.int .u8 (a : Int), .int .u8 (b : Int)] w fun e w' => e = .returned (.int .u8 (nm a b : Nat)) ∧ w' = w := by
  go_enter Try.func63, Try.ntmps63
  go_wp2
  go_loop [0, 1, 5] (fun x y s => ∃ A B S : Nat, NMulInv a b A B S ∧ x = .int .u8 A ∧ y = .int .u8 B ∧ s = .int .u8 S) (fun _ y _ => (intOf y).toNat)
  case atStart => exact ⟨a % 16, b % 16, 0, .start a b, by go_num, by go_num, rfl⟩
  case round =>
    obtain ⟨A, B, S, hI, rfl, rfl, rfl⟩ := hrel
    have hA := hI.1
    have hB := hI.2.1
    have hS := hI.2.2.1
    have HI := hid hI
    clear hI
    by_cases h0 : B = 0
    · subst h0
      go_wp2
      go_ret
      exact ⟨ret_int (by rw [HI.out.done]), rfl⟩
    · by_cases h1 : B % 2 = 1
      · have hb1 := odd8 (show B < 256 by omega) h1
        go_wp2_with (first | (go_at_call 72; refine (ntwice_any A _ hA).mono ?_; rintro e w1 ⟨rfl, rfl⟩))
        go_round
        case rel => exact ⟨_, B / 2, S ^^^ A, HI.out.odd h1, rfl, by simp, by rw [xor8 (by omega) (by omega)]⟩
        case measure => simp [intOf]; omega
      · have hb1 := even8 (show B < 256 by omega) h1
        go_wp2_with (first | (go_at_call 72; refine (ntwice_any A _ hA).mono ?_; rintro e w1 ⟨rfl, rfl⟩))
        go_round
        case rel => exact ⟨_, B / 2, S, HI.out.even h1 h0, rfl, by simp, rfl⟩
        case measure => simp [intOf]; omega

theorem shl_19 : ∀ k < 3, wrap64 (19 * 2 ^ k) = ((19 * 2 ^ k : Nat) : Int) := by decide +kernel
theorem pow_le_8 {j : Nat} (h : j < 4) : 2 ^ j ≤ 8 := Nat.le_trans (Nat.pow_le_pow_right (by decide) (show j ≤ 3 by omega)) (by decide)

set_option maxHeartbeats 400000 in
theorem nrefmul_any (a b : Nat) (w : World) (ha : a < 256) (hb : b < 256) :
    Calls Try.prog 26 #[.int .u8 (a : Int), .int .u8 (b : Int)] w fun e w' => e = .returned (.int .u8 (nm a b : Nat)) ∧ w' = w := by
  have HG := hid (ndoc a hb)
  have HC := hid (nclF_lt b (lt16 a))
  have ht1 : ((a : Int) % 16) = ((a % 16 : Nat) : Int) := by omega
  have HT := hid ht1
  clear ht1
  go_enter Try.func26, Try.ntmps26
  go_wp2
  go_loop [5, 6, 7] (fun n x i => ∃ j X N : Nat, j ≤ 4 ∧ X < 256 ∧ N < 256 ∧ Hid (X = (a % 16) * 2 ^ j) ∧ Hid (N = nclF (a % 16) b j) ∧ i = .int .i64 j ∧ x = .int .i64 X ∧ n = .int .i64 N) (fun _ _ i => 4 - (intOf i).toNat)
  case atStart => exact ⟨0, a % 16, 0, by omega, by omega, by omega, hid (by simp), hid rfl, rfl, by go_num, rfl⟩
  case round =>
    obtain ⟨j, X, N, hj, hX, hN, HX, HN, rfl, rfl, rfl⟩ := hrel
    by_cases h8 : j < 4
    · have HX2 : Hid (X * 2 = (a % 16) * 2 ^ (j + 1)) := hid (by rw [HX.out, Nat.pow_succ, Nat.mul_assoc])
      have hX2 : X * 2 < 256 := by
        have := pow_le_8 h8
        have := Nat.mul_le_mul (show a % 16 ≤ 15 by omega) this
        rw [HX.out]; omega
      by_cases hb1 : b / 2 ^ j % 2 = 1
      · have HN2 : Hid (N ^^^ X = nclF (a % 16) b (j + 1)) := hid (by rw [nclF, if_pos hb1, HN.out, HX.out])
        have hN2 : N ^^^ X < 256 := xor_lt hN hX
        have ht := bitT hb1
        clear hb1
        go_wp2
        go_round
        case rel => exact ⟨j + 1, X * 2, N ^^^ X, by omega, hX2, hN2, HX2, HN2, by go_num, by go_num, by rw [xor64 (by omega) (by omega)]⟩
        case measure => simp [intOf]; omega
      · have HN2 : Hid (N = nclF (a % 16) b (j + 1)) := hid (by rw [nclF, if_neg hb1]; exact HN.out)
        have ht := bitF hb1
        clear hb1
        go_wp2
        go_round
        case rel => exact ⟨j + 1, X * 2, N, by omega, hX2, hN, HX2, HN2, by go_num, by go_num, rfl⟩
        case measure => simp [intOf]; omega
    · obtain rfl : j = 4 := by omega
      have HN8 : Hid (N = nrdF (nclF (a % 16) b 4) (6 - 6)) := hid HN.out
      clear HX HN h8
      go_wp2
      go_loop [5, 8] (fun n i => ∃ i' N : Nat, 3 ≤ i' ∧ i' ≤ 6 ∧ N < 256 ∧ Hid (N = nrdF (nclF (a % 16) b 4) (6 - i')) ∧ i = .int .i64 i' ∧ n = .int .i64 N) (fun _ i => (intOf i).toNat)
      case atStart => exact ⟨6, N, by omega, by omega, hN, HN8, rfl, rfl⟩
      case round =>
        obtain ⟨i, M, hi, hi2, hM, HM, rfl, rfl⟩ := hrel
        by_cases h7 : 4 ≤ i
        · by_cases hb1 : M / 2 ^ i % 2 = 1
          · have HM2 : Hid (M ^^^ (19 * 2 ^ (i - 4)) = nrdF (nclF (a % 16) b 4) (6 - (i - 1))) := hid (by
              rw [show 6 - (i - 1) = (6 - i) + 1 by omega, nrdF, ← HM.out, show 6 - (6 - i) = i by omega, nrd, if_pos hb1])
            have hM2 : M ^^^ (19 * 2 ^ (i - 4)) < 256 := by
              have := nrdF_lt (HC.out 4 (by omega)) (6 - (i - 1))
              rw [HM2.out]; exact this
            have HS := hid (shl_19 (i - 4) (by omega))
            have hS : 19 * 2 ^ (i - 4) < 256 := by
              have := Nat.pow_le_pow_right (show 0 < 2 by decide) (show i - 4 ≤ 2 by omega)
              omega
            have ht := bitT hb1
            clear hb1
            go_wp2
            go_round
            case rel => exact ⟨i - 1, _, by omega, by omega, hM2, HM2, by go_num, by rw [HS.out, xor64 (by omega) (by omega)]⟩
            case measure => simp [intOf]; omega
          · have HM2 : Hid (M = nrdF (nclF (a % 16) b 4) (6 - (i - 1))) := hid (by
              rw [show 6 - (i - 1) = (6 - i) + 1 by omega, nrdF, ← HM.out, show 6 - (6 - i) = i by omega, nrd, if_neg hb1])
            have ht := bitF hb1
            clear hb1
            go_wp2
            go_round
            case rel => exact ⟨i - 1, _, by omega, by omega, hM, HM2, by go_num, rfl⟩
            case measure => simp [intOf]; omega
        · obtain rfl : i = 3 := by omega
          have HE : Hid (M = nm a b) := hid (by rw [HM.out]; exact HG.out)
          have hM2 : M < 16 := by rw [HE.out]; exact nm_lt a b
          go_wp2
          go_ret
          exact ⟨ret_int (by rw [← HE.out]), rfl⟩
end Go.Proofs.Ytmggmjilgjogfaa
