import Derived.Test.YtaalfbdlefmaoaaProg
import Derived.Test.YtaalfbdlefmaoaaNba
namespace Go.Proofs.Ytaalfbdlefmaoaa
open Go.RowKit

theorem nsq_all : ∀ a : Nat, a < 256 → bits .or .u8 (bits .or .u8 (bits .or .u8 (bits .and .u8 ((a : Int) / 8) 1 * 8 % 256)
    (bits .xor .u8 (bits .and .u8 ((a : Int) / 2) 1) (bits .and .u8 ((a : Int) / 8) 1) * 4 % 256)) (bits .and .u8 ((a : Int) / 4) 1 * 2 % 256))
    (bits .xor .u8 (bits .and .u8 (a : Int) 1) (bits .and .u8 ((a : Int) / 4) 1)) = ((nm a a : Nat) : Int) := by decide +kernel
set_option maxHeartbeats 400000 in
theorem nsquare_any (a : Nat) (w : World) (ha : a < 256) :
    Calls Try.prog 8 #[.int .u8 (a : Int)] w fun e w' => e = .returned (.int .u8 (nm a a : Nat)) ∧ w' = w := by
  go_enter Try.func8, Try.ntmps8
  go_wp2
  go_ret
  refine ⟨ret_int ?_, rfl⟩
  exact nsq_all a ha

set_option maxHeartbeats 400000 in
theorem npow_any (a : Nat) (n : Int) (w : World) (ha : a < 256) (hn : n ≤ 9223372036854775807) :
    Calls Try.prog 9 #[.int .u8 (a : Int), .int .i64 n] w fun e w' => e = .returned (.int .u8 (npwi a n : Nat)) ∧ w' = w := by
  by_cases h : n < 0
  · have H := hid (npwi_neg a h)
    go_enter Try.func9, Try.ntmps9
    go_wp2
    go_ret
    exact ⟨ret_int (by rw [H.out]; rfl), rfl⟩
  · obtain ⟨m, rfl⟩ := Int.eq_ofNat_of_zero_le (show 0 ≤ n by omega)
    have HP := hid (npwi_nat a m)
    have hm : m < 9223372036854775808 := by omega
    clear h hn
    go_enter Try.func9, Try.ntmps9
    go_wp2
    go_loop [0, 1, 5] (fun x y s => ∃ A N p : Nat, N < 9223372036854775808 ∧ Hid (NPowInv a m A N p) ∧ x = .int .u8 A ∧ y = .int .i64 N ∧ s = .int .u8 p) (fun _ y _ => (intOf y).toNat)
    case atStart => exact ⟨a, m, 1, hm, hid (.start m ha), rfl, rfl, rfl⟩
    case round =>
      obtain ⟨A, N, p, hN, HI, rfl, rfl, rfl⟩ := hrel
      have hA := HI.out.1
      have hp := HI.out.2.1
      by_cases h0 : N = 0
      · subst h0
        go_wp2
        go_ret
        exact ⟨ret_int (by rw [HP.out, HI.out.done]), rfl⟩
      · by_cases h1 : N % 2 = 1
        · have hb1 := odd64 hN h1
          go_wp2_with (first | (go_at_call 6; (with_reducible refine (nmul_any p A _ (Nat.lt_of_lt_of_le hp (by decide)) hA).mono ?_); rintro e w1 ⟨rfl, rfl⟩) | (go_at_call 8; (with_reducible refine (nsquare_any A _ hA).mono ?_); rintro e w1 ⟨rfl, rfl⟩))
          go_round
          case rel => exact ⟨_, N / 2, _, by omega, hid (HI.out.odd h1), rfl, by simp, rfl⟩
          case measure => simp [intOf]; omega
        · have hb1 := even64 hN h1
          go_wp2_with (first | (go_at_call 8; (with_reducible refine (nsquare_any A _ hA).mono ?_); rintro e w1 ⟨rfl, rfl⟩))
          go_round
          case rel => exact ⟨_, N / 2, _, by omega, hid (HI.out.even h1), rfl, by simp, rfl⟩
          case measure => simp [intOf]; omega

set_option maxHeartbeats 400000 in
theorem nrefpow_any (a : Nat) (n : Int) (w : World) (ha : a < 256) (hn : n ≤ 9223372036854775807) :
    Calls Try.prog 10 #[.int .u8 (a : Int), .int .i64 n] w fun e w' => e = .returned (.int .u8 (npwi a n : Nat)) ∧ w' = w := by
  by_cases h : n < 0
  · have H := hid (npwi_neg a h)
    go_enter Try.func10, Try.ntmps10
    go_wp2
    go_ret
    exact ⟨ret_int (by rw [H.out]; rfl), rfl⟩
  · obtain ⟨m, rfl⟩ := Int.eq_ofNat_of_zero_le (show 0 ≤ n by omega)
    have HP := hid (npwi_nat a m)
    have hm : m < 9223372036854775808 := by omega
    clear h hn
    by_cases h0 : m = 0
    · subst h0
      go_enter Try.func10, Try.ntmps10
      go_wp2
      go_ret
      exact ⟨ret_int (by rw [HP.out]; rfl), rfl⟩
    · have HF := hid (npw_few a m (by omega))
      obtain ⟨k, hk, hk2⟩ : ∃ k : Nat, (m - 1) % 15 = k ∧ k < 15 := ⟨_, rfl, by omega⟩
      rw [hk] at HF
      have ht : ((m : Int) - 1).tmod 15 = k := by rw [Int.tmod_eq_emod_of_nonneg (by omega)]; omega
      clear hk
      have HL := hid (npw_lt a)
      have hb0 : ((m : Int) == 0) = false := by rw [beq_eq_false_iff_ne]; omega
      go_enter Try.func10, Try.ntmps10
      go_wp2
      go_loop [5, 6] (fun x i => ∃ j p : Nat, j ≤ k + 1 ∧ p < 16 ∧ Hid (p = npw a j) ∧ i = .int .i64 j ∧ x = .int .u8 p) (fun _ i => k + 1 - (intOf i).toNat)
      case atStart => exact ⟨0, 1, by omega, by omega, hid rfl, rfl, rfl⟩
      case round =>
        obtain ⟨j, p, hj, hp, Hp, rfl, rfl⟩ := hrel
        by_cases hlt : j < k + 1
        · go_wp2_with (first | (go_at_call 7; (with_reducible refine (nrefmul_any p a _ (Nat.lt_of_lt_of_le hp (by decide)) ha).mono ?_); rintro e w1 ⟨rfl, rfl⟩))
          go_round
          case rel => exact ⟨j + 1, _, by omega, nm_lt _ _, hid (by rw [Hp.out]; rfl), by go_num, rfl⟩
          case measure => simp [intOf]; omega
        · obtain rfl : j = k + 1 := by omega
          go_wp2
          go_ret
          exact ⟨ret_int (by rw [HP.out, Hp.out, HF.out]), rfl⟩
end Go.Proofs.Ytaalfbdlefmaoaa
