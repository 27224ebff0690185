import Derived.Test.YtfomgomdhejfbaaProg
import Derived.Test.YtfomgomdhejfbaaNba
namespace Go.Proofs.Ytfomgomdhejfbaa
open Go.RowKit

theorem nsq_all : ∀ a : Nat, a < 256 → bits .or .u8 (bits .or .u8 (bits .or .u8 (bits .and .u8 ((a : Int) / 8) 1 * 8 % 256)
    (bits .xor .u8 (bits .and .u8 ((a : Int) / 2) 1) (bits .and .u8 ((a : Int) / 8) 1) * 4 % 256)) (bits .and .u8 ((a : Int) / 4) 1 * 2 % 256))
    (bits .xor .u8 (bits .and .u8 (a : Int) 1) (bits .and .u8 ((a : Int) / 4) 1)) = ((nm a a : Nat) : Int) := by decide +kernel
set_option maxHeartbeats 400000 in
theorem nsquare_any (a : Nat) (w : World) (ha : a < 256) :
    Calls Try.prog 31 #[.int .u8 (a : Int)] w fun e w' => e = .returned (.int .u8 (nm a a : Nat)) ∧ w' = w := by
  go_enter Try.func31, Try.ntmps31
  go_wp2
  go_ret
  refine ⟨ret_int ?_, rfl⟩
  exact nsq_all a ha

set_option maxHeartbeats 400000 in
theorem npow_any (a : Nat) (n : Int) (w : World) (ha : a < 256) (hn : n ≤ 9223372036854775807) :
    Calls Try.prog 37 #[.int .u8 (a : Int), .int .i64 n] w fun e w' => e = .returned (.int .u8 (npwi a n : Nat)) ∧ w' = w := by
  by_cases h : n < 0
  · have H := hid (npwi_neg a h)
    go_enter Try.func37, Try.ntmps37
    go_wp2
    go_ret
    exact ⟨ret_int (by rw [H.out]; rfl), rfl⟩
  · obtain ⟨m, rfl⟩ := Int.eq_ofNat_of_zero_le (show 0 ≤ n by omega)
    have HP := hid (npwi_nat a m)
    have hm : m < 9223372036854775808 := by omega
    clear h hn
    go_enter Try.func37, Try.ntmps37
    go_wp2
    go_loop [0, 1, 5] (fun x y s => ∃ A N p : Nat, N < 9223372036854775808 ∧ Hid (NPowInv a m A N p) ∧ x = .int .u8 A ∧ y = .int .i64 N ∧ s = .int .u8 p) (fun _ y _ => (intOf y).toNat)
    case atStart => exact ⟨a, m, 1, hm, hid (.start m ha), rfl, rfl, rfl⟩
    case round =>
      obtain ⟨A, N, p, hN, HI, rfl, rfl, rfl⟩ := hrel
      have hA := HI.out.1
      have hp := HI.out.2.1
      by_cases h0 : N = 0
      · subst h0
        go_wp2
        go_ret
        exact ⟨ret_int (by rw [HP.out, HI.out.done]), rfl⟩
      · by_cases h1 : N % 2 = 1
        · have hb1 := odd64 hN h1
          go_wp2_with (first | (go_at_call 29; (with_reducible refine (nmul_any p A _ (Nat.lt_of_lt_of_le hp (by decide)) hA).mono ?_); rintro e w1 ⟨rfl, rfl⟩) | (go_at_call 31; (with_reducible refine (nsquare_any A _ hA).mono ?_); rintro e w1 ⟨rfl, rfl⟩))
          go_round
          case rel => exact ⟨_, N / 2, _, by omega, hid (HI.out.odd h1), rfl, by simp, rfl⟩
          case measure => simp [intOf]; omega
        · have hb1 := even64 hN h1
          go_wp2_with (first | (go_at_call 31; (with_reducible refine (nsquare_any A _ hA).mono ?_); rintro e w1 ⟨rfl, rfl⟩))
          go_round
          case rel => exact ⟨_, N / 2, _, by omega, hid (HI.out.even h1), rfl, by simp, rfl⟩
          case measure => simp [intOf]; omega

end Go.Proofs.Ytfomgomdhejfbaa
