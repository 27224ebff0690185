import Derived.Test.YtfomgomdhejfbaaProg
import Derived.Test.YtfomgomdhejfbaaNbb
namespace Go.Proofs.Ytfomgomdhejfbaa
open Go.RowKit

set_option maxHeartbeats 400000 in
theorem ninv_any (a : Nat) (w : World) (ha : a < 256) :
    Calls Try.prog 23 #[.int .u8 (a : Int)] w fun e w' => e = .returned (.int .u8 (npw a 14 : Nat)) ∧ w' = w := by
  have HP := hid (npwi_nat a 14)
  go_enter Try.func23, Try.ntmps23
  go_wp2_with (first | (go_at_call 37; (with_reducible refine (npow_any a 14 _ ha (by decide)).mono ?_); rintro e w1 ⟨rfl, rfl⟩))
  go_ret
  exact ⟨ret_int (by rw [← HP.out]; rfl), rfl⟩

theorem nsq_to {a c : Nat} (ha : a < 256) (h : nm a a = c) (w : World) :
    Calls Try.prog 31 #[.int .u8 (a : Int)] w fun e w' => e = .returned (.int .u8 (c : Nat)) ∧ w' = w := by
  have := nsquare_any a w ha
  rw [h] at this
  exact this

theorem nmul_one_case (w : World) : Calls Try.prog 29 #[.int .u8 8, .int .u8 2] w fun e w' => e = .returned (.int .u8 3) ∧ w' = w := by
  have H : ((nm 8 2 : Nat) : Int) = 3 := by decide +kernel
  have := nmul_any 8 2 w (by decide) (by decide)
  rw [H] at this
  exact this
end Go.Proofs.Ytfomgomdhejfbaa
