import Derived.Test.YtmggmjilgjogfaaProg
import Derived.Test.YtmggmjilgjogfaaGfb
namespace Go.Proofs.Ytmggmjilgjogfaa
open Go.RowKit

set_option maxHeartbeats 400000 in
theorem inv_any (a : Nat) (w : World) (ha : a < 256) :
    Calls Try.prog 28 #[.int .u8 (a : Int)] w fun e w' => e = .returned (.int .u8 (pw a 254 : Nat)) ∧ w' = w := by
  have HP := hid (pwi_nat a 254)
  go_enter Try.func28, Try.ntmps28
  go_wp2_with (first | (go_at_call 36; (with_reducible refine (pow_any a 254 _ ha (by decide)).mono ?_); rintro e w1 ⟨rfl, rfl⟩))
  go_ret
  exact ⟨ret_int (by rw [← HP.out]; rfl), rfl⟩

theorem pow3_any (m : Nat) (w : World) (hm : (m : Int) ≤ 9223372036854775807) :
    Calls Try.prog 36 #[.int .u8 3, .int .i64 m] w fun e w' => e = .returned (.int .u8 (pwi 3 m : Nat)) ∧ w' = w := pow_any 3 m w (by decide) hm
/-- The power n modulo 255 of 3. -/
def ex (n : Int) : Nat := pw 3 (n % 255).toNat
theorem ex_lt (n : Int) : ex n < 256 := pw_lt (by decide) _
theorem ex_nat (n : Nat) : ex n = pw 3 n := by
  unfold ex
  rw [show ((n : Int) % 255).toNat = n % 255 by omega]
  exact pw_mod (by decide) (by decide) n

theorem mul_one_case (w : World) : Calls Try.prog 45 #[.int .u8 87, .int .u8 131] w fun e w' => e = .returned (.int .u8 193) ∧ w' = w := by
  have H : ((gm 87 131 : Nat) : Int) = 193 := by decide +kernel
  have := mul_any 87 131 w (by decide) (by decide)
  rw [H] at this
  exact this
theorem inv_one_case (w : World) : Calls Try.prog 28 #[.int .u8 2] w fun e w' => e = .returned (.int .u8 141) ∧ w' = w := by
  have H : ((pw 2 254 : Nat) : Int) = 141 := by decide +kernel
  have := inv_any 2 w (by decide)
  rw [H] at this
  exact this
end Go.Proofs.Ytmggmjilgjogfaa
