import Derived.Test.YtfgbcohmbbjagaaProg
import Derived.Test.YtfgbcohmbbjagaaOcb
import Derived.Test.YtfgbcohmbbjagaaArw
import Derived.Test.YtfgbcohmbbjagaaAri
import Derived.Test.YtfgbcohmbbjagaaKcn
import Derived.Laws.Bits64
namespace Go.Proofs.Ytfgbcohmbbjagaa
open Go.RowKit

/-! ### words, rotated -/
theorem rotl_rt {x m : Nat} (hx : x < 2 ^ 64) (_hm : m < 64) : rotl (x : Int) m = (rt x m : Nat) := by
  unfold rotl rt
  have d : ((x : Int) / 2 ^ (64 - m)) = ((x / 2 ^ (64 - m) : Nat) : Int) := by simp
  have e : IntKind.u64.wrap ((x : Int) * 2 ^ m) = ((x * 2 ^ m % 2 ^ 64 : Nat) : Int) := by rw [wu64]; simp
  rw [e, d, bits_or_u64_nat _ _ (Nat.mod_lt _ (by decide)) (by have := Nat.div_le_self x (2 ^ (64 - m)); omega)]
theorem rot_to {x m : Nat} {k : Int} (hx : x < 2 ^ 64) (hk : k % 64 = m) (w : World) :
    Calls Try.prog 30 #[.int .u64 (x : Int), .int .i64 k] w fun e w' => e = .returned (.int .u64 (rt x m : Nat)) ∧ w' = w := by
  have h := orot_any (x : Int) k w (by omega)
  rw [show (k % 64).toNat = m by omega, rotl_rt hx (by omega)] at h
  exact h
theorem refrot_to {x m : Nat} {k : Int} (hx : x < 2 ^ 64) (hk : k % 64 = m) (w : World) :
    Calls Try.prog 29 #[.int .u64 (x : Int), .int .i64 k] w fun e w' => e = .returned (.int .u64 (rt x m : Nat)) ∧ w' = w := by
  have h := refrot_any (x : Int) k w (by omega)
  rw [show (k % 64).toNat = m by omega, ← rot_math _ (by omega) m (by omega), rotl_rt hx (by omega)] at h
  exact h

/-! ### places -/
theorem place_any (x y : Nat) (w : World) (hx : x < 1000000) (hy : y < 1000000) :
    Calls Try.prog 27 #[.int .i64 (x : Int), .int .i64 (y : Int)] w fun e w' => e = .returned (.int .i64 ((x % 5 + 5 * (y % 5) : Nat) : Int)) ∧ w' = w := by
  go_enter Try.func27, Try.ntmps27
  go_wp2
  go_ret
  exact ⟨ret_int (by omega), rfl⟩
theorem target_any (i : Nat) (w : World) (hi : i < 25) :
    Calls Try.prog 31 #[.int .i64 (i : Int)] w fun e w' => e = .returned (.int .i64 (dst i : Nat)) ∧ w' = w := by
  have HD : Hid (dst i = (i / 5) % 5 + 5 * ((2 * (i % 5) + 3 * (i / 5)) % 5)) := hid (by unfold dst; omega)
  have HP := hid (place_any (i / 5) (2 * (i % 5) + 3 * (i / 5)) w (by omega) (by omega))
  go_enter Try.func31, Try.ntmps31
  go_wp2_with (first | (go_at_call 27; refine (HP.out).mono ?_; rintro e w1 ⟨rfl, rfl⟩))
  go_ret
  exact ⟨ret_int (by rw [HD.out]; push_cast; rfl), rfl⟩
theorem inside_any (x : Int) (w : World) :
    Calls Try.prog 25 #[.int .i64 x] w fun e w' => e = .returned (.bool (decide (0 ≤ x ∧ x < 5))) ∧ w' = w := by
  by_cases h0 : 0 ≤ x
  · by_cases h1 : x < 5
    · go_enter Try.func25, Try.ntmps25
      go_wp2
      go_ret
      exact ⟨ret_bool (by simp; omega), rfl⟩
    · go_enter Try.func25, Try.ntmps25
      go_wp2
      go_ret
      exact ⟨ret_bool (by simp; omega), rfl⟩
  · go_enter Try.func25, Try.ntmps25
    go_wp2
    go_ret
    exact ⟨ret_bool (by simp; omega), rfl⟩
set_option maxRecDepth 100000 in
theorem next_any (r : Nat) (w : World) (hr : r < 256) :
    Calls Try.prog 33 #[.int .u8 (r : Int)] w fun e w' => e = .returned (.int .u8 (nxt r : Nat)) ∧ w' = w := by
  by_cases h : 128 ≤ r
  · have HX := hid (show bits .xor .u8 ((r * 2 % 256 : Nat) : Int) ((113 : Nat) : Int) = ((nxt r : Nat) : Int) by
      rw [xor8 (by omega) (by decide)]; unfold nxt; rw [if_pos h])
    go_enter Try.func33, Try.ntmps33
    go_wp2
    go_ret
    exact ⟨ret_int (by rw [← HX.out]; congr 1), rfl⟩
  · have HX := hid (show nxt r = r * 2 by unfold nxt; rw [if_neg h])
    go_enter Try.func33, Try.ntmps33
    go_wp2
    go_ret
    exact ⟨ret_int (by rw [HX.out]; omega), rfl⟩
end Go.Proofs.Ytfgbcohmbbjagaa
