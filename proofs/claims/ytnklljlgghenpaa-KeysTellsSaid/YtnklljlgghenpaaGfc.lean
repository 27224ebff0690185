import Derived.Test.YtnklljlgghenpaaProg
import Derived.Test.YtnklljlgghenpaaGfb
namespace Go.Proofs.Ytnklljlgghenpaa
open Go.RowKit

set_option maxHeartbeats 400000 in
theorem inv_any (a : Nat) (w : World) (ha : a < 256) :
    Calls Try.prog 36 #[.int .u8 (a : Int)] w fun e w' => e = .returned (.int .u8 (pw a 254 : Nat)) ∧ w' = w := by
  have HP := hid (pwi_nat a 254)
  go_enter Try.func36, Try.ntmps36
  go_wp2_with (first | (go_at_call 13; (with_reducible refine (pow_any a 254 _ ha (by decide)).mono ?_); rintro e w1 ⟨rfl, rfl⟩))
  go_ret
  exact ⟨ret_int (by rw [← HP.out]; rfl), rfl⟩

theorem pow3_any (m : Nat) (w : World) (hm : (m : Int) ≤ 9223372036854775807) :
    Calls Try.prog 13 #[.int .u8 3, .int .i64 m] w fun e w' => e = .returned (.int .u8 (pwi 3 m : Nat)) ∧ w' = w := pow_any 3 m w (by decide) hm
theorem refpow3_any (m : Nat) (w : World) (hm : (m : Int) ≤ 9223372036854775807) :
    Calls Try.prog 14 #[.int .u8 3, .int .i64 m] w fun e w' => e = .returned (.int .u8 (pwi 3 m : Nat)) ∧ w' = w := refpow_any 3 m w (by decide) hm
/-- The power n modulo 255 of 3. -/
def ex (n : Int) : Nat := pw 3 (n % 255).toNat
theorem ex_lt (n : Int) : ex n < 256 := pw_lt (by decide) _
theorem ex_nat (n : Nat) : ex n = pw 3 n := by
  unfold ex
  rw [show ((n : Int) % 255).toNat = n % 255 by omega]
  exact pw_mod (by decide) (by decide) n

theorem mul_one_case (w : World) : Calls Try.prog 19 #[.int .u8 87, .int .u8 131] w fun e w' => e = .returned (.int .u8 193) ∧ w' = w := by
  have H : ((gm 87 131 : Nat) : Int) = 193 := by decide +kernel
  have := mul_any 87 131 w (by decide) (by decide)
  rw [H] at this
  exact this
theorem inv_one_case (w : World) : Calls Try.prog 36 #[.int .u8 2] w fun e w' => e = .returned (.int .u8 141) ∧ w' = w := by
  have H : ((pw 2 254 : Nat) : Int) = 141 := by decide +kernel
  have := inv_any 2 w (by decide)
  rw [H] at this
  exact this
set_option maxRecDepth 20000 in
set_option maxHeartbeats 400000 in
theorem refinv_any (a : Nat) (w : World) (ha : a < 256) :
    Calls Try.prog 18 #[.int .u8 (a : Int)] w fun e w' => e = .returned (.int .u8 (pw a 254 : Nat)) ∧ w' = w := by
  have HO : Hid (∀ b, b < 256 → gm a b = 1 → b = pw a 254) := hid (fun b hb h => inv_only ha hb h)
  have HU : Hid (a ≠ 0 → gm a (pw a 254) = 1) := hid (gm_inv ha)
  have HZ : Hid (a = 0 → pw a 254 = 0) := hid (by rintro rfl; exact pw_zero (by decide))
  have HB : Hid (pw a 254 < 256) := hid (pw_lt ha _)
  have HB2 : Hid (a ≠ 0 → 1 ≤ pw a 254) := hid (inv_pos ha)
  obtain ⟨v, hv⟩ : ∃ v, v = pw a 254 := ⟨_, rfl⟩
  rw [← hv] at HO HU HZ HB HB2 ⊢
  clear hv
  go_enter Try.func18, Try.ntmps18
  go_wp2
  go_loop [3] (fun i => ∃ j : Nat, j ≤ 256 ∧ Hid (a ≠ 0 → j ≤ v) ∧ i = .int .i64 j) (fun i => 256 - (intOf i).toNat)
  case atStart => exact ⟨1, by omega, HB2, rfl⟩
  case round =>
    obtain ⟨j, hj, HJ, rfl⟩ := hrel
    by_cases hlt : j < 256
    · by_cases h1 : gm a j = 1
      · have hb : (((gm a j : Nat) : Int) == 1) = true := by rw [h1]; rfl
        have HE := hid (HO.out j hlt h1)
        clear h1
        go_wp2_with (first | (go_at_call 20; (with_reducible refine (refmul_any a j _ ha hlt).mono ?_); rintro e w1 ⟨rfl, rfl⟩))
        go_ret
        exact ⟨ret_int (by rw [← HE.out]), rfl⟩
      · have hb : (((gm a j : Nat) : Int) == 1) = false := by rw [beq_eq_false_iff_ne]; omega
        have HN : Hid (a ≠ 0 → j + 1 ≤ v) := hid (fun h0 => by
          have := HJ.out h0
          rcases Nat.lt_or_ge j (v) with h | h
          · exact h
          · exact absurd (by rw [show j = v by omega]; exact HU.out h0) h1)
        clear h1
        go_wp2_with (first | (go_at_call 20; (with_reducible refine (refmul_any a j _ ha hlt).mono ?_); rintro e w1 ⟨rfl, rfl⟩))
        go_round
        case rel => exact ⟨j + 1, by omega, HN, by go_num⟩
        case measure => simp [intOf]; omega
    · obtain rfl : j = 256 := by omega
      have HE : Hid (v = 0) := hid (HZ.out (by
        rcases Nat.eq_zero_or_pos a with h | h
        · exact h
        · have := HJ.out (by omega); have := HB.out; omega))
      go_wp2
      go_ret
      exact ⟨ret_int (by rw [HE.out]; rfl), rfl⟩
end Go.Proofs.Ytnklljlgghenpaa
