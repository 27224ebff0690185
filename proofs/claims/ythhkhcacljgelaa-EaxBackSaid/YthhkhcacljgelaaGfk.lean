import Derived.Test.YthhkhcacljgelaaProg
import Derived.Test.YthhkhcacljgelaaGen
import Derived.Test.YthhkhcacljgelaaMth
namespace Go.Proofs.Ythhkhcacljgelaa
open Go.RowKit



set_option maxHeartbeats 400000 in
theorem twice_any (a : Nat) (w : World) (ha : a < 256) :
    Calls Try.prog 63 #[.int .u8 (a : Int)] w fun e w' => e = .returned (.int .u8 (tw a : Nat)) ∧ w' = w := by
  by_cases h : a < 128
  · have H := hid (show tw a = 2 * a from if_pos h)
    go_enter Try.func63, Try.ntmps63
    go_wp2
    go_ret
    exact ⟨ret_int (by rw [H.out]; omega), rfl⟩
  · have H := hid (show tw a = (2 * a - 256) ^^^ 27 from if_neg h)
    go_enter Try.func63, Try.ntmps63
    go_wp2
    go_ret
    refine ⟨ret_int ?_, rfl⟩
    rw [H.out, show ((a : Int) * 2 % 256) = ((2 * a - 256 : Nat) : Int) by omega]
    exact xor8 (b := 27) (by omega) (by decide)

set_option maxHeartbeats 400000 in
theorem mul_any (a b : Nat) (w : World) (ha : a < 256) (hb : b < 256) :
    Calls Try.prog 60 #[.int .u8 (a : Int), .int .u8 (b : Int)] w fun e w' => e = .returned (.int .u8 (gm a b : Nat)) ∧ w' = w := by
  go_enter Try.func60, Try.ntmps60
  go_wp2
  go_loop [0, 1, 5] (fun x y s => ∃ A B S : Nat, MulInv a b A B S ∧ x = .int .u8 A ∧ y = .int .u8 B ∧ s = .int .u8 S) (fun _ y _ => (intOf y).toNat)
  case atStart => exact ⟨a, b, 0, .start ha hb, rfl, rfl, rfl⟩
  case round =>
    obtain ⟨A, B, S, hI, rfl, rfl, rfl⟩ := hrel
    have hA := hI.1
    have hB := hI.2.1
    have hS := hI.2.2.1
    have HI := hid hI
    clear hI
    by_cases h0 : B = 0
    · subst h0
      go_wp2
      go_ret
      exact ⟨ret_int (by rw [HI.out.done]), rfl⟩
    · by_cases h1 : B % 2 = 1
      · have hb1 := odd8 hB h1
        go_wp2_with (first | (go_at_call 63; refine (twice_any A _ hA).mono ?_; rintro e w1 ⟨rfl, rfl⟩))
        go_round
        case rel => exact ⟨_, B / 2, S ^^^ A, HI.out.odd h1, rfl, by simp, by rw [xor8 hS hA]⟩
        case measure => simp [intOf]; omega
      · have hb1 := even8 hB h1
        go_wp2_with (first | (go_at_call 63; refine (twice_any A _ hA).mono ?_; rintro e w1 ⟨rfl, rfl⟩))
        go_round
        case rel => exact ⟨_, B / 2, S, HI.out.even h1 h0, rfl, by simp, rfl⟩
        case measure => simp [intOf]; omega

theorem shl_283 : ∀ k < 7, wrap64 (283 * 2 ^ k) = ((283 * 2 ^ k : Nat) : Int) := by decide +kernel

end Go.Proofs.Ythhkhcacljgelaa

namespace Go.Proofs.Ythhkhcacljgelaa
open Go.RowKit

/-- Powers of any number: 0 of those below 0. -/
def pwi (a : Nat) (n : Int) : Nat := if n < 0 then 0 else pw a n.toNat
theorem pwi_nat (a n : Nat) : pwi a n = pw a n := by simp [pwi]; omega
theorem pwi_neg {n : Int} (a : Nat) (h : n < 0) : pwi a n = 0 := if_pos h

set_option maxHeartbeats 400000 in
theorem pow_any (a : Nat) (n : Int) (w : World) (ha : a < 256) (hn : n ≤ 9223372036854775807) :
    Calls Try.prog 49 #[.int .u8 (a : Int), .int .i64 n] w fun e w' => e = .returned (.int .u8 (pwi a n : Nat)) ∧ w' = w := by
  by_cases h : n < 0
  · have H := hid (pwi_neg a h)
    go_enter Try.func49, Try.ntmps49
    go_wp2
    go_ret
    exact ⟨ret_int (by rw [H.out]; rfl), rfl⟩
  · obtain ⟨m, rfl⟩ := Int.eq_ofNat_of_zero_le (show 0 ≤ n by omega)
    have HP := hid (pwi_nat a m)
    have hm : m < 9223372036854775808 := by omega
    clear h hn
    go_enter Try.func49, Try.ntmps49
    go_wp2
    go_loop [0, 1, 5] (fun x y s => ∃ A N p : Nat, N < 9223372036854775808 ∧ Hid (PowInv a m A N p) ∧ x = .int .u8 A ∧ y = .int .i64 N ∧ s = .int .u8 p) (fun _ y _ => (intOf y).toNat)
    case atStart => exact ⟨a, m, 1, hm, hid (.start ha), rfl, rfl, rfl⟩
    case round =>
      obtain ⟨A, N, p, hN, HI, rfl, rfl, rfl⟩ := hrel
      have hA := HI.out.1
      have hp := HI.out.2.1
      by_cases h0 : N = 0
      · subst h0
        go_wp2
        go_ret
        exact ⟨ret_int (by rw [HP.out, HI.out.done]), rfl⟩
      · by_cases h1 : N % 2 = 1
        · have hb1 := odd64 hN h1
          go_wp2_with (first | (go_at_call 60; (with_reducible refine (mul_any p A _ hp hA).mono ?_); rintro e w1 ⟨rfl, rfl⟩) | (go_at_call 60; (with_reducible refine (mul_any A A _ hA hA).mono ?_); rintro e w1 ⟨rfl, rfl⟩))
          go_round
          case rel => exact ⟨_, N / 2, _, by omega, hid (HI.out.odd h1), rfl, by simp, rfl⟩
          case measure => simp [intOf]; omega
        · have hb1 := even64 hN h1
          go_wp2_with (first | (go_at_call 60; (with_reducible refine (mul_any A A _ hA hA).mono ?_); rintro e w1 ⟨rfl, rfl⟩))
          go_round
          case rel => exact ⟨_, N / 2, _, by omega, hid (HI.out.even h1), rfl, by simp, rfl⟩
          case measure => simp [intOf]; omega

end Go.Proofs.Ythhkhcacljgelaa

namespace Go.Proofs.Ythhkhcacljgelaa
open Go.RowKit

set_option maxHeartbeats 400000 in
theorem inv_any (a : Nat) (w : World) (ha : a < 256) :
    Calls Try.prog 66 #[.int .u8 (a : Int)] w fun e w' => e = .returned (.int .u8 (pw a 254 : Nat)) ∧ w' = w := by
  have HP := hid (pwi_nat a 254)
  go_enter Try.func66, Try.ntmps66
  go_wp2_with (first | (go_at_call 49; (with_reducible refine (pow_any a 254 _ ha (by decide)).mono ?_); rintro e w1 ⟨rfl, rfl⟩))
  go_ret
  exact ⟨ret_int (by rw [← HP.out]; rfl), rfl⟩

theorem pow3_any (m : Nat) (w : World) (hm : (m : Int) ≤ 9223372036854775807) :
    Calls Try.prog 49 #[.int .u8 3, .int .i64 m] w fun e w' => e = .returned (.int .u8 (pwi 3 m : Nat)) ∧ w' = w := pow_any 3 m w (by decide) hm
/-- The power n modulo 255 of 3. -/
def ex (n : Int) : Nat := pw 3 (n % 255).toNat
theorem ex_lt (n : Int) : ex n < 256 := pw_lt (by decide) _
theorem ex_nat (n : Nat) : ex n = pw 3 n := by
  unfold ex
  rw [show ((n : Int) % 255).toNat = n % 255 by omega]
  exact pw_mod (by decide) (by decide) n

theorem mul_one_case (w : World) : Calls Try.prog 60 #[.int .u8 87, .int .u8 131] w fun e w' => e = .returned (.int .u8 193) ∧ w' = w := by
  have H : ((gm 87 131 : Nat) : Int) = 193 := by decide +kernel
  have := mul_any 87 131 w (by decide) (by decide)
  rw [H] at this
  exact this
theorem inv_one_case (w : World) : Calls Try.prog 66 #[.int .u8 2] w fun e w' => e = .returned (.int .u8 141) ∧ w' = w := by
  have H : ((pw 2 254 : Nat) : Int) = 141 := by decide +kernel
  have := inv_any 2 w (by decide)
  rw [H] at this
  exact this
end Go.Proofs.Ythhkhcacljgelaa
