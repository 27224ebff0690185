import Derived.Test.YtmggmjilgjogfaaProg
import Derived.Test.YtmggmjilgjogfaaGfa
namespace Go.Proofs.Ytmggmjilgjogfaa
open Go.RowKit

/-- Powers of any number: 0 of those below 0. -/
def pwi (a : Nat) (n : Int) : Nat := if n < 0 then 0 else pw a n.toNat
theorem pwi_nat (a n : Nat) : pwi a n = pw a n := by simp [pwi]; omega
theorem pwi_neg {n : Int} (a : Nat) (h : n < 0) : pwi a n = 0 := if_pos h

set_option maxHeartbeats 400000 in
theorem pow_any (a : Nat) (n : Int) (w : World) (ha : a < 256) (hn : n ≤ 9223372036854775807) :
    Calls Try.prog 36 #[.int .u8 (a : Int), .int .i64 n] w fun e w' => e = .returned (.int .u8 (pwi a n : Nat)) ∧ w' = w := by
  by_cases h : n < 0
  · have H := hid (pwi_neg a h)
    go_enter Try.func36, Try.ntmps36
    go_wp2
    go_ret
    exact ⟨ret_int (by rw [H.out]; rfl), rfl⟩
  · obtain ⟨m, rfl⟩ := Int.eq_ofNat_of_zero_le (show 0 ≤ n by omega)
    have HP := hid (pwi_nat a m)
    have hm : m < 9223372036854775808 := by omega
    clear h hn
    go_enter Try.func36, Try.ntmps36
    go_wp2
    go_loop [0, 1, 5] (fun x y s => ∃ A N p : Nat, N < 9223372036854775808 ∧ Hid (PowInv a m A N p) ∧ x = .int .u8 A ∧ y = .int .i64 N ∧ s = .int .u8 p) (fun _ y _ => (intOf y).toNat)
    case atStart => exact ⟨a, m, 1, hm, hid (.start ha), rfl, rfl, rfl⟩
    case round =>
      obtain ⟨A, N, p, hN, HI, rfl, rfl, rfl⟩ := hrel
      have hA := HI.out.1
      have hp := HI.out.2.1
      by_cases h0 : N = 0
      · subst h0
        go_wp2
        go_ret
        exact ⟨ret_int (by rw [HP.out, HI.out.done]), rfl⟩
      · by_cases h1 : N % 2 = 1
        · have hb1 := odd64 hN h1
          go_wp2_with (first | (go_at_call 45; (with_reducible refine (mul_any p A _ hp hA).mono ?_); rintro e w1 ⟨rfl, rfl⟩) | (go_at_call 45; (with_reducible refine (mul_any A A _ hA hA).mono ?_); rintro e w1 ⟨rfl, rfl⟩))
          go_round
          case rel => exact ⟨_, N / 2, _, by omega, hid (HI.out.odd h1), rfl, by simp, rfl⟩
          case measure => simp [intOf]; omega
        · have hb1 := even64 hN h1
          go_wp2_with (first | (go_at_call 45; (with_reducible refine (mul_any A A _ hA hA).mono ?_); rintro e w1 ⟨rfl, rfl⟩))
          go_round
          case rel => exact ⟨_, N / 2, _, by omega, hid (HI.out.even h1), rfl, by simp, rfl⟩
          case measure => simp [intOf]; omega

end Go.Proofs.Ytmggmjilgjogfaa
