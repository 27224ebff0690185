import Derived.Test.YtnklljlgghenpaaProg
import Derived.Test.YtnklljlgghenpaaGfa
namespace Go.Proofs.Ytnklljlgghenpaa
open Go.RowKit

/-- Powers of any number: 0 of those below 0. -/
def pwi (a : Nat) (n : Int) : Nat := if n < 0 then 0 else pw a n.toNat
theorem pwi_nat (a n : Nat) : pwi a n = pw a n := by simp [pwi]; omega
theorem pwi_neg {n : Int} (a : Nat) (h : n < 0) : pwi a n = 0 := if_pos h

set_option maxHeartbeats 400000 in
theorem pow_any (a : Nat) (n : Int) (w : World) (ha : a < 256) (hn : n ≤ 9223372036854775807) :
    Calls Try.prog 13 #[.int .u8 (a : Int), .int .i64 n] w fun e w' => e = .returned (.int .u8 (pwi a n : Nat)) ∧ w' = w := by
  by_cases h : n < 0
  · have H := hid (pwi_neg a h)
    go_enter Try.func13, Try.ntmps13
    go_wp2
    go_ret
    exact ⟨ret_int (by rw [H.out]; rfl), rfl⟩
  · obtain ⟨m, rfl⟩ := Int.eq_ofNat_of_zero_le (show 0 ≤ n by omega)
    have HP := hid (pwi_nat a m)
    have hm : m < 9223372036854775808 := by omega
    clear h hn
    go_enter Try.func13, Try.ntmps13
    go_wp2
    go_loop [0, 1, 5] (fun x y s => ∃ A N p : Nat, N < 9223372036854775808 ∧ Hid (PowInv a m A N p) ∧ x = .int .u8 A ∧ y = .int .i64 N ∧ s = .int .u8 p) (fun _ y _ => (intOf y).toNat)
    case atStart => exact ⟨a, m, 1, hm, hid (.start ha), rfl, rfl, rfl⟩
    case round =>
      obtain ⟨A, N, p, hN, HI, rfl, rfl, rfl⟩ := hrel
      have hA := HI.out.1
      have hp := HI.out.2.1
      by_cases h0 : N = 0
      · subst h0
        go_wp2
        go_ret
        exact ⟨ret_int (by rw [HP.out, HI.out.done]), rfl⟩
      · by_cases h1 : N % 2 = 1
        · have hb1 := odd64 hN h1
          go_wp2_with (first | (go_at_call 19; (with_reducible refine (mul_any p A _ hp hA).mono ?_); rintro e w1 ⟨rfl, rfl⟩) | (go_at_call 19; (with_reducible refine (mul_any A A _ hA hA).mono ?_); rintro e w1 ⟨rfl, rfl⟩))
          go_round
          case rel => exact ⟨_, N / 2, _, by omega, hid (HI.out.odd h1), rfl, by simp, rfl⟩
          case measure => simp [intOf]; omega
        · have hb1 := even64 hN h1
          go_wp2_with (first | (go_at_call 19; (with_reducible refine (mul_any A A _ hA hA).mono ?_); rintro e w1 ⟨rfl, rfl⟩))
          go_round
          case rel => exact ⟨_, N / 2, _, by omega, hid (HI.out.even h1), rfl, by simp, rfl⟩
          case measure => simp [intOf]; omega

set_option maxHeartbeats 400000 in
theorem refpow_any (a : Nat) (n : Int) (w : World) (ha : a < 256) (hn : n ≤ 9223372036854775807) :
    Calls Try.prog 14 #[.int .u8 (a : Int), .int .i64 n] w fun e w' => e = .returned (.int .u8 (pwi a n : Nat)) ∧ w' = w := by
  by_cases h : n < 0
  · have H := hid (pwi_neg a h)
    go_enter Try.func14, Try.ntmps14
    go_wp2
    go_ret
    exact ⟨ret_int (by rw [H.out]; rfl), rfl⟩
  · obtain ⟨m, rfl⟩ := Int.eq_ofNat_of_zero_le (show 0 ≤ n by omega)
    have HP := hid (pwi_nat a m)
    have hm : m < 9223372036854775808 := by omega
    clear h hn
    by_cases h0 : m = 0
    · subst h0
      go_enter Try.func14, Try.ntmps14
      go_wp2
      go_ret
      exact ⟨ret_int (by rw [HP.out]; rfl), rfl⟩
    · have HF := hid (pw_few ha m (by omega))
      obtain ⟨k, hk, hk2⟩ : ∃ k : Nat, (m - 1) % 255 = k ∧ k < 255 := ⟨_, rfl, by omega⟩
      rw [hk] at HF
      have ht : ((m : Int) - 1).tmod 255 = k := by rw [Int.tmod_eq_emod_of_nonneg (by omega)]; omega
      clear hk
      have hlt : ∀ k, pw a k < 256 := pw_lt ha
      have HL := hid hlt
      clear hlt
      have hb0 : ((m : Int) == 0) = false := by rw [beq_eq_false_iff_ne]; omega
      go_enter Try.func14, Try.ntmps14
      go_wp2
      go_loop [5, 6] (fun x i => ∃ j p : Nat, j ≤ k + 1 ∧ p < 256 ∧ Hid (p = pw a j) ∧ i = .int .i64 j ∧ x = .int .u8 p) (fun _ i => k + 1 - (intOf i).toNat)
      case atStart => exact ⟨0, 1, by omega, by omega, hid rfl, rfl, rfl⟩
      case round =>
        obtain ⟨j, p, hj, hp, Hp, rfl, rfl⟩ := hrel
        by_cases hlt : j < k + 1
        · go_wp2_with (first | (go_at_call 20; (with_reducible refine (refmul_any p a _ hp ha).mono ?_); rintro e w1 ⟨rfl, rfl⟩))
          go_round
          case rel => exact ⟨j + 1, _, by omega, gm_lt hp, hid (by rw [Hp.out]; rfl), by go_num, rfl⟩
          case measure => simp [intOf]; omega
        · obtain rfl : j = k + 1 := by omega
          go_wp2
          go_ret
          exact ⟨ret_int (by rw [HP.out, Hp.out, HF.out]), rfl⟩
end Go.Proofs.Ytnklljlgghenpaa
