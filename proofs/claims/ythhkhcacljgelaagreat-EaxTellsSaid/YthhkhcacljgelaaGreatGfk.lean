import Derived.Test.YthhkhcacljgelaaGreatProg
import Derived.Test.YthhkhcacljgelaaGreatGen
import Derived.Test.YthhkhcacljgelaaGreatMth
namespace Go.Proofs.YthhkhcacljgelaaGreat
open Go.RowKit



set_option maxHeartbeats 400000 in
theorem twice_any (a : Nat) (w : World) (ha : a < 256) :
    Calls Tryz.prog 87 #[.int .u8 (a : Int)] w fun e w' => e = .returned (.int .u8 (tw a : Nat)) ∧ w' = w := by
  by_cases h : a < 128
  · have H := hid (show tw a = 2 * a from if_pos h)
    go_enter Tryz.func87, Tryz.ntmps87
    go_wp2
    go_ret
    exact ⟨ret_int (by rw [H.out]; omega), rfl⟩
  · have H := hid (show tw a = (2 * a - 256) ^^^ 27 from if_neg h)
    go_enter Tryz.func87, Tryz.ntmps87
    go_wp2
    go_ret
    refine ⟨ret_int ?_, rfl⟩
    rw [H.out, show ((a : Int) * 2 % 256) = ((2 * a - 256 : Nat) : Int) by omega]
    exact xor8 (b := 27) (by omega) (by decide)

set_option maxHeartbeats 400000 in
theorem mul_any (a b : Nat) (w : World) (ha : a < 256) (hb : b < 256) :
    Calls Tryz.prog 84 #[.int .u8 (a : Int), .int .u8 (b : Int)] w fun e w' => e = .returned (.int .u8 (gm a b : Nat)) ∧ w' = w := by
  go_enter Tryz.func84, Tryz.ntmps84
  go_wp2
  go_loop [0, 1, 5] (fun x y s => ∃ A B S : Nat, MulInv a b A B S ∧ x = .int .u8 A ∧ y = .int .u8 B ∧ s = .int .u8 S) (fun _ y _ => (intOf y).toNat)
  case atStart => exact ⟨a, b, 0, .start ha hb, rfl, rfl, rfl⟩
  case round =>
    obtain ⟨A, B, S, hI, rfl, rfl, rfl⟩ := hrel
    have hA := hI.1
    have hB := hI.2.1
    have hS := hI.2.2.1
    have HI := hid hI
    clear hI
    by_cases h0 : B = 0
    · subst h0
      go_wp2
      go_ret
      exact ⟨ret_int (by rw [HI.out.done]), rfl⟩
    · by_cases h1 : B % 2 = 1
      · have hb1 := odd8 hB h1
        go_wp2_with (first | (go_at_call 87; refine (twice_any A _ hA).mono ?_; rintro e w1 ⟨rfl, rfl⟩))
        go_round
        case rel => exact ⟨_, B / 2, S ^^^ A, HI.out.odd h1, rfl, by simp, by rw [xor8 hS hA]⟩
        case measure => simp [intOf]; omega
      · have hb1 := even8 hB h1
        go_wp2_with (first | (go_at_call 87; refine (twice_any A _ hA).mono ?_; rintro e w1 ⟨rfl, rfl⟩))
        go_round
        case rel => exact ⟨_, B / 2, S, HI.out.even h1 h0, rfl, by simp, rfl⟩
        case measure => simp [intOf]; omega

theorem shl_283 : ∀ k < 7, wrap64 (283 * 2 ^ k) = ((283 * 2 ^ k : Nat) : Int) := by decide +kernel

set_option maxHeartbeats 400000 in
theorem refmul_any (a b : Nat) (w : World) (ha : a < 256) (hb : b < 256) :
    Calls Tryz.prog 68 #[.int .u8 (a : Int), .int .u8 (b : Int)] w fun e w' => e = .returned (.int .u8 (gm a b : Nat)) ∧ w' = w := by
  have HG := hid (doc_gm ha hb)
  have HC := hid (clF_lt b ha)
  go_enter Tryz.func68, Tryz.ntmps68
  go_wp2
  go_loop [5, 6, 7] (fun n x i => ∃ j X N : Nat, j ≤ 8 ∧ X < 65536 ∧ N < 65536 ∧ Hid (X = a * 2 ^ j) ∧ Hid (N = clF a b j) ∧ i = .int .i64 j ∧ x = .int .i64 X ∧ n = .int .i64 N) (fun _ _ i => 8 - (intOf i).toNat)
  case atStart => exact ⟨0, a, 0, by omega, by omega, by omega, hid (by simp), hid rfl, rfl, rfl, rfl⟩
  case round =>
    obtain ⟨j, X, N, hj, hX, hN, HX, HN, rfl, rfl, rfl⟩ := hrel
    by_cases h8 : j < 8
    · have HX2 : Hid (X * 2 = a * 2 ^ (j + 1)) := hid (by rw [HX.out, Nat.pow_succ, Nat.mul_assoc])
      have hX2 : X * 2 < 65536 := by
        have := pow_le_128 h8
        have := Nat.mul_le_mul (show a ≤ 255 by omega) this
        rw [HX.out]; omega
      by_cases hb1 : b / 2 ^ j % 2 = 1
      · have HN2 : Hid (N ^^^ X = clF a b (j + 1)) := hid (by rw [clF, if_pos hb1, HN.out, HX.out])
        have hN2 : N ^^^ X < 65536 := Nat.xor_lt_two_pow (n := 16) hN hX
        have ht := bitT hb1
        clear hb1
        go_wp2
        go_round
        case rel => exact ⟨j + 1, X * 2, N ^^^ X, by omega, hX2, hN2, HX2, HN2, by go_num, by go_num, by rw [xor64 (by omega) (by omega)]⟩
        case measure => simp [intOf]; omega
      · have HN2 : Hid (N = clF a b (j + 1)) := hid (by rw [clF, if_neg hb1]; exact HN.out)
        have ht := bitF hb1
        clear hb1
        go_wp2
        go_round
        case rel => exact ⟨j + 1, X * 2, N, by omega, hX2, hN, HX2, HN2, by go_num, by go_num, rfl⟩
        case measure => simp [intOf]; omega
    · obtain rfl : j = 8 := by omega
      have HN8 : Hid (N = rdF (clF a b 8) (14 - 14)) := hid HN.out
      clear HX HN h8
      go_wp2
      go_loop [5, 8] (fun n i => ∃ i' N : Nat, 7 ≤ i' ∧ i' ≤ 14 ∧ N < 65536 ∧ Hid (N = rdF (clF a b 8) (14 - i')) ∧ i = .int .i64 i' ∧ n = .int .i64 N) (fun _ i => (intOf i).toNat)
      case atStart => exact ⟨14, N, by omega, by omega, hN, HN8, rfl, rfl⟩
      case round =>
        obtain ⟨i, M, hi, hi2, hM, HM, rfl, rfl⟩ := hrel
        by_cases h7 : 8 ≤ i
        · by_cases hb1 : M / 2 ^ i % 2 = 1
          · have HM2 : Hid (M ^^^ (283 * 2 ^ (i - 8)) = rdF (clF a b 8) (14 - (i - 1))) := hid (by
              rw [show 14 - (i - 1) = (14 - i) + 1 by omega, rdF, ← HM.out, show 14 - (14 - i) = i by omega, rd, if_pos hb1])
            have hM2 : M ^^^ (283 * 2 ^ (i - 8)) < 65536 := by
              have := rdF_lt (HC.out 8 (by omega)) (14 - (i - 1))
              rw [HM2.out]; exact this
            have HS := hid (shl_283 (i - 8) (by omega))
            have hS : 283 * 2 ^ (i - 8) < 65536 := by
              have := Nat.pow_le_pow_right (show 0 < 2 by decide) (show i - 8 ≤ 6 by omega)
              omega
            have ht := bitT hb1
            clear hb1
            go_wp2
            go_round
            case rel => exact ⟨i - 1, _, by omega, by omega, hM2, HM2, by go_num, by rw [HS.out, xor64 (by omega) (by omega)]⟩
            case measure => simp [intOf]; omega
          · have HM2 : Hid (M = rdF (clF a b 8) (14 - (i - 1))) := hid (by
              rw [show 14 - (i - 1) = (14 - i) + 1 by omega, rdF, ← HM.out, show 14 - (14 - i) = i by omega, rd, if_neg hb1])
            have ht := bitF hb1
            clear hb1
            go_wp2
            go_round
            case rel => exact ⟨i - 1, _, by omega, by omega, hM, HM2, by go_num, rfl⟩
            case measure => simp [intOf]; omega
        · obtain rfl : i = 7 := by omega
          have HE : Hid (M = gm a b) := hid (by rw [HM.out]; exact HG.out)
          have hM2 : M < 256 := by rw [HE.out]; exact gm_lt ha
          go_wp2
          go_ret
          exact ⟨ret_int (by rw [← HE.out]), rfl⟩
end Go.Proofs.YthhkhcacljgelaaGreat

namespace Go.Proofs.YthhkhcacljgelaaGreat
open Go.RowKit

/-- Powers of any number: 0 of those below 0. -/
def pwi (a : Nat) (n : Int) : Nat := if n < 0 then 0 else pw a n.toNat
theorem pwi_nat (a n : Nat) : pwi a n = pw a n := by simp [pwi]; omega
theorem pwi_neg {n : Int} (a : Nat) (h : n < 0) : pwi a n = 0 := if_pos h

set_option maxHeartbeats 400000 in
theorem pow_any (a : Nat) (n : Int) (w : World) (ha : a < 256) (hn : n ≤ 9223372036854775807) :
    Calls Tryz.prog 71 #[.int .u8 (a : Int), .int .i64 n] w fun e w' => e = .returned (.int .u8 (pwi a n : Nat)) ∧ w' = w := by
  by_cases h : n < 0
  · have H := hid (pwi_neg a h)
    go_enter Tryz.func71, Tryz.ntmps71
    go_wp2
    go_ret
    exact ⟨ret_int (by rw [H.out]; rfl), rfl⟩
  · obtain ⟨m, rfl⟩ := Int.eq_ofNat_of_zero_le (show 0 ≤ n by omega)
    have HP := hid (pwi_nat a m)
    have hm : m < 9223372036854775808 := by omega
    clear h hn
    go_enter Tryz.func71, Tryz.ntmps71
    go_wp2
    go_loop [0, 1, 5] (fun x y s => ∃ A N p : Nat, N < 9223372036854775808 ∧ Hid (PowInv a m A N p) ∧ x = .int .u8 A ∧ y = .int .i64 N ∧ s = .int .u8 p) (fun _ y _ => (intOf y).toNat)
    case atStart => exact ⟨a, m, 1, hm, hid (.start ha), rfl, rfl, rfl⟩
    case round =>
      obtain ⟨A, N, p, hN, HI, rfl, rfl, rfl⟩ := hrel
      have hA := HI.out.1
      have hp := HI.out.2.1
      by_cases h0 : N = 0
      · subst h0
        go_wp2
        go_ret
        exact ⟨ret_int (by rw [HP.out, HI.out.done]), rfl⟩
      · by_cases h1 : N % 2 = 1
        · have hb1 := odd64 hN h1
          go_wp2_with (first | (go_at_call 84; (with_reducible refine (mul_any p A _ hp hA).mono ?_); rintro e w1 ⟨rfl, rfl⟩) | (go_at_call 84; (with_reducible refine (mul_any A A _ hA hA).mono ?_); rintro e w1 ⟨rfl, rfl⟩))
          go_round
          case rel => exact ⟨_, N / 2, _, by omega, hid (HI.out.odd h1), rfl, by simp, rfl⟩
          case measure => simp [intOf]; omega
        · have hb1 := even64 hN h1
          go_wp2_with (first | (go_at_call 84; (with_reducible refine (mul_any A A _ hA hA).mono ?_); rintro e w1 ⟨rfl, rfl⟩))
          go_round
          case rel => exact ⟨_, N / 2, _, by omega, hid (HI.out.even h1), rfl, by simp, rfl⟩
          case measure => simp [intOf]; omega

set_option maxHeartbeats 400000 in
theorem refpow_any (a : Nat) (n : Int) (w : World) (ha : a < 256) (hn : n ≤ 9223372036854775807) :
    Calls Tryz.prog 88 #[.int .u8 (a : Int), .int .i64 n] w fun e w' => e = .returned (.int .u8 (pwi a n : Nat)) ∧ w' = w := by
  by_cases h : n < 0
  · have H := hid (pwi_neg a h)
    go_enter Tryz.func88, Tryz.ntmps88
    go_wp2
    go_ret
    exact ⟨ret_int (by rw [H.out]; rfl), rfl⟩
  · obtain ⟨m, rfl⟩ := Int.eq_ofNat_of_zero_le (show 0 ≤ n by omega)
    have HP := hid (pwi_nat a m)
    have hm : m < 9223372036854775808 := by omega
    clear h hn
    by_cases h0 : m = 0
    · subst h0
      go_enter Tryz.func88, Tryz.ntmps88
      go_wp2
      go_ret
      exact ⟨ret_int (by rw [HP.out]; rfl), rfl⟩
    · have HF := hid (pw_few ha m (by omega))
      obtain ⟨k, hk, hk2⟩ : ∃ k : Nat, (m - 1) % 255 = k ∧ k < 255 := ⟨_, rfl, by omega⟩
      rw [hk] at HF
      have ht : ((m : Int) - 1).tmod 255 = k := by rw [Int.tmod_eq_emod_of_nonneg (by omega)]; omega
      clear hk
      have hlt : ∀ k, pw a k < 256 := pw_lt ha
      have HL := hid hlt
      clear hlt
      have hb0 : ((m : Int) == 0) = false := by rw [beq_eq_false_iff_ne]; omega
      go_enter Tryz.func88, Tryz.ntmps88
      go_wp2
      go_loop [5, 6] (fun x i => ∃ j p : Nat, j ≤ k + 1 ∧ p < 256 ∧ Hid (p = pw a j) ∧ i = .int .i64 j ∧ x = .int .u8 p) (fun _ i => k + 1 - (intOf i).toNat)
      case atStart => exact ⟨0, 1, by omega, by omega, hid rfl, rfl, rfl⟩
      case round =>
        obtain ⟨j, p, hj, hp, Hp, rfl, rfl⟩ := hrel
        by_cases hlt : j < k + 1
        · go_wp2_with (first | (go_at_call 68; (with_reducible refine (refmul_any p a _ hp ha).mono ?_); rintro e w1 ⟨rfl, rfl⟩))
          go_round
          case rel => exact ⟨j + 1, _, by omega, gm_lt hp, hid (by rw [Hp.out]; rfl), by go_num, rfl⟩
          case measure => simp [intOf]; omega
        · obtain rfl : j = k + 1 := by omega
          go_wp2
          go_ret
          exact ⟨ret_int (by rw [HP.out, Hp.out, HF.out]), rfl⟩
end Go.Proofs.YthhkhcacljgelaaGreat

namespace Go.Proofs.YthhkhcacljgelaaGreat
open Go.RowKit

set_option maxHeartbeats 400000 in
theorem inv_any (a : Nat) (w : World) (ha : a < 256) :
    Calls Tryz.prog 91 #[.int .u8 (a : Int)] w fun e w' => e = .returned (.int .u8 (pw a 254 : Nat)) ∧ w' = w := by
  have HP := hid (pwi_nat a 254)
  go_enter Tryz.func91, Tryz.ntmps91
  go_wp2_with (first | (go_at_call 71; (with_reducible refine (pow_any a 254 _ ha (by decide)).mono ?_); rintro e w1 ⟨rfl, rfl⟩))
  go_ret
  exact ⟨ret_int (by rw [← HP.out]; rfl), rfl⟩

theorem pow3_any (m : Nat) (w : World) (hm : (m : Int) ≤ 9223372036854775807) :
    Calls Tryz.prog 71 #[.int .u8 3, .int .i64 m] w fun e w' => e = .returned (.int .u8 (pwi 3 m : Nat)) ∧ w' = w := pow_any 3 m w (by decide) hm
theorem refpow3_any (m : Nat) (w : World) (hm : (m : Int) ≤ 9223372036854775807) :
    Calls Tryz.prog 88 #[.int .u8 3, .int .i64 m] w fun e w' => e = .returned (.int .u8 (pwi 3 m : Nat)) ∧ w' = w := refpow_any 3 m w (by decide) hm
/-- The power n modulo 255 of 3. -/
def ex (n : Int) : Nat := pw 3 (n % 255).toNat
theorem ex_lt (n : Int) : ex n < 256 := pw_lt (by decide) _
theorem ex_nat (n : Nat) : ex n = pw 3 n := by
  unfold ex
  rw [show ((n : Int) % 255).toNat = n % 255 by omega]
  exact pw_mod (by decide) (by decide) n

theorem mul_one_case (w : World) : Calls Tryz.prog 84 #[.int .u8 87, .int .u8 131] w fun e w' => e = .returned (.int .u8 193) ∧ w' = w := by
  have H : ((gm 87 131 : Nat) : Int) = 193 := by decide +kernel
  have := mul_any 87 131 w (by decide) (by decide)
  rw [H] at this
  exact this
theorem inv_one_case (w : World) : Calls Tryz.prog 91 #[.int .u8 2] w fun e w' => e = .returned (.int .u8 141) ∧ w' = w := by
  have H : ((pw 2 254 : Nat) : Int) = 141 := by decide +kernel
  have := inv_any 2 w (by decide)
  rw [H] at this
  exact this
set_option maxRecDepth 20000 in
set_option maxHeartbeats 400000 in
theorem refinv_any (a : Nat) (w : World) (ha : a < 256) :
    Calls Tryz.prog 80 #[.int .u8 (a : Int)] w fun e w' => e = .returned (.int .u8 (pw a 254 : Nat)) ∧ w' = w := by
  have HO : Hid (∀ b, b < 256 → gm a b = 1 → b = pw a 254) := hid (fun b hb h => inv_only ha hb h)
  have HU : Hid (a ≠ 0 → gm a (pw a 254) = 1) := hid (gm_inv ha)
  have HZ : Hid (a = 0 → pw a 254 = 0) := hid (by rintro rfl; exact pw_zero (by decide))
  have HB : Hid (pw a 254 < 256) := hid (pw_lt ha _)
  have HB2 : Hid (a ≠ 0 → 1 ≤ pw a 254) := hid (inv_pos ha)
  obtain ⟨v, hv⟩ : ∃ v, v = pw a 254 := ⟨_, rfl⟩
  rw [← hv] at HO HU HZ HB HB2 ⊢
  clear hv
  go_enter Tryz.func80, Tryz.ntmps80
  go_wp2
  go_loop [3] (fun i => ∃ j : Nat, j ≤ 256 ∧ Hid (a ≠ 0 → j ≤ v) ∧ i = .int .i64 j) (fun i => 256 - (intOf i).toNat)
  case atStart => exact ⟨1, by omega, HB2, rfl⟩
  case round =>
    obtain ⟨j, hj, HJ, rfl⟩ := hrel
    by_cases hlt : j < 256
    · by_cases h1 : gm a j = 1
      · have hb : (((gm a j : Nat) : Int) == 1) = true := by rw [h1]; rfl
        have HE := hid (HO.out j hlt h1)
        clear h1
        go_wp2_with (first | (go_at_call 68; (with_reducible refine (refmul_any a j _ ha hlt).mono ?_); rintro e w1 ⟨rfl, rfl⟩))
        go_ret
        exact ⟨ret_int (by rw [← HE.out]), rfl⟩
      · have hb : (((gm a j : Nat) : Int) == 1) = false := by rw [beq_eq_false_iff_ne]; omega
        have HN : Hid (a ≠ 0 → j + 1 ≤ v) := hid (fun h0 => by
          have := HJ.out h0
          rcases Nat.lt_or_ge j (v) with h | h
          · exact h
          · exact absurd (by rw [show j = v by omega]; exact HU.out h0) h1)
        clear h1
        go_wp2_with (first | (go_at_call 68; (with_reducible refine (refmul_any a j _ ha hlt).mono ?_); rintro e w1 ⟨rfl, rfl⟩))
        go_round
        case rel => exact ⟨j + 1, by omega, HN, by go_num⟩
        case measure => simp [intOf]; omega
    · obtain rfl : j = 256 := by omega
      have HE : Hid (v = 0) := hid (HZ.out (by
        rcases Nat.eq_zero_or_pos a with h | h
        · exact h
        · have := HJ.out (by omega); have := HB.out; omega))
      go_wp2
      go_ret
      exact ⟨ret_int (by rw [HE.out]; rfl), rfl⟩
end Go.Proofs.YthhkhcacljgelaaGreat
