import Derived.Test.YtfgbcohmbbjagaaKcp
import Derived.Test.YtfgbcohmbbjagaaKck
import Derived.Test.YtfgbcohmbbjagaaKcl
namespace Go.Proofs.Ytfgbcohmbbjagaa
open Go.RowKit

theorem bit_to {n : Nat} {b : Bool} (hn : n < 255) (h : lf (rwN n) 0 = b) (w : World) :
    Calls Try.prog 24 #[.int .i64 (n : Int)] w fun e w' => e = .returned (.bool b) ∧ Below w.heap.size w w' := by
  rw [← h]; exact bit_any n w hn

set_option maxRecDepth 100000 in
set_option maxHeartbeats 3200000 in
theorem refmark_any (i : Int) (w : World) :
    Calls Try.prog 7 #[.int .i64 i] w fun e w' => e = .returned (.int .u64 (mkq i : Nat)) ∧ Below w.heap.size w w' := by
  by_cases h : 0 ≤ i ∧ i < 24
  · obtain ⟨n, rfl⟩ := Int.eq_ofNat_of_zero_le h.1
    have hn : n < 24 := by omega
    have hn2 : (n : Int) < 24 := by omega
    have HQ := hid (mkq_in hn)
    have HQ7 : Hid (mkf n = mkP n 7) := hid rfl
    have HZ : Hid (mkP n 0 = 0) := hid rfl
    have HL := hid (mkP_lt n hn)
    have HA := hid (mkP_add n hn)
    clear h
    go_enter Try.func7, Try.ntmps7
    go_wp2
    go_loopw [3, 4, 5] (fun x a k wr => ∃ (j : Nat) (A : Int), j ≤ 7 ∧ k = .int .i64 j ∧ a = .int .i64 A ∧ Hid (A = 2 ^ j) ∧ x = .int .u64 (mkP n j : Nat) ∧ Below w.heap.size w wr) (fun _ _ k _ => 7 - (intOf k).toNat)
    case atStart => exact ⟨0, 1, by omega, rfl, rfl, hid rfl, by rw [HZ.out]; rfl, Below.refl _ _⟩
    case round =>
      obtain ⟨j, A, hj, rfl, rfl, HAj, rfl, hlow⟩ := hrel
      have HB := hid hlow
      clear hlow
      by_cases hlt : j < 7
      · have hx := HL.out (j + 1) (by omega)
        have HE := HA.out j hlt
        obtain ⟨b, hb⟩ : ∃ b, lf (rwN (7 * n + j)) 0 = b := ⟨_, rfl⟩
        obtain ⟨m, hm⟩ : ∃ m, 7 * n + j = m := ⟨_, rfl⟩
        have e1 : 7 * (n : Int) + (j : Int) = (m : Int) := by omega
        rw [hb] at HE
        rw [hm] at hb
        have HC := hid (fun w => bit_to (n := m) (b := b) (by omega) hb w)
        rw [HE] at hx
        have HE1 := hid HE
        have hA := HAj.out
        generalize mkP n j = x at *
        clear hb HE hm HAj
        have hj7 : j = 0 ∨ j = 1 ∨ j = 2 ∨ j = 3 ∨ j = 4 ∨ j = 5 ∨ j = 6 := by omega
        cases b <;> rcases hj7 with rfl | rfl | rfl | rfl | rfl | rfl | rfl
        · obtain rfl : A = 1 := by simpa using hA
          have HE2 : Hid (x = mkP n (0 + 1)) := hid HE1.out.symm
          have e2 : 7 * (n : Int) = (m : Int) := by omega
          clear hA hx e1
          go_wp2_with (first | (go_at_call 24; (with_reducible refine (HC.out _).mono ?_); rintro e w1 ⟨rfl, hlow⟩; have HB1 := hid (HB.out.trans (hlow.mono HB.out.size)); clear hlow))
          go_roundw
          case rel => exact ⟨1, 2, by omega, rfl, rfl, hid rfl, by rw [← HE2.out], HB1.out⟩
          case measure => simp [intOf]
        · obtain rfl : A = 2 := by simpa using hA
          have HE2 : Hid (x = mkP n (1 + 1)) := hid HE1.out.symm
          have e2 : 7 * (n : Int) + 1 = (m : Int) := by omega
          clear hA hx e1
          go_wp2_with (first | (go_at_call 24; (with_reducible refine (HC.out _).mono ?_); rintro e w1 ⟨rfl, hlow⟩; have HB1 := hid (HB.out.trans (hlow.mono HB.out.size)); clear hlow))
          go_roundw
          case rel => exact ⟨2, 4, by omega, rfl, rfl, hid rfl, by rw [← HE2.out], HB1.out⟩
          case measure => simp [intOf]
        · obtain rfl : A = 4 := by simpa using hA
          have HE2 : Hid (x = mkP n (2 + 1)) := hid HE1.out.symm
          have e2 : 7 * (n : Int) + 2 = (m : Int) := by omega
          clear hA hx e1
          go_wp2_with (first | (go_at_call 24; (with_reducible refine (HC.out _).mono ?_); rintro e w1 ⟨rfl, hlow⟩; have HB1 := hid (HB.out.trans (hlow.mono HB.out.size)); clear hlow))
          go_roundw
          case rel => exact ⟨3, 8, by omega, rfl, rfl, hid rfl, by rw [← HE2.out], HB1.out⟩
          case measure => simp [intOf]
        · obtain rfl : A = 8 := by simpa using hA
          have HE2 : Hid (x = mkP n (3 + 1)) := hid HE1.out.symm
          have e2 : 7 * (n : Int) + 3 = (m : Int) := by omega
          clear hA hx e1
          go_wp2_with (first | (go_at_call 24; (with_reducible refine (HC.out _).mono ?_); rintro e w1 ⟨rfl, hlow⟩; have HB1 := hid (HB.out.trans (hlow.mono HB.out.size)); clear hlow))
          go_roundw
          case rel => exact ⟨4, 16, by omega, rfl, rfl, hid rfl, by rw [← HE2.out], HB1.out⟩
          case measure => simp [intOf]
        · obtain rfl : A = 16 := by simpa using hA
          have HE2 : Hid (x = mkP n (4 + 1)) := hid HE1.out.symm
          have e2 : 7 * (n : Int) + 4 = (m : Int) := by omega
          clear hA hx e1
          go_wp2_with (first | (go_at_call 24; (with_reducible refine (HC.out _).mono ?_); rintro e w1 ⟨rfl, hlow⟩; have HB1 := hid (HB.out.trans (hlow.mono HB.out.size)); clear hlow))
          go_roundw
          case rel => exact ⟨5, 32, by omega, rfl, rfl, hid rfl, by rw [← HE2.out], HB1.out⟩
          case measure => simp [intOf]
        · obtain rfl : A = 32 := by simpa using hA
          have HE2 : Hid (x = mkP n (5 + 1)) := hid HE1.out.symm
          have e2 : 7 * (n : Int) + 5 = (m : Int) := by omega
          clear hA hx e1
          go_wp2_with (first | (go_at_call 24; (with_reducible refine (HC.out _).mono ?_); rintro e w1 ⟨rfl, hlow⟩; have HB1 := hid (HB.out.trans (hlow.mono HB.out.size)); clear hlow))
          go_roundw
          case rel => exact ⟨6, 64, by omega, rfl, rfl, hid rfl, by rw [← HE2.out], HB1.out⟩
          case measure => simp [intOf]
        · obtain rfl : A = 64 := by simpa using hA
          have HE2 : Hid (x = mkP n (6 + 1)) := hid HE1.out.symm
          have e2 : 7 * (n : Int) + 6 = (m : Int) := by omega
          clear hA hx e1
          go_wp2_with (first | (go_at_call 24; (with_reducible refine (HC.out _).mono ?_); rintro e w1 ⟨rfl, hlow⟩; have HB1 := hid (HB.out.trans (hlow.mono HB.out.size)); clear hlow))
          go_roundw
          case rel => exact ⟨7, 128, by omega, rfl, rfl, hid rfl, by rw [← HE2.out], HB1.out⟩
          case measure => simp [intOf]
        · obtain rfl : A = 1 := by simpa using hA
          have hx1 : x + 1 < 2 ^ 64 := hx
          have HE2 : Hid (x + 1 = mkP n (0 + 1)) := hid HE1.out.symm
          have e2 : 7 * (n : Int) = (m : Int) := by omega
          clear hA hx e1
          go_wp2_with (first | (go_at_call 24; (with_reducible refine (HC.out _).mono ?_); rintro e w1 ⟨rfl, hlow⟩; have HB1 := hid (HB.out.trans (hlow.mono HB.out.size)); clear hlow))
          go_roundw
          case rel => exact ⟨1, 2, by omega, rfl, rfl, hid rfl, by rw [← HE2.out, Int.natCast_add]; rfl, HB1.out⟩
          case measure => simp [intOf]
        · obtain rfl : A = 2 := by simpa using hA
          have hx1 : x + 2 < 2 ^ 64 := hx
          have HE2 : Hid (x + 2 = mkP n (1 + 1)) := hid HE1.out.symm
          have e2 : 7 * (n : Int) + 1 = (m : Int) := by omega
          clear hA hx e1
          go_wp2_with (first | (go_at_call 24; (with_reducible refine (HC.out _).mono ?_); rintro e w1 ⟨rfl, hlow⟩; have HB1 := hid (HB.out.trans (hlow.mono HB.out.size)); clear hlow))
          go_roundw
          case rel => exact ⟨2, 4, by omega, rfl, rfl, hid rfl, by rw [← HE2.out, Int.natCast_add]; rfl, HB1.out⟩
          case measure => simp [intOf]
        · obtain rfl : A = 4 := by simpa using hA
          have hx1 : x + 8 < 2 ^ 64 := hx
          have HE2 : Hid (x + 8 = mkP n (2 + 1)) := hid HE1.out.symm
          have e2 : 7 * (n : Int) + 2 = (m : Int) := by omega
          clear hA hx e1
          go_wp2_with (first | (go_at_call 24; (with_reducible refine (HC.out _).mono ?_); rintro e w1 ⟨rfl, hlow⟩; have HB1 := hid (HB.out.trans (hlow.mono HB.out.size)); clear hlow))
          go_roundw
          case rel => exact ⟨3, 8, by omega, rfl, rfl, hid rfl, by rw [← HE2.out, Int.natCast_add]; rfl, HB1.out⟩
          case measure => simp [intOf]
        · obtain rfl : A = 8 := by simpa using hA
          have hx1 : x + 128 < 2 ^ 64 := hx
          have HE2 : Hid (x + 128 = mkP n (3 + 1)) := hid HE1.out.symm
          have e2 : 7 * (n : Int) + 3 = (m : Int) := by omega
          clear hA hx e1
          go_wp2_with (first | (go_at_call 24; (with_reducible refine (HC.out _).mono ?_); rintro e w1 ⟨rfl, hlow⟩; have HB1 := hid (HB.out.trans (hlow.mono HB.out.size)); clear hlow))
          go_roundw
          case rel => exact ⟨4, 16, by omega, rfl, rfl, hid rfl, by rw [← HE2.out, Int.natCast_add]; rfl, HB1.out⟩
          case measure => simp [intOf]
        · obtain rfl : A = 16 := by simpa using hA
          have hx1 : x + 32768 < 2 ^ 64 := hx
          have HE2 : Hid (x + 32768 = mkP n (4 + 1)) := hid HE1.out.symm
          have e2 : 7 * (n : Int) + 4 = (m : Int) := by omega
          clear hA hx e1
          go_wp2_with (first | (go_at_call 24; (with_reducible refine (HC.out _).mono ?_); rintro e w1 ⟨rfl, hlow⟩; have HB1 := hid (HB.out.trans (hlow.mono HB.out.size)); clear hlow))
          go_roundw
          case rel => exact ⟨5, 32, by omega, rfl, rfl, hid rfl, by rw [← HE2.out, Int.natCast_add]; rfl, HB1.out⟩
          case measure => simp [intOf]
        · obtain rfl : A = 32 := by simpa using hA
          have hx1 : x + 2147483648 < 2 ^ 64 := hx
          have HE2 : Hid (x + 2147483648 = mkP n (5 + 1)) := hid HE1.out.symm
          have e2 : 7 * (n : Int) + 5 = (m : Int) := by omega
          clear hA hx e1
          go_wp2_with (first | (go_at_call 24; (with_reducible refine (HC.out _).mono ?_); rintro e w1 ⟨rfl, hlow⟩; have HB1 := hid (HB.out.trans (hlow.mono HB.out.size)); clear hlow))
          go_roundw
          case rel => exact ⟨6, 64, by omega, rfl, rfl, hid rfl, by rw [← HE2.out, Int.natCast_add]; rfl, HB1.out⟩
          case measure => simp [intOf]
        · obtain rfl : A = 64 := by simpa using hA
          have hx1 : x + 9223372036854775808 < 2 ^ 64 := hx
          have HE2 : Hid (x + 9223372036854775808 = mkP n (6 + 1)) := hid HE1.out.symm
          have e2 : 7 * (n : Int) + 6 = (m : Int) := by omega
          clear hA hx e1
          go_wp2_with (first | (go_at_call 24; (with_reducible refine (HC.out _).mono ?_); rintro e w1 ⟨rfl, hlow⟩; have HB1 := hid (HB.out.trans (hlow.mono HB.out.size)); clear hlow))
          go_roundw
          case rel => exact ⟨7, 128, by omega, rfl, rfl, hid rfl, by rw [← HE2.out, Int.natCast_add]; rfl, HB1.out⟩
          case measure => simp [intOf]
      · obtain rfl : j = 7 := by omega
        go_wp2
        go_ret
        exact ⟨ret_int (by rw [HQ.out, HQ7.out]), HB.out⟩
  · have HQ := hid (mkq_out h)
    by_cases h0 : i < 0
    · go_enter Try.func7, Try.ntmps7
      go_wp2
      go_ret
      exact ⟨ret_int (by rw [HQ.out]; rfl), Below.refl _ _⟩
    · have h1 : 24 ≤ i := by omega
      go_enter Try.func7, Try.ntmps7
      go_wp2
      go_ret
      exact ⟨ret_int (by rw [HQ.out]; rfl), Below.refl _ _⟩
end Go.Proofs.Ytfgbcohmbbjagaa
