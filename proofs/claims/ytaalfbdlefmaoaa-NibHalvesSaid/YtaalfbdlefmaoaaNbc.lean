import Derived.Test.YtaalfbdlefmaoaaProg
import Derived.Test.YtaalfbdlefmaoaaNbb
namespace Go.Proofs.Ytaalfbdlefmaoaa
open Go.RowKit

set_option maxHeartbeats 400000 in
theorem ninv_any (a : Nat) (w : World) (ha : a < 256) :
    Calls Try.prog 11 #[.int .u8 (a : Int)] w fun e w' => e = .returned (.int .u8 (npw a 14 : Nat)) ∧ w' = w := by
  have HP := hid (npwi_nat a 14)
  go_enter Try.func11, Try.ntmps11
  go_wp2_with (first | (go_at_call 9; (with_reducible refine (npow_any a 14 _ ha (by decide)).mono ?_); rintro e w1 ⟨rfl, rfl⟩))
  go_ret
  exact ⟨ret_int (by rw [← HP.out]; rfl), rfl⟩

set_option maxRecDepth 20000 in
set_option maxHeartbeats 400000 in
theorem nrefinv_any (a : Nat) (w : World) (ha : a < 256) :
    Calls Try.prog 12 #[.int .u8 (a : Int)] w fun e w' => e = .returned (.int .u8 (npw a 14 : Nat)) ∧ w' = w := by
  have HO : Hid (∀ b, b < 16 → nm a b = 1 → b = npw a 14) := hid (fun b hb h => ninv_only a hb h)
  have HU : Hid (a % 16 ≠ 0 → nm a (npw a 14) = 1) := hid nm_inv
  have HZ : Hid (a % 16 = 0 → npw a 14 = 0) := hid ninv_zero
  have HB : Hid (npw a 14 < 16) := hid (npw_lt a _)
  have HB2 : Hid (a % 16 ≠ 0 → 1 ≤ npw a 14) := hid ninv_pos
  obtain ⟨v, hv⟩ : ∃ v, v = npw a 14 := ⟨_, rfl⟩
  rw [← hv] at HO HU HZ HB HB2 ⊢
  clear hv
  go_enter Try.func12, Try.ntmps12
  go_wp2
  go_loop [3] (fun i => ∃ j : Nat, j ≤ 16 ∧ Hid (a % 16 ≠ 0 → j ≤ v) ∧ i = .int .i64 j) (fun i => 16 - (intOf i).toNat)
  case atStart => exact ⟨1, by omega, HB2, rfl⟩
  case round =>
    obtain ⟨j, hj, HJ, rfl⟩ := hrel
    by_cases hlt : j < 16
    · by_cases h1 : nm a j = 1
      · have hb : (((nm a j : Nat) : Int) == 1) = true := by rw [h1]; rfl
        have HE := hid (HO.out j hlt h1)
        clear h1
        go_wp2_with (first | (go_at_call 7; (with_reducible refine (nrefmul_any a j _ ha (Nat.lt_of_lt_of_le hlt (by decide))).mono ?_); rintro e w1 ⟨rfl, rfl⟩))
        go_ret
        exact ⟨ret_int (by rw [← HE.out]), rfl⟩
      · have hb : (((nm a j : Nat) : Int) == 1) = false := by rw [beq_eq_false_iff_ne]; omega
        have HN : Hid (a % 16 ≠ 0 → j + 1 ≤ v) := hid (fun h0 => by
          have := HJ.out h0
          rcases Nat.lt_or_ge j (v) with h | h
          · exact h
          · exact absurd (by rw [show j = v by omega]; exact HU.out h0) h1)
        clear h1
        go_wp2_with (first | (go_at_call 7; (with_reducible refine (nrefmul_any a j _ ha (Nat.lt_of_lt_of_le hlt (by decide))).mono ?_); rintro e w1 ⟨rfl, rfl⟩))
        go_round
        case rel => exact ⟨j + 1, by omega, HN, by go_num⟩
        case measure => simp [intOf]; omega
    · obtain rfl : j = 16 := by omega
      have HE : Hid (v = 0) := hid (HZ.out (by
        rcases Nat.eq_zero_or_pos (a % 16) with h | h
        · exact h
        · have := HJ.out (by omega); have := HB.out; omega))
      go_wp2
      go_ret
      exact ⟨ret_int (by rw [HE.out]; rfl), rfl⟩

theorem nsq_to {a c : Nat} (ha : a < 256) (h : nm a a = c) (w : World) :
    Calls Try.prog 8 #[.int .u8 (a : Int)] w fun e w' => e = .returned (.int .u8 (c : Nat)) ∧ w' = w := by
  have := nsquare_any a w ha
  rw [h] at this
  exact this

set_option maxHeartbeats 400000 in
theorem nmark_any (a : Nat) (w : World) (ha : a < 256) :
    Calls Try.prog 13 #[.int .u8 (a : Int)] w fun e w' => e = .returned (.int .u8 (nmk a : Nat)) ∧ w' = w := by
  have h2 : npw a 2 = nm a a := npw_two a
  have h4 : npw a 4 = nm (npw a 2) (npw a 2) := npw_add a 2 2
  have h8 : npw a 8 = nm (npw a 4) (npw a 4) := npw_add a 4 4
  have HM : Hid (nmk a = ((a % 16 ^^^ npw a 2) ^^^ npw a 4) ^^^ npw a 8) := hid rfl
  have l2 := npw_lt a 2
  have l4 := npw_lt a 4
  have l8 := npw_lt a 8
  obtain ⟨p, hp⟩ : ∃ p, npw a 2 = p := ⟨_, rfl⟩
  obtain ⟨q, hq⟩ : ∃ q, npw a 4 = q := ⟨_, rfl⟩
  obtain ⟨r, hr⟩ : ∃ r, npw a 8 = r := ⟨_, rfl⟩
  rw [hp] at h2 h4 HM l2
  rw [hq] at h4 h8 HM l4
  rw [hr] at h8 HM l8
  have S1 := hid (nsq_to ha h2.symm)
  have S2 := hid (nsq_to (show p < 256 by omega) h4.symm)
  have S3 := hid (nsq_to (show q < 256 by omega) h8.symm)
  clear hp hq hr h2 h4 h8
  go_enter Try.func13, Try.ntmps13
  go_wp2_with (first
    | (go_at_call 8; (with_reducible refine (S1.out _).mono ?_); rintro e w1 ⟨rfl, rfl⟩)
    | (go_at_call 8; (with_reducible refine (S2.out _).mono ?_); rintro e w1 ⟨rfl, rfl⟩)
    | (go_at_call 8; (with_reducible refine (S3.out _).mono ?_); rintro e w1 ⟨rfl, rfl⟩))
  go_ret
  refine ⟨ret_int ?_, rfl⟩
  rw [HM.out, show ((a : Int) % 16) = ((a % 16 : Nat) : Int) by omega, xor8 (by omega) (by omega), xor8 (xor_lt (by omega) (by omega)) (by omega), xor8 (xor_lt (xor_lt (by omega) (by omega)) (by omega)) (by omega)]

theorem nrefpow_to {a n c : Nat} (ha : a < 256) (hn : n < 9223372036854775808) (h : npw a n = c) (w : World) :
    Calls Try.prog 10 #[.int .u8 (a : Int), .int .i64 (n : Int)] w fun e w' => e = .returned (.int .u8 (c : Nat)) ∧ w' = w := by
  have := nrefpow_any a n w ha (by omega)
  rw [npwi_nat, h] at this
  exact this

set_option maxHeartbeats 400000 in
theorem nrefmark_any (a : Nat) (w : World) (ha : a < 256) :
    Calls Try.prog 14 #[.int .u8 (a : Int)] w fun e w' => e = .returned (.int .u8 (nmk a : Nat)) ∧ w' = w := by
  have HM : Hid (nmk a = ((a % 16 ^^^ npw a 2) ^^^ npw a 4) ^^^ npw a 8) := hid rfl
  have l2 := npw_lt a 2
  have l4 := npw_lt a 4
  have l8 := npw_lt a 8
  obtain ⟨p, hp⟩ : ∃ p, npw a 2 = p := ⟨_, rfl⟩
  obtain ⟨q, hq⟩ : ∃ q, npw a 4 = q := ⟨_, rfl⟩
  obtain ⟨r, hr⟩ : ∃ r, npw a 8 = r := ⟨_, rfl⟩
  rw [hp] at HM l2
  rw [hq] at HM l4
  rw [hr] at HM l8
  have S1 : Hid (∀ w, Calls Try.prog 10 #[.int .u8 (a : Int), .int .i64 2] w fun e w' => e = .returned (.int .u8 (p : Nat)) ∧ w' = w) := hid (nrefpow_to ha (by decide) hp)
  have S2 : Hid (∀ w, Calls Try.prog 10 #[.int .u8 (a : Int), .int .i64 4] w fun e w' => e = .returned (.int .u8 (q : Nat)) ∧ w' = w) := hid (nrefpow_to ha (by decide) hq)
  have S3 : Hid (∀ w, Calls Try.prog 10 #[.int .u8 (a : Int), .int .i64 8] w fun e w' => e = .returned (.int .u8 (r : Nat)) ∧ w' = w) := hid (nrefpow_to ha (by decide) hr)
  clear hp hq hr
  go_enter Try.func14, Try.ntmps14
  go_wp2_with (first
    | (go_at_call 10; (with_reducible refine (S1.out _).mono ?_); rintro e w1 ⟨rfl, rfl⟩)
    | (go_at_call 10; (with_reducible refine (S2.out _).mono ?_); rintro e w1 ⟨rfl, rfl⟩)
    | (go_at_call 10; (with_reducible refine (S3.out _).mono ?_); rintro e w1 ⟨rfl, rfl⟩))
  go_ret
  refine ⟨ret_int ?_, rfl⟩
  rw [HM.out, show ((a : Int) % 16) = ((a % 16 : Nat) : Int) by omega, xor8 (by omega) (by omega), xor8 (xor_lt (by omega) (by omega)) (by omega), xor8 (xor_lt (xor_lt (by omega) (by omega)) (by omega)) (by omega)]

theorem nmul_one_case (w : World) : Calls Try.prog 6 #[.int .u8 8, .int .u8 2] w fun e w' => e = .returned (.int .u8 3) ∧ w' = w := by
  have H : ((nm 8 2 : Nat) : Int) = 3 := by decide +kernel
  have := nmul_any 8 2 w (by decide) (by decide)
  rw [H] at this
  exact this
theorem nmark_one_case (w : World) : Calls Try.prog 13 #[.int .u8 8] w fun e w' => e = .returned (.int .u8 1) ∧ w' = w := by
  have H : ((nmk 8 : Nat) : Int) = 1 := by decide +kernel
  have := nmark_any 8 w (by decide)
  rw [H] at this
  exact this
set_option maxHeartbeats 400000 in
theorem nawake_any (w : World) : Calls Try.prog 17 #[] w fun e w' => e = .returned (.bool true) ∧ w' = w := by
  go_enter Try.func17, Try.ntmps17
  go_wp2_with (first
    | (go_at_call 6; (with_reducible refine (nmul_one_case _).mono ?_); rintro e w1 ⟨rfl, rfl⟩)
    | (go_at_call 13; (with_reducible refine (nmark_one_case _).mono ?_); rintro e w1 ⟨rfl, rfl⟩))
  go_ret
  exact ⟨rfl, rfl⟩

set_option maxRecDepth 20000 in
set_option maxHeartbeats 400000 in
theorem nhalf_any (a z : Nat) (f : Bool) (w : World) (ha : a < 256) (hf : IsHalf a z f) :
    Calls Try.prog 18 #[.int .u8 (a : Int)] w fun e w' => e = .returned (.tuple #[.int .u8 z, .bool f]) ∧ w' = w := by
  have ht1 : ((a : Int) % 16) = ((a % 16 : Nat) : Int) := by omega
  obtain ⟨b, hb, hb16⟩ : ∃ b, a % 16 = b ∧ b < 16 := ⟨_, rfl, by omega⟩
  rw [hb] at ht1
  cases f with
  | true =>
    obtain ⟨h1, h2, h3, _⟩ := hf.1 rfl
    rw [hb] at h3
    have H3 := hid h3
    clear hf h3 hb
    go_enter Try.func18, Try.ntmps18
    go_wp2
    go_loop [5] (fun i => ∃ j : Nat, j ≤ z ∧ i = .int .u8 j) (fun i => 16 - (intOf i).toNat)
    case atStart => exact ⟨0, by omega, rfl⟩
    case round =>
      obtain ⟨j, hj, rfl⟩ := hrel
      have hx : bits .xor .u8 ((nm j j : Nat) : Int) (j : Int) = ((hs j : Nat) : Int) := xor8 (Nat.lt_of_lt_of_le (nm_lt _ _) (by decide)) (by omega)
      by_cases he : j = z
      · subst he
        have hb : (((hs j : Nat) : Int) == (b : Int)) = true := eqT ((H3.out j (by omega)).2 (.inl rfl))
        rw [← hx] at hb
        clear hx
        go_wp2_with (first | (go_at_call 8; (with_reducible refine (nsquare_any j _ (by omega)).mono ?_); rintro e w1 ⟨rfl, rfl⟩))
        go_ret2
        exact ⟨rfl, rfl⟩
      · have hb : (((hs j : Nat) : Int) == (b : Int)) = false := eqF (fun h => by
          rcases (H3.out j (by omega)).1 h with h | h <;> omega)
        rw [← hx] at hb
        clear hx
        go_wp2_with (first | (go_at_call 8; (with_reducible refine (nsquare_any j _ (by omega)).mono ?_); rintro e w1 ⟨rfl, rfl⟩))
        go_round
        case rel => exact ⟨j + 1, by omega, by go_num⟩
        case measure => simp [intOf]; omega
  | false =>
    obtain ⟨rfl, h3, _⟩ := hf.2 rfl
    rw [hb] at h3
    have H3 := hid h3
    clear hf h3 hb
    go_enter Try.func18, Try.ntmps18
    go_wp2
    go_loop [5] (fun i => ∃ j : Nat, j ≤ 16 ∧ i = .int .u8 j) (fun i => 16 - (intOf i).toNat)
    case atStart => exact ⟨0, by omega, rfl⟩
    case round =>
      obtain ⟨j, hj, rfl⟩ := hrel
      by_cases hlt : j < 16
      · have hx : bits .xor .u8 ((nm j j : Nat) : Int) (j : Int) = ((hs j : Nat) : Int) := xor8 (Nat.lt_of_lt_of_le (nm_lt _ _) (by decide)) (by omega)
        have hb : (((hs j : Nat) : Int) == (b : Int)) = false := eqF (H3.out j hlt)
        rw [← hx] at hb
        clear hx
        go_wp2_with (first | (go_at_call 8; (with_reducible refine (nsquare_any j _ (by omega)).mono ?_); rintro e w1 ⟨rfl, rfl⟩))
        go_round
        case rel => exact ⟨j + 1, by omega, by go_num⟩
        case measure => simp [intOf]; omega
      · obtain rfl : j = 16 := by omega
        go_wp2
        go_ret2
        exact ⟨rfl, rfl⟩
end Go.Proofs.Ytaalfbdlefmaoaa
