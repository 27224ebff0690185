import Derived.Test.YtaalfbdlefmaoaaProg
import Derived.Test.YtaalfbdlefmaoaaNbc
namespace Go.Proofs.Ytaalfbdlefmaoaa
open Go.RowKit

set_option maxHeartbeats 400000 in
theorem napart_any (a z : Nat) (f : Bool) (w : World) (ha : a < 256) (hf : IsHalf a z f) :
    Calls Try.prog 15 #[.int .u8 (a : Int)] w fun e w' => e = .returned (.bool (!f)) ∧ w' = w := by
  have HF := hid hf
  clear hf
  go_enter Try.func15, Try.ntmps15
  go_wp2_with (first | (go_at_call 18; (with_reducible refine (nhalf_any a z f _ ha HF.out).mono ?_); rintro e w1 ⟨rfl, rfl⟩))
  go_ret
  exact ⟨rfl, rfl⟩

theorem hs_xor {j : Nat} (h : j < 16) : bits .xor .u8 ((nm j j : Nat) : Int) (j : Int) = ((hs j : Nat) : Int) := xor8 (Nat.lt_of_lt_of_le (nm_lt _ _) (by decide)) (by omega)

set_option maxRecDepth 20000 in
set_option maxHeartbeats 400000 in
theorem nrefapart_any (a z : Nat) (f : Bool) (w : World) (ha : a < 256) (hf : IsHalf a z f) :
    Calls Try.prog 16 #[.int .u8 (a : Int)] w fun e w' => e = .returned (.bool (!f)) ∧ w' = w := by
  have ht1 : ((a : Int) % 16) = ((a % 16 : Nat) : Int) := by omega
  obtain ⟨b, hb, hb16⟩ : ∃ b, a % 16 = b ∧ b < 16 := ⟨_, rfl, by omega⟩
  rw [hb] at ht1
  cases f with
  | true =>
    obtain ⟨h1, h2, h3, _⟩ := hf.1 rfl
    rw [hb] at h3
    have H3 := hid h3
    clear hf h3 hb
    go_enter Try.func16, Try.ntmps16
    go_wp2
    go_loop [3] (fun i => ∃ j : Nat, j ≤ z ∧ i = .int .i64 j) (fun i => 16 - (intOf i).toNat)
    case atStart => exact ⟨0, by omega, rfl⟩
    case round =>
      obtain ⟨j, hj, rfl⟩ := hrel
      have hx := hs_xor (show j < 16 by omega)
      by_cases he : j = z
      · subst he
        have hb : (((hs j : Nat) : Int) == (b : Int)) = true := eqT ((H3.out j (by omega)).2 (.inl rfl))
        rw [← hx] at hb
        clear hx
        go_wp2_with (first | (go_at_call 7; (with_reducible refine (nrefmul_any j j _ (by omega) (by omega)).mono ?_); rintro e w1 ⟨rfl, rfl⟩))
        go_ret
        exact ⟨rfl, rfl⟩
      · have hb : (((hs j : Nat) : Int) == (b : Int)) = false := eqF (fun h => by
          rcases (H3.out j (by omega)).1 h with h | h <;> omega)
        rw [← hx] at hb
        clear hx
        go_wp2_with (first | (go_at_call 7; (with_reducible refine (nrefmul_any j j _ (by omega) (by omega)).mono ?_); rintro e w1 ⟨rfl, rfl⟩))
        go_round
        case rel => exact ⟨j + 1, by omega, by go_num⟩
        case measure => simp [intOf]; omega
  | false =>
    obtain ⟨rfl, h3, _⟩ := hf.2 rfl
    rw [hb] at h3
    have H3 := hid h3
    clear hf h3 hb
    go_enter Try.func16, Try.ntmps16
    go_wp2
    go_loop [3] (fun i => ∃ j : Nat, j ≤ 16 ∧ i = .int .i64 j) (fun i => 16 - (intOf i).toNat)
    case atStart => exact ⟨0, by omega, rfl⟩
    case round =>
      obtain ⟨j, hj, rfl⟩ := hrel
      by_cases hlt : j < 16
      · have hx := hs_xor hlt
        have hb : (((hs j : Nat) : Int) == (b : Int)) = false := eqF (H3.out j hlt)
        rw [← hx] at hb
        clear hx
        go_wp2_with (first | (go_at_call 7; (with_reducible refine (nrefmul_any j j _ (by omega) (by omega)).mono ?_); rintro e w1 ⟨rfl, rfl⟩))
        go_round
        case rel => exact ⟨j + 1, by omega, by go_num⟩
        case measure => simp [intOf]; omega
      · obtain rfl : j = 16 := by omega
        go_wp2
        go_ret
        exact ⟨rfl, rfl⟩

set_option maxRecDepth 100000 in
set_option maxHeartbeats 1000000 in
theorem ntells_core (a b : Nat) (n : Int) (w : World) (ha : a < 256) (hb : b < 256) (hn : n ≤ 9223372036854775807) :
    Calls Try.prog 3 #[.int .u8 (a : Int), .int .u8 (b : Int), .int .i64 n] w fun e w' => e = .returned (.bool true) ∧ w' = w := by
  obtain ⟨z, f, hf⟩ := half_is a
  have HF := hid hf
  clear hf
  go_enter Try.func3, Try.ntmps3
  go_wp2_with (first
    | (go_at_call 6; (with_reducible refine (nmul_any a b _ ha hb).mono ?_); rintro e w1 ⟨rfl, rfl⟩)
    | (go_at_call 7; (with_reducible refine (nrefmul_any a b _ ha hb).mono ?_); rintro e w1 ⟨rfl, rfl⟩)
    | (go_at_call 8; (with_reducible refine (nsquare_any a _ ha).mono ?_); rintro e w1 ⟨rfl, rfl⟩)
    | (go_at_call 7; (with_reducible refine (nrefmul_any a a _ ha ha).mono ?_); rintro e w1 ⟨rfl, rfl⟩)
    | (go_at_call 9; (with_reducible refine (npow_any a n _ ha hn).mono ?_); rintro e w1 ⟨rfl, rfl⟩)
    | (go_at_call 10; (with_reducible refine (nrefpow_any a n _ ha hn).mono ?_); rintro e w1 ⟨rfl, rfl⟩)
    | (go_at_call 11; (with_reducible refine (ninv_any a _ ha).mono ?_); rintro e w1 ⟨rfl, rfl⟩)
    | (go_at_call 12; (with_reducible refine (nrefinv_any a _ ha).mono ?_); rintro e w1 ⟨rfl, rfl⟩)
    | (go_at_call 13; (with_reducible refine (nmark_any a _ ha).mono ?_); rintro e w1 ⟨rfl, rfl⟩)
    | (go_at_call 14; (with_reducible refine (nrefmark_any a _ ha).mono ?_); rintro e w1 ⟨rfl, rfl⟩)
    | (go_at_call 15; (with_reducible refine (napart_any a z f _ ha HF.out).mono ?_); rintro e w1 ⟨rfl, rfl⟩)
    | (go_at_call 16; (with_reducible refine (nrefapart_any a z f _ ha HF.out).mono ?_); rintro e w1 ⟨rfl, rfl⟩)
    | (go_at_call 17; (with_reducible refine (nawake_any _).mono ?_); rintro e w1 ⟨rfl, rfl⟩))
  go_ret
  exact ⟨by simp, rfl⟩
end Go.Proofs.Ytaalfbdlefmaoaa
