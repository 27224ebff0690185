import Derived.Test.YtaalfbdlefmaoaaProg
import Derived.Test.YtaalfbdlefmaoaaNbe
namespace Go.Proofs.Ytaalfbdlefmaoaa
open Go.RowKit

theorem xor_one_all : ∀ z < 15, z % 2 = 0 → z ^^^ 1 = z + 1 := by decide +kernel

set_option maxRecDepth 20000 in
set_option maxHeartbeats 1000000 in
theorem nhalves_core (a : Nat) (w : World) (ha : a < 256) :
    Calls Try.prog 5 #[.int .u8 (a : Int)] w fun e w' => e = .returned (.bool true) ∧ w' = w := by
  obtain ⟨z, f, hf⟩ := half_is a
  have HF := hid hf
  have ht1 : ((a : Int) % 16) = ((a % 16 : Nat) : Int) := by omega
  obtain ⟨b, hb, hb16⟩ : ∃ b, a % 16 = b ∧ b < 16 := ⟨_, rfl, by omega⟩
  rw [hb] at ht1
  cases f with
  | true =>
    obtain ⟨h1, h2, h3, _⟩ := hf.1 rfl
    rw [hb] at h3
    have H3 := hid h3
    have hxz : bits .xor .u8 (z : Int) 1 = ((z + 1 : Nat) : Int) := by
      rw [← xor_one_all z h1 h2]; exact xor8 (b := 1) (by omega) (by decide)
    have HXZ := hid hxz
    clear hf h3 hb hxz
    go_enter Try.func5, Try.ntmps5
    go_wp2_with (first
      | (go_at_call 18; (with_reducible refine (nhalf_any a z true _ ha HF.out).mono ?_); rintro e w1 ⟨rfl, rfl⟩)
      | (go_at_call 15; (with_reducible refine (napart_any a z true _ ha HF.out).mono ?_); rintro e w1 ⟨rfl, rfl⟩))
    go_loop [5, 6] (fun n i => ∃ j c : Nat, j ≤ 16 ∧ (j ≤ z ∧ c = 0 ∨ j = z + 1 ∧ c = 1 ∨ z + 2 ≤ j ∧ c = 2) ∧ i = .int .i64 j ∧ n = .int .i64 c) (fun _ i => 16 - (intOf i).toNat)
    case atStart => exact ⟨0, 0, by omega, .inl ⟨by omega, rfl⟩, rfl, rfl⟩
    case round =>
      obtain ⟨j, c, hj, hc, rfl, rfl⟩ := hrel
      by_cases hlt : j < 16
      · have hx := hs_xor hlt
        by_cases he : j = z
        · subst he
          obtain rfl : c = 0 := by omega
          have hb : (((hs j : Nat) : Int) == (b : Int)) = true := eqT ((H3.out j (by omega)).2 (.inl rfl))
          rw [← hx] at hb
          clear hx hc
          go_wp2_with (first | (go_at_call 7; (with_reducible refine (nrefmul_any j j _ (by omega) (by omega)).mono ?_); rintro e w1 ⟨rfl, rfl⟩))
          go_round
          case rel => exact ⟨j + 1, 1, by omega, .inr (.inl ⟨rfl, rfl⟩), by go_num, by go_num⟩
          case measure => simp [intOf]; omega
        · by_cases he2 : j = z + 1
          · obtain rfl : c = 1 := by omega
            have hb : (((hs j : Nat) : Int) == (b : Int)) = true := eqT ((H3.out j (by omega)).2 (.inr he2))
            have hxj : bits .xor .u8 (z : Int) 1 = (j : Int) := by rw [HXZ.out, he2]
            have hzj : z < j := by omega
            have H2 := hid he2
            rw [← hx] at hb
            clear hx hc he2 he
            go_wp2_with (first | (go_at_call 7; (with_reducible refine (nrefmul_any j j _ (by omega) (by omega)).mono ?_); rintro e w1 ⟨rfl, rfl⟩))
            go_round
            case rel => exact ⟨j + 1, 2, by omega, .inr (.inr ⟨by omega, rfl⟩), by go_num, by go_num⟩
            case measure => simp [intOf]; omega
          · have hb : (((hs j : Nat) : Int) == (b : Int)) = false := eqF (fun h => by
              rcases (H3.out j (by omega)).1 h with h | h <;> omega)
            rw [← hx] at hb
            clear hx
            have hc2 : (j + 1 ≤ z ∧ c = 0 ∨ j + 1 = z + 1 ∧ c = 1 ∨ z + 2 ≤ j + 1 ∧ c = 2) := by omega
            have HC2 := hid hc2
            clear hc hc2
            go_wp2_with (first | (go_at_call 7; (with_reducible refine (nrefmul_any j j _ (by omega) (by omega)).mono ?_); rintro e w1 ⟨rfl, rfl⟩))
            go_round
            case rel => exact ⟨j + 1, c, by omega, HC2.out, by go_num, by go_num⟩
            case measure => simp [intOf]; omega
      · obtain rfl : j = 16 := by omega
        obtain rfl : c = 2 := by omega
        clear hc
        go_wp2_with (first | (go_at_call 17; (with_reducible refine (nawake_any _).mono ?_); rintro e w1 ⟨rfl, rfl⟩))
        go_ret
        exact ⟨rfl, rfl⟩
  | false =>
    obtain ⟨rfl, h3, _⟩ := hf.2 rfl
    rw [hb] at h3
    have H3 := hid h3
    have HN : Hid (∀ w, Calls Try.prog 18 #[.int .u8 (a : Int)] w fun e w' => e = .returned (.tuple #[.int .u8 0, .bool false]) ∧ w' = w) := hid (fun w => nhalf_any a 0 false w ha hf)
    clear hf h3 hb
    go_enter Try.func5, Try.ntmps5
    go_wp2_with (first
      | (go_at_call 18; (with_reducible refine (HN.out _).mono ?_); rintro e w1 ⟨rfl, rfl⟩)
      | (go_at_call 15; (with_reducible refine (napart_any a 0 false _ ha HF.out).mono ?_); rintro e w1 ⟨rfl, rfl⟩))
    go_loop [5, 6] (fun n i => ∃ j : Nat, j ≤ 16 ∧ i = .int .i64 j ∧ n = .int .i64 0) (fun _ i => 16 - (intOf i).toNat)
    case atStart => exact ⟨0, by omega, rfl, rfl⟩
    case round =>
      obtain ⟨j, hj, rfl, rfl⟩ := hrel
      by_cases hlt : j < 16
      · have hx := hs_xor hlt
        have hb : (((hs j : Nat) : Int) == (b : Int)) = false := eqF (H3.out j hlt)
        rw [← hx] at hb
        clear hx
        go_wp2_with (first | (go_at_call 7; (with_reducible refine (nrefmul_any j j _ (by omega) (by omega)).mono ?_); rintro e w1 ⟨rfl, rfl⟩))
        go_round
        case rel => exact ⟨j + 1, by omega, by go_num, rfl⟩
        case measure => simp [intOf]; omega
      · obtain rfl : j = 16 := by omega
        go_wp2_with (first | (go_at_call 17; (with_reducible refine (nawake_any _).mono ?_); rintro e w1 ⟨rfl, rfl⟩))
        go_ret
        exact ⟨rfl, rfl⟩
end Go.Proofs.Ytaalfbdlefmaoaa
