import Derived.Test.YtmggmjilgjogfaaProg
import Derived.Test.YtmggmjilgjogfaaTwa
import Derived.Test.YtmggmjilgjogfaaNbc
namespace Go.Proofs.Ytmggmjilgjogfaa
open Go.RowKit

theorem tmul_to {a b c : Nat} (ha : a < 256) (hb : b < 256) (h : tm a b = c) (w : World) :
    Calls Try.prog 51 #[.int .u8 (a : Int), .int .u8 (b : Int)] w fun e w' => e = .returned (.int .u8 (c : Nat)) ∧ w' = w := by
  have := tmul_any a b w ha hb
  rw [h] at this
  exact this
theorem trefmul_to {a b c : Nat} (ha : a < 256) (hb : b < 256) (h : tm a b = c) (w : World) :
    Calls Try.prog 18 #[.int .u8 (a : Int), .int .u8 (b : Int)] w fun e w' => e = .returned (.int .u8 (c : Nat)) ∧ w' = w := by
  have := trefmul_any a b w ha hb
  rw [h] at this
  exact this

set_option maxRecDepth 20000 in
theorem trefinv_any (a : Nat) (w : World) (ha : a < 256) :
    Calls Try.prog 7 #[.int .u8 (a : Int)] w fun e w' => e = .returned (.int .u8 (ti a : Nat)) ∧ w' = w := by
  have HM := hid (fun b w (hb : b < 256) => trefmul_any a b w ha hb)
  have HL := hid (tm_lt a)
  have HO := hid (fun b (hb : b < 256) (h : tm a b = 1) => ti_only ha hb h)
  have HI := hid (fun h0 : a ≠ 0 => (⟨tm_ti ha h0, ti_lt a, ti_pos ha h0⟩ : tm a (ti a) = 1 ∧ ti a < 256 ∧ 1 ≤ ti a))
  have HZ := hid (fun h0 : a = 0 => show ti a = 0 from h0 ▸ ti_zero)
  generalize ti a = v at *
  go_enter Try.func7, Try.ntmps7
  go_wp2
  go_loop [3] (fun i => ∃ j : Nat, 1 ≤ j ∧ j ≤ 256 ∧ (a ≠ 0 → j ≤ v) ∧ i = .int .i64 j) (fun i => 256 - (intOf i).toNat)
  case atStart => exact ⟨1, by omega, by omega, fun h => (HI.out h).2.2, rfl⟩
  case round =>
    obtain ⟨j, hj1, hj, hv, rfl⟩ := hrel
    have HV := hid hv
    clear hv
    by_cases h8 : j < 256
    · by_cases hm : tm a j = 1
      · have HE := hid (HO.out j h8 hm)
        have MM : Hid (∀ w, Calls Try.prog 18 #[.int .u8 (a : Int), .int .u8 (j : Int)] w fun e w' => e = .returned (.int .u8 1) ∧ w' = w) := hid (fun w => trefmul_to ha h8 hm w)
        clear hm
        go_wp2_with (first | (go_at_call 18; (with_reducible refine (MM.out _).mono ?_); rintro e w1 ⟨rfl, rfl⟩))
        go_ret
        exact ⟨ret_int (by rw [HE.out]), rfl⟩
      · obtain ⟨c, hc⟩ : ∃ c, tm a j = c := ⟨_, rfl⟩
        have MM := hid (fun w => trefmul_to ha h8 hc w)
        have hb : ((c : Int) == 1) = false := eqF (y := 1) (by rw [← hc]; exact hm)
        have HV2 : Hid (a ≠ 0 → j + 1 ≤ v) := hid (fun h => by
          have h1 := HV.out h
          have h2 := (HI.out h).1
          by_cases e : j = v
          · rw [← e] at h2; exact absurd h2 hm
          · omega)
        clear hm hc
        go_wp2_with (first | (go_at_call 18; (with_reducible refine (MM.out _).mono ?_); rintro e w1 ⟨rfl, rfl⟩))
        go_round
        case rel => exact ⟨j + 1, by omega, by omega, HV2.out, by go_num⟩
        case measure => simp [intOf]; omega
    · have HE : Hid (v = 0) := hid (HZ.out (by
        by_cases e : a = 0
        · exact e
        · have h1 := HV.out e
          have h2 := (HI.out e).2.1
          omega))
      go_wp2
      go_ret
      exact ⟨ret_int (by rw [HE.out]; rfl), rfl⟩

end Go.Proofs.Ytmggmjilgjogfaa
