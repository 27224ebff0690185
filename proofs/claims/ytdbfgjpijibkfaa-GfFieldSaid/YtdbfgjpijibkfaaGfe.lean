import Derived.Test.YtdbfgjpijibkfaaProg
import Derived.Test.YtdbfgjpijibkfaaGfd
namespace Go.Proofs.Ytdbfgjpijibkfaa
open Go.RowKit

theorem order_all (a : Nat) (ha : a < 256) : ∃ d : Nat, (a = 0 → d = 0) ∧ (a ≠ 0 → IsOrd a d) ∧
    (∀ w, Calls Try.prog 13 #[.int .u8 (a : Int)] w fun e w' => e = .returned (.int .i64 d) ∧ w' = w) ∧
    (∀ w, Calls Try.prog 14 #[.int .u8 (a : Int)] w fun e w' => e = .returned (.int .i64 d) ∧ w' = w) := by
  by_cases h0 : a = 0
  · subst h0
    exact ⟨0, fun _ => rfl, fun h => absurd rfl h, order_zero, reforder_zero⟩
  · obtain ⟨d, hd⟩ := ord_is ha h0
    exact ⟨d, fun h => absurd h h0, fun _ => hd, fun w => order_any a d w ha h0 hd, fun w => reforder_any a d w ha hd⟩
theorem log_all (a : Nat) (ha : a < 256) : ∃ l : Nat, ∃ f : Bool, (a = 0 → l = 0 ∧ f = false) ∧ (a ≠ 0 → IsLog a l ∧ f = true) ∧
    (∀ w, Calls Try.prog 16 #[.int .u8 (a : Int)] w fun e w' => e = .returned (.tuple #[.int .i64 l, .bool f]) ∧ w' = w) := by
  by_cases h0 : a = 0
  · subst h0
    exact ⟨0, false, fun _ => ⟨rfl, rfl⟩, fun h => absurd rfl h, log_zero⟩
  · obtain ⟨l, hl⟩ := log_is ha h0
    exact ⟨l, true, fun h => absurd h h0, fun _ => ⟨hl, rfl⟩, fun w => log_any a l w ha h0 hl⟩

theorem refmul2_any (a : Nat) (w : World) (ha : a < 256) :
    Calls Try.prog 7 #[.int .u8 (a : Int), .int .u8 2] w fun e w' => e = .returned (.int .u8 (tw a : Nat)) ∧ w' = w := by
  have := refmul_any a 2 w ha (by decide)
  rw [gm_two ha] at this
  exact this
theorem mul1_any (a : Nat) (w : World) (ha : a < 256) :
    Calls Try.prog 8 #[.int .u8 (a : Int), .int .u8 1] w fun e w' => e = .returned (.int .u8 (a : Nat)) ∧ w' = w := by
  have := mul_any a 1 w ha (by decide)
  rw [gm_one ha] at this
  exact this

set_option maxRecDepth 100000 in
set_option maxHeartbeats 1000000 in
theorem tells_core (a b : Nat) (n : Int) (w : World) (ha : a < 256) (hb : b < 256) (hn : n ≤ 9223372036854775807) :
    Calls Try.prog 3 #[.int .u8 (a : Int), .int .u8 (b : Int), .int .i64 n] w fun e w' => e = .returned (.bool true) ∧ w' = w := by
  obtain ⟨d, _, _, ho, hr⟩ := order_all a ha
  have HO := hid ho
  have HR := hid hr
  clear ho hr
  go_enter Try.func3, Try.ntmps3
  go_wp2_with (first
    | (go_at_call 6; (with_reducible refine (twice_any a _ ha).mono ?_); rintro e w1 ⟨rfl, rfl⟩)
    | (go_at_call 7; (with_reducible refine (refmul2_any a _ ha).mono ?_); rintro e w1 ⟨rfl, rfl⟩)
    | (go_at_call 8; (with_reducible refine (mul_any a b _ ha hb).mono ?_); rintro e w1 ⟨rfl, rfl⟩)
    | (go_at_call 7; (with_reducible refine (refmul_any a b _ ha hb).mono ?_); rintro e w1 ⟨rfl, rfl⟩)
    | (go_at_call 9; (with_reducible refine (pow_any a n _ ha hn).mono ?_); rintro e w1 ⟨rfl, rfl⟩)
    | (go_at_call 10; (with_reducible refine (refpow_any a n _ ha hn).mono ?_); rintro e w1 ⟨rfl, rfl⟩)
    | (go_at_call 11; (with_reducible refine (inv_any a _ ha).mono ?_); rintro e w1 ⟨rfl, rfl⟩)
    | (go_at_call 12; (with_reducible refine (refinv_any a _ ha).mono ?_); rintro e w1 ⟨rfl, rfl⟩)
    | (go_at_call 13; (with_reducible refine (HO.out _).mono ?_); rintro e w1 ⟨rfl, rfl⟩)
    | (go_at_call 14; (with_reducible refine (HR.out _).mono ?_); rintro e w1 ⟨rfl, rfl⟩)
    | (go_at_call 15; (with_reducible refine (awake_any _).mono ?_); rintro e w1 ⟨rfl, rfl⟩))
  go_ret
  exact ⟨rfl, rfl⟩
end Go.Proofs.Ytdbfgjpijibkfaa
