import Derived.Test.YtmggmjilgjogfaaProg
import Derived.Test.YtmggmjilgjogfaaLib
import Derived.Test.YtmggmjilgjogfaaGfm
namespace Go.Proofs.Ytmggmjilgjogfaa
open Go.RowKit



set_option maxHeartbeats 400000 in
theorem twice_any (a : Nat) (w : World) (ha : a < 256) :
    Calls Try.prog 53 #[.int .u8 (a : Int)] w fun e w' => e = .returned (.int .u8 (tw a : Nat)) ∧ w' = w := by
  by_cases h : a < 128
  · have H := hid (show tw a = 2 * a from if_pos h)
    go_enter Try.func53, Try.ntmps53
    go_wp2
    go_ret
    exact ⟨ret_int (by rw [H.out]; omega), rfl⟩
  · have H := hid (show tw a = (2 * a - 256) ^^^ 27 from if_neg h)
    go_enter Try.func53, Try.ntmps53
    go_wp2
    go_ret
    refine ⟨ret_int ?_, rfl⟩
    rw [H.out, show ((a : Int) * 2 % 256) = ((2 * a - 256 : Nat) : Int) by omega]
    exact xor8 (b := 27) (by omega) (by decide)

set_option maxHeartbeats 400000 in
theorem mul_any (a b : Nat) (w : World) (ha : a < 256) (hb : b < 256) :
    Calls Try.prog 45 #[.int .u8 (a : Int), .int .u8 (b : Int)] w fun e w' => e = .returned (.int .u8 (gm a b : Nat)) ∧ w' = w := by
  go_enter Try.func45, Try.ntmps45
  go_wp2
  go_loop [0, 1, 5] (fun x y s => ∃ A B S : Nat, MulInv a b A B S ∧ x = .int .u8 A ∧ y = .int .u8 B ∧ s = .int .u8 S) (fun _ y _ => (intOf y).toNat)
  case atStart => exact ⟨a, b, 0, .start ha hb, rfl, rfl, rfl⟩
  case round =>
    obtain ⟨A, B, S, hI, rfl, rfl, rfl⟩ := hrel
    have hA := hI.1
    have hB := hI.2.1
    have hS := hI.2.2.1
    have HI := hid hI
    clear hI
    by_cases h0 : B = 0
    · subst h0
      go_wp2
      go_ret
      exact ⟨ret_int (by rw [HI.out.done]), rfl⟩
    · by_cases h1 : B % 2 = 1
      · have hb1 := odd8 hB h1
        go_wp2_with (first | (go_at_call 53; refine (twice_any A _ hA).mono ?_; rintro e w1 ⟨rfl, rfl⟩))
        go_round
        case rel => exact ⟨_, B / 2, S ^^^ A, HI.out.odd h1, rfl, by simp, by rw [xor8 hS hA]⟩
        case measure => simp [intOf]; omega
      · have hb1 := even8 hB h1
        go_wp2_with (first | (go_at_call 53; refine (twice_any A _ hA).mono ?_; rintro e w1 ⟨rfl, rfl⟩))
        go_round
        case rel => exact ⟨_, B / 2, S, HI.out.even h1 h0, rfl, by simp, rfl⟩
        case measure => simp [intOf]; omega

theorem shl_283 : ∀ k < 7, wrap64 (283 * 2 ^ k) = ((283 * 2 ^ k : Nat) : Int) := by decide +kernel

end Go.Proofs.Ytmggmjilgjogfaa
