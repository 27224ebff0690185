import Derived.Test.YtiejaedljebbfaaProg
import Derived.Test.YtiejaedljebbfaaCta
/- At. -/
namespace Go.Proofs.Ytiejaedljebbfaa
open Go.RowKit
set_option maxRecDepth 100000

/-- No answer, and why. -/
def none2 (e : Int) : Ending := .returned (.tuple #[.slice none 0 0, .int .i64 e])
theorem at_bad (a : Option Addr) (L c : Nat) (n : Int) (w : World) (h : L ≠ 16 ∨ n < 0) :
    Calls Try.prog 11 #[.slice a L c, .int .i64 n] w fun e w' => e = none2 (ckr L (decide (n < 0))) ∧ w' = w := by
  have HR := hid (refused_any a L c (decide (n < 0)) w)
  have hne : ckr L (decide (n < 0)) ≠ 0 := by
    rcases h with h | h
    · unfold ckr; rw [if_pos h]; decide
    · unfold ckr; rw [decide_eq_true h]
      by_cases h2 : L = 16
      · simp [h2]
      · simp [h2]
  generalize ckr L (decide (n < 0)) = x at *
  have h3 : (x != 0) = true := by rw [bne_iff_ne]; exact hne
  clear hne h
  go_enter Try.func11, Try.ntmps11
  go_wp2_with (go_at_call 20; refine HR.out.mono ?_; rintro e w1 ⟨rfl, rfl⟩)
  go_ret2
  exact ⟨rfl, rfl⟩
theorem at_ok (g off c : Nat) (f : Nat → Nat) (k : Nat) (w : World) (hk : k < 9223372036854775808) (h : Wd w 16 g off f) :
    Calls Try.prog 11 #[.slice (some ⟨g, off, none⟩) 16 c, .int .i64 k] w fun e w' =>
      e = .returned (.tuple #[.slice (some ⟨w.heap.size, 0, none⟩) 16 16, .int .i64 0]) ∧ Own .u8 w.heap.size 5 w' (.slice (some ⟨w.heap.size, 0, none⟩) 16 16) (ns 16 (lat f k)) ∧ Below w.heap.size w w' := by
  have HR := hid (refused_any (some ⟨g, off, none⟩) 16 c (decide ((k : Int) < 0)) w)
  have HL := hid (later_any g off c f k w hk h)
  have h0 : ckr 16 (decide ((k : Int) < 0)) = 0 := by rw [decide_eq_false (by omega)]; rfl
  rw [h0] at HR
  clear h hk h0
  have hd : decide ((k : Int) < 0) = false := decide_eq_false (by omega)
  rw [hd] at HR
  go_enter Try.func11, Try.ntmps11
  go_wp2_with (first
    | (go_at_call 20; (with_reducible refine HR.out.mono ?_); rintro e w1 ⟨rfl, rfl⟩)
    | (go_at_call 23; (with_reducible refine HL.out.mono ?_); rintro e w1 ⟨rfl, hown, hlow⟩; have HO := hid hown; have HB := hid hlow; clear hown hlow))
  go_ret2
  exact ⟨rfl, HO.out, HB.out⟩
end Go.Proofs.Ytiejaedljebbfaa
