import Derived.Test.YtmggmjilgjogfaaProg
import Derived.Test.YtmggmjilgjogfaaNbd
namespace Go.Proofs.Ytmggmjilgjogfaa
open Go.RowKit

theorem nmul_to {a b c : Nat} (ha : a < 256) (hb : b < 256) (h : nm a b = c) (w : World) :
    Calls Try.prog 63 #[.int .u8 (a : Int), .int .u8 (b : Int)] w fun e w' => e = .returned (.int .u8 (c : Nat)) ∧ w' = w := by
  have := nmul_any a b w ha hb
  rw [h] at this
  exact this
theorem low_int {a : Nat} : ∃ A : Nat, A < 16 ∧ (a : Int) % 16 = (A : Int) := ⟨a % 16, lt16 a, by omega⟩

end Go.Proofs.Ytmggmjilgjogfaa
