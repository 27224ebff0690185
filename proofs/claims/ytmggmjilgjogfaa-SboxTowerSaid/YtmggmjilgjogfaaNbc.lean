import Derived.Test.YtmggmjilgjogfaaProg
import Derived.Test.YtmggmjilgjogfaaNbb
namespace Go.Proofs.Ytmggmjilgjogfaa
open Go.RowKit

theorem nmul_one_case (w : World) : Calls Try.prog 63 #[.int .u8 8, .int .u8 2] w fun e w' => e = .returned (.int .u8 3) ∧ w' = w := by
  have H : ((nm 8 2 : Nat) : Int) = 3 := by decide +kernel
  have := nmul_any 8 2 w (by decide) (by decide)
  rw [H] at this
  exact this
end Go.Proofs.Ytmggmjilgjogfaa
