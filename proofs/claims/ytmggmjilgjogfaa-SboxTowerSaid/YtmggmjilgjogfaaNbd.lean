import Derived.Test.YtmggmjilgjogfaaProg
import Derived.Test.YtmggmjilgjogfaaNbc
namespace Go.Proofs.Ytmggmjilgjogfaa
open Go.RowKit

theorem hs_xor {j : Nat} (h : j < 16) : bits .xor .u8 ((nm j j : Nat) : Int) (j : Int) = ((hs j : Nat) : Int) := xor8 (Nat.lt_of_lt_of_le (nm_lt _ _) (by decide)) (by omega)

end Go.Proofs.Ytmggmjilgjogfaa
