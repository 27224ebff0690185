import Derived.Test.YtfomgomdhejfbaaProg
import Derived.Test.YtfomgomdhejfbaaNbc
namespace Go.Proofs.Ytfomgomdhejfbaa
open Go.RowKit

theorem hs_xor {j : Nat} (h : j < 16) : bits .xor .u8 ((nm j j : Nat) : Int) (j : Int) = ((hs j : Nat) : Int) := xor8 (Nat.lt_of_lt_of_le (nm_lt _ _) (by decide)) (by omega)

end Go.Proofs.Ytfomgomdhejfbaa
