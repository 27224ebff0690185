import Derived.Test.YtmggmjilgjogfaaProg
import Derived.Test.YtmggmjilgjogfaaNba
namespace Go.Proofs.Ytmggmjilgjogfaa
open Go.RowKit

theorem nsq_all : ∀ a : Nat, a < 256 → bits .or .u8 (bits .or .u8 (bits .or .u8 (bits .and .u8 ((a : Int) / 8) 1 * 8 % 256)
    (bits .xor .u8 (bits .and .u8 ((a : Int) / 2) 1) (bits .and .u8 ((a : Int) / 8) 1) * 4 % 256)) (bits .and .u8 ((a : Int) / 4) 1 * 2 % 256))
    (bits .xor .u8 (bits .and .u8 (a : Int) 1) (bits .and .u8 ((a : Int) / 4) 1)) = ((nm a a : Nat) : Int) := by decide +kernel
end Go.Proofs.Ytmggmjilgjogfaa
