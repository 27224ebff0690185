import Derived.Test.YtiejaedljebbfaaProg
import Derived.Test.YtiejaedljebbfaaOct
namespace Go.Proofs.Ytiejaedljebbfaa
open Go.RowKit

def rrTo (x : Int) : Nat → Int
  | 0 => x
  | k + 1 => IntKind.u64.wrap (IntKind.u64.wrap (rrTo x k * 2) + rrTo x k / 9223372036854775808)

def dif (xs ys : List Int) : Nat → Int
  | 0 => 0
  | k + 1 => bits .or .u8 (dif xs ys k) (bits .xor .u8 (nth xs k) (nth ys k))
theorem and63 (k : Int) : bits .and .u64 (IntKind.u64.wrap k) 63 = k % 64 := by
  rw [u64_and _ _ (by rw [IntKind.wrap_u64]; omega) (by rw [IntKind.wrap_u64]; omega) (by omega) (by omega), IntKind.wrap_u64]
  have h : (63 : Int).toNat = 2 ^ 6 - 1 := rfl
  rw [h, Nat.and_two_pow_sub_one_eq_mod]
  omega
def rotl (x : Int) (m : Nat) : Int := bits .or .u64 (IntKind.u64.wrap (x * 2 ^ m)) (x / 2 ^ (64 - m))
def lowL (m : Nat) : Int := IntKind.u64.wrap (IntKind.u64.wrap (2 ^ m) - 1)
def rlow : Nat → Int
  | 0 => 0
  | k + 1 => IntKind.u64.wrap (IntKind.u64.wrap (rlow k * 2) + 1)
end Go.Proofs.Ytiejaedljebbfaa
