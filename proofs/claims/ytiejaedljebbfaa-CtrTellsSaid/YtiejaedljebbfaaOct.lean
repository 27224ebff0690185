import Derived.Test.YtiejaedljebbfaaProg
import Derived.Test.YtiejaedljebbfaaGen
namespace Go.Proofs.Ytiejaedljebbfaa
open Go.RowKit

def byteAt (zs : List Int) (p : Int) : Int := if 0 ≤ p ∧ p < zs.length then nth zs p.toNat else 0
theorem byteAt_in {zs : List Int} {p : Int} (h1 : 0 ≤ p) (h2 : p < zs.length) : byteAt zs p = nth zs p.toNat := if_pos ⟨h1, h2⟩
theorem byteAt_out {zs : List Int} {p : Int} (h : p < 0 ∨ zs.length ≤ p) : byteAt zs p = 0 := if_neg (by omega)
theorem wf_u8 {z : Int} (h : (Lit.int .u8 z).wf = true) : 0 ≤ z ∧ z ≤ 255 := bounds_u8 h
theorem byteAt_bd {zs : List Int} (hz : ∀ z ∈ zs, (Lit.int .u8 z).wf = true) (p : Int) : 0 ≤ byteAt zs p ∧ byteAt zs p ≤ 255 := by
  unfold byteAt
  split
  · exact range_u8 hz _
  · omega
theorem u8lim {w : World} {v : Value} {zs : List Int} (h : Rd .u8 w v zs) : zs.length ≤ 140737488351232 := by
  obtain ⟨_, _, _, h, _⟩ := h
  simpa [IntKind.bits] using h

def ldTo (zs : List Int) (a : Int) : Nat → Int
  | 0 => 0
  | k + 1 => if 0 ≤ a + k ∧ a + k < zs.length then bits .or .u64 (ldTo zs a k) (IntKind.u64.wrap (IntKind.u64.wrap (nth zs (a + k).toNat) * 2 ^ (8 * k))) else ldTo zs a k

def rlTo (zs : List Int) (a : Int) : Nat → Int
  | 0 => 0
  | k + 1 => IntKind.u64.wrap (IntKind.u64.wrap (rlTo zs a k * 256) + IntKind.u64.wrap (byteAt zs (a + (7 - k))))
def rl (zs : List Int) (a : Int) : Int := if a < -8 ∨ zs.length ≤ a then 0 else rlTo zs a 8

end Go.Proofs.Ytiejaedljebbfaa
