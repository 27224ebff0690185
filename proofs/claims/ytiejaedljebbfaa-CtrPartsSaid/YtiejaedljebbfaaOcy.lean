import Derived.Test.YtiejaedljebbfaaProg
import Derived.Test.YtiejaedljebbfaaOcx
namespace Go.Proofs.Ytiejaedljebbfaa
open Go.RowKit

/-! ### Double -/
def dbByte (x y : Int) : Int := bits .or .u8 (x * 2 % 256) (y / 128)
def dbTo (zs : List Int) : Nat → List Int
  | 0 => zs
  | k + 1 => (dbTo zs k).set k (dbByte (nth (dbTo zs k) k) (nth (dbTo zs k) (k + 1)))
def dbLast (L : List Int) : List Int := L.set 15 (nth L 15 * 2 % 256)
def dbL (zs : List Int) : List Int :=
  if zs.length = 16 then
    (if 128 ≤ nth zs 0 then (dbLast (dbTo zs 15)).set 15 (bits .xor .u8 (nth (dbLast (dbTo zs 15)) 15) 135) else dbLast (dbTo zs 15))
  else []
theorem dbByte_bd (x y : Int) : 0 ≤ dbByte x y ∧ dbByte x y ≤ 255 := wf_u8 (wf_bits _ _ _ _)
theorem dbTo_len (zs : List Int) : ∀ k, (dbTo zs k).length = zs.length
  | 0 => rfl
  | k + 1 => by simp [dbTo, dbTo_len zs k]
theorem dbTo_bs {zs : List Int} (h : Bs zs) : ∀ k, Bs (dbTo zs k)
  | 0 => h
  | k + 1 => (dbTo_bs h k).set k (dbByte_bd _ _)

def rdByte (zs : List Int) (j : Nat) : Int := if j < 15 then nth zs j % 128 * 2 + nth zs (j + 1) / 128 else nth zs j % 128 * 2
def rdTo (zs : List Int) : Nat → List Int
  | 0 => []
  | k + 1 => rdTo zs k ++ [rdByte zs k]
theorem rdTo_len (zs : List Int) : ∀ k, (rdTo zs k).length = k
  | 0 => rfl
  | k + 1 => by simp [rdTo, rdTo_len zs k]
def rdL (zs : List Int) : List Int :=
  if zs.length = 16 then (if 128 ≤ nth zs 0 then (rdTo zs 16).set 15 (bits .xor .u8 (nth (rdTo zs 16) 15) 135) else rdTo zs 16) else []

end Go.Proofs.Ytiejaedljebbfaa
