import Derived.Test.YthfgpjebmhbedaaDoorProg
import Derived.Test.YthfgpjebmhbedaaDoorOcb
import Derived.Test.YthfgpjebmhbedaaDoorWrd
/- Op: what an op makes, by the document. -/
namespace Go.Proofs.YthfgpjebmhbedaaDoor
open Go.RowKit

theorem rotl_rtw {x m : Nat} (hx : x < 2 ^ 64) : rotl (x : Int) m = (rt x m : Nat) := by
  unfold rotl rt
  have d : ((x : Int) / 2 ^ (64 - m)) = ((x / 2 ^ (64 - m) : Nat) : Int) := by simp
  have e : IntKind.u64.wrap ((x : Int) * 2 ^ m) = ((x * 2 ^ m % 2 ^ 64 : Nat) : Int) := by rw [IntKind.wrap_u64]; simp
  rw [e, d, bits_or_u64_nat _ _ (Nat.mod_lt _ (by decide)) (by have := Nat.div_le_self x (2 ^ (64 - m)); omega)]
theorem orot_n {x m : Nat} {k : Int} (hx : x < 2 ^ 64) (hk : k % 64 = m) (w : World) :
    Calls Tryd.prog 19 #[.int .u64 (x : Int), .int .i64 k] w fun e w' => e = .returned (.int .u64 (rt x m : Nat)) ∧ w' = w := by
  have h := orot_any (x : Int) k w (by omega)
  rw [show (k % 64).toNat = m by omega, rotl_rtw hx] at h
  exact h
theorem rlow_n : ∀ n : Nat, n ≤ 64 → rlow n = ((2 ^ n - 1 : Nat) : Int) := by decide +kernel
/-- An op, as it comes in. -/
abbrev opV (K D A B E : Int) (C : Nat) : Value := .agg #[.int .i64 K, .int .i64 D, .int .i64 A, .int .i64 B, .int .i64 E, .int .u64 (C : Int)]
end Go.Proofs.YthfgpjebmhbedaaDoor
