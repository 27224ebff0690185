import Derived.Test.YthfgpjebmhbedaaGen
/- General: a string out of an array of strings. No program is named. -/
namespace Go.Proofs.Ythfgpjebmhbedaa
open Go.RowKit
section
variable {P : Program}
theorem run_index_str (w : World) (t e : TypeId) (n : Nat) (cs : Array Value) (j : Nat) (s : ByteArray) (hu : P.underlying t = some (.array n e)) (he : P.underlying e = some .string) (hs : (P.info? e).map (·.size) = some 1) (hj : j < n) (hg : cs[j]? = some (.string s)) :
    (Instr.index t (.agg cs) (.int .i64 (j : Int))).run P w = .ok (.string s) w := by
  obtain ⟨i, hi, h1⟩ : ∃ i, P.info? e = some i ∧ i.size = 1 := by
    cases hq : P.info? e with
    | none => simp [hq] at hs
    | some i => exact ⟨i, rfl, by simpa [hq] using hs⟩
  have hb : 0 ≤ (j : Int) ∧ (j : Int) < (n : Int) := ⟨by omega, by omega⟩
  simp [Instr.index, asIntOf, run_underlying hu, run_underlying he, hj, isAgg, sizeOf, typeInfo, hi, h1, part, hg, go_sem]
end
end Go.Proofs.Ythfgpjebmhbedaa
