/- General: strings put behind one another in a region that draws. No program is named. -/
import Derived.Test.YthfgpjebmhbedaaDoorGen
import Derived.Test.YthfgpjebmhbedaaDoorLin
import Derived.Laws.Concat
namespace Go.Proofs.YthfgpjebmhbedaaDoor
open Go.RowKit
section
variable {P : Program} {ops : Array Oper} {S : World → Prop}
theorem yields_sadd {o : Oper} {a : Act} (hw : Region.wanted o (yielded ops a.tmps) = true) (t t' : TypeId) (x y : Operand) (ho : o.op = .binOp .add t x y t') (A B T : ByteArray) (hx : a.eval x = .string A) (hy : a.eval y = .string B) (hT : T = A ++ B) (hl : A.size + B.size ≤ 1000000) : YieldsIf P ops S o (.string T) a :=
  .inl ⟨hw, fun w _ => by
    have hz : ¬ 9223372036854775807 < A.size + B.size := by omega
    subst hT
    unfold execOp
    simp only [ho, hx, hy, binOp_string_add]
    go_simp⟩
end
end Go.Proofs.YthfgpjebmhbedaaDoor
