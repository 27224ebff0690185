import Derived.Test.YthopdlcmmafcaaaProg
import Derived.Test.YthopdlcmmafcaaaTpa
import Derived.Test.YthopdlcmmafcaaaTrs
import Derived.Laws.StructEq
/- Ops and spans held against each other. -/
namespace Go.Proofs.Ythopdlcmmafcaaa
open Go.RowKit
set_option maxRecDepth 100000
abbrev spC (s : Sp3) : Array Value := #[.int .i64 s.K, .int .i64 s.F, .int .i64 s.T]
theorem fields42 : Try.prog.underlying 42 = some (.struct (Try.prog.fieldsOf 42)) := by kernel_rfl
theorem fields40 : Try.prog.underlying 40 = some (.struct (Try.prog.fieldsOf 40)) := by kernel_rfl
theorem ite_ok {b : Bool} {c : Prop} [Decidable c] {w : World} (h : b = decide c) : (if c then Result.ok true w else Result.ok false w : Result Bool) = Result.ok b w := by
  subst h
  by_cases e : c
  · rw [if_pos e, decide_eq_true e]
  · rw [if_neg e, decide_eq_false e]
theorem eqSp (x y : Sp3) (w : World) : (Op.equalIn 10000 42 (.agg (spC x)) (.agg (spC y))).run Try.prog w = .ok (smS x y) w := by
  rw [run_equalIn_struct w 9999 42 _ _ fields42 (by kernel_rfl)]
  simp only [Program.fieldsOf, Try.underlying42]
  go_simp
  unfold smS
  by_cases h1 : x.K = y.K
  · by_cases h2 : x.F = y.F
    · by_cases h3 : x.T = y.T
      · simp [h1, h2, h3]
      · simp [h1, h2, h3]
    · simp [h1, h2]
  · simp [h1]
theorem eqOp (x y : Op6) (w : World) : (Op.equalIn 10000 40 (.agg (opC x)) (.agg (opC y))).run Try.prog w = .ok (decide (x.K = y.K ∧ x.D = y.D ∧ x.A = y.A ∧ x.B = y.B ∧ x.E = y.E ∧ x.C = y.C)) w := by
  rw [run_equalIn_struct w 9999 40 _ _ fields40 (by kernel_rfl)]
  simp only [Program.fieldsOf, Try.underlying40]
  go_simp
  by_cases h1 : x.K = y.K
  · by_cases h2 : x.D = y.D
    · by_cases h3 : x.A = y.A
      · by_cases h4 : x.B = y.B
        · by_cases h5 : x.E = y.E
          · by_cases h6 : x.C = y.C
            · simp [h1, h2, h3, h4, h5, h6]
            · simp [h1, h2, h3, h4, h5, h6]; omega
          · simp [h1, h2, h3, h4, h5]
        · simp [h1, h2, h3, h4]
      · simp [h1, h2, h3]
    · simp [h1, h2]
  · simp [h1]
theorem guardSp : Try.prog.eqGuardType Try.prog.depth 42 = false := by kernel_rfl
theorem guardOp : Try.prog.eqGuardType Try.prog.depth 40 = false := by kernel_rfl
theorem exec_neSp {w : World} {o : Oper} {a : Act} (u v : Operand) (ho : o.op = .binOp .neq 42 u v 42) (x y : Sp3) (hx : a.eval u = .agg (spC x)) (hy : a.eval v = .agg (spC y)) :
    (execOp a.eval o).run Try.prog w = .ok (.value (.bool (!(smS x y)))) w := by
  have heq := fun w => eqSp x y w
  have hguard := guardSp
  unfold execOp
  rw [ho]
  simp only [hx, hy]
  generalize spC x = A at *
  generalize spC y = B at *
  generalize smS x y = q at *
  go_simp
theorem exec_neOp {w : World} {o : Oper} {a : Act} (u v : Operand) (ho : o.op = .binOp .neq 40 u v 40) (x y : Op6) (hx : a.eval u = .agg (opC x)) (hy : a.eval v = .agg (opC y)) :
    (execOp a.eval o).run Try.prog w = .ok (.value (.bool (!(decide (x.K = y.K ∧ x.D = y.D ∧ x.A = y.A ∧ x.B = y.B ∧ x.E = y.E ∧ x.C = y.C))))) w := by
  have heq := fun w => eqOp x y w
  have hguard := guardOp
  unfold execOp
  rw [ho]
  simp only [hx, hy]
  generalize opC x = A at *
  generalize opC y = B at *
  generalize decide (x.K = y.K ∧ x.D = y.D ∧ x.A = y.A ∧ x.B = y.B ∧ x.E = y.E ∧ x.C = y.C) = q at *
  go_simp
theorem step_neOp {w : World} {ops : Array Oper} {rest : List Oper} {o : Oper} {a : Act} {Q : Exit → Act → World → Prop} (hw : o.guard = none) (u v : Operand) (ho : o.op = .binOp .neq 40 u v 40) (x y : Op6) (q : Bool)
    (hx : a.eval u = .agg (opC x)) (hy : a.eval v = .agg (opC y)) (hq : (!(decide (x.K = y.K ∧ x.D = y.D ∧ x.A = y.A ∧ x.B = y.B ∧ x.E = y.E ∧ x.C = y.C))) = q) (k : wpList Try.prog ops Q rest (a.put o.dst (.bool q)) w) : wpList Try.prog ops Q (o :: rest) a w :=
  wpList_plain hw fun _ hK => by
    unfold Oper.wp
    rw [exec_neOp u v ho x y hx hy, hq]
    exact hK _ _ k
end Go.Proofs.Ythopdlcmmafcaaa
