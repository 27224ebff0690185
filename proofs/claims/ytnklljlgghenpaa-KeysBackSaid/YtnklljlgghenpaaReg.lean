/- General: a region that draws its order, one operation after another by hand: what may be taken first, guarded operations that are passed over among it. No program is named. -/
import Derived.Test.YtnklljlgghenpaaArr
import Derived.Deep.RegionHeld3
import Derived.BigRegion
import Derived.StillTailTactics
namespace Go.Proofs.Ytnklljlgghenpaa
open Go.RowKit

section
variable {P : Program} {ops : Array Oper} {S : World → Prop} {o : Oper} {a : Act}
theorem y_skip (hw : Region.wanted o (yielded ops a.tmps) = false) : YieldsIf P ops S o undef a := .inr ⟨hw, rfl⟩
theorem y_move (hw : Region.wanted o (yielded ops a.tmps) = true) (x : Operand) (h : o.op = .move x) : YieldsIf P ops S o (a.eval x) a := .inl ⟨hw, fun w _ => BigFrame.run_move x h w⟩
theorem y_assign (hw : Region.wanted o (yielded ops a.tmps) = true) (x : Operand) (h : o.op = .assign x) : YieldsIf P ops S o (a.eval x) a := .inl ⟨hw, fun w _ => BigFrame.run_assign x h w⟩
theorem run_not {ρ : Operand → Value} (t : TypeId) (x : Operand) (b : Bool) (h : o.op = .unOp .not t x) (hx : ρ x = .bool b) (w : World) : (execOp ρ o).run P w = .ok (.value (.bool (!b))) w := by
  unfold execOp; rw [h]; simp [hx, go_sem]
theorem run_pick {ρ : Operand → Value} (c x y : Operand) (b : Bool) (h : o.op = .pick c x y) (hc : ρ c = .bool b) (w : World) : (execOp ρ o).run P w = .ok (.value (if b then ρ x else ρ y)) w := by
  unfold execOp; rw [h]; cases b <;> simp [hc, go_sem]
theorem y_not (hw : Region.wanted o (yielded ops a.tmps) = true) (t : TypeId) (x : Operand) (b : Bool) (h : o.op = .unOp .not t x) (hx : a.eval x = .bool b) : YieldsIf P ops S o (.bool (!b)) a :=
  .inl ⟨hw, fun w _ => run_not t x b h hx w⟩
theorem y_pick (hw : Region.wanted o (yielded ops a.tmps) = true) (c x y : Operand) (b : Bool) (v : Value) (h : o.op = .pick c x y) (hc : a.eval c = .bool b) (hv : (if b then a.eval x else a.eval y) = v) : YieldsIf P ops S o v a :=
  .inl ⟨hw, fun w _ => by rw [← hv]; exact run_pick c x y b h hc w⟩
end

/-- A region that draws, whose first n operations read or call quietly, the others standing in one order behind them. -/
theorem region_tail {P : Program} {id : Nat} {Q : Exit → Act → World → Prop} {a : Act} {w : World} {l : List Oper} (n : Nat) (hm : P.follows .mixedOrders = true) (hB : Region.lexTailB .any l.toArray n = true)
    (h : wpStill P l.toArray w.drew (fun a' => wpList P l.toArray Q (l.drop n) a' w.drew) (l.take n) a) : (Code.region id l.toArray true).wp P Q a w :=
  wp_region_still_tail n hm hB h

theorem wrap_two {d : Nat} (hd : d ≤ 8) : IntKind.i64.wrap ((2 : Int) ^ d) = 2 ^ d := by
  have : ∀ d < 9, IntKind.i64.wrap ((2 : Int) ^ d) = 2 ^ d := by decide +kernel
  exact this d (by omega)
/-- 1 shifted by a number that is known to be small. -/
theorem step_shl_one {P : Program} {w : World} {ops : Array Oper} {rest : List Oper} {o : Oper} {a : Act} {Q : Exit → Act → World → Prop} (hgd : o.guard = none) (t t' : TypeId) (x y : Operand) (ho : o.op = .binOp .shl t x y t')
    (d N : Nat) (hx : a.eval x = .int .i64 1) (hy : a.eval y = .int .u64 (d : Int)) (hd : d ≤ 8) (hN : N = 2 ^ d)
    (k : wpList P ops Q rest (a.put o.dst (.int .i64 (N : Int))) w) : wpList P ops Q (o :: rest) a w :=
  wpList_plain hgd fun _ hK => by
    have e : (execOp a.eval o).run P w = .ok (.value (.int .i64 (N : Int))) w := by
      unfold execOp
      rw [ho]
      simp only [hx, hy, binOp_shl, Sem.run_bind, hN, Sem.run_pure]
      simp [eqGuard, wrap_two hd]
    unfold Oper.wp
    rw [e]
    exact hK _ _ k
theorem wrap_bit {z d : Nat} (hz : z ≤ 1) (hd : d ≤ 8) : IntKind.i64.wrap ((z : Int) * 2 ^ d) = ((z * 2 ^ d : Nat) : Int) := by
  have : ∀ z : Nat, z < 2 → ∀ d : Nat, d < 9 → IntKind.i64.wrap ((z : Int) * 2 ^ d) = ((z * 2 ^ d : Nat) : Int) := by decide +kernel
  exact this z (by omega) d (by omega)
/-- A bit shifted by a number that is known to be small. -/
theorem step_shl_nat {P : Program} {w : World} {ops : Array Oper} {rest : List Oper} {o : Oper} {a : Act} {Q : Exit → Act → World → Prop} (hgd : o.guard = none) (t t' : TypeId) (x y : Operand) (ho : o.op = .binOp .shl t x y t')
    (z d N : Nat) (hx : a.eval x = .int .i64 (z : Int)) (hy : a.eval y = .int .u64 (d : Int)) (hz : z ≤ 1) (hd : d ≤ 8) (hN : N = z * 2 ^ d)
    (k : wpList P ops Q rest (a.put o.dst (.int .i64 (N : Int))) w) : wpList P ops Q (o :: rest) a w :=
  wpList_plain hgd fun _ hK => by
    have e : (execOp a.eval o).run P w = .ok (.value (.int .i64 (N : Int))) w := by
      unfold execOp
      rw [ho]
      simp only [hx, hy, binOp_shl, Sem.run_bind, hN, Sem.run_pure]
      simp [eqGuard, wrap_bit hz hd]
    unfold Oper.wp
    rw [e]
    exact hK _ _ k
/-- A whole load that its guard lets by. -/
theorem step_load_ba_want {P : Program} {w : World} {ops : Array Oper} {rest : List Oper} {o : Oper} {a : Act} {Q : Exit → Act → World → Prop} (hw : Region.wanted o (yielded ops a.tmps) = true) (ty : TypeId) (x : Operand) (ho : o.op = .load ty x)
    (b n : Nat) (t e : TypeId) (f : Nat → Nat) (hx : a.eval x = .pointer (some ⟨b, 0, none⟩)) (hA : At w b n t f) (hu : P.underlying ty = some (.array n e)) (hi : (P.info? ty).map (·.size) = some n)
    (k : wpList P ops Q rest (a.put o.dst (.agg (ba n f))) w) : wpList P ops Q (o :: rest) a w :=
  BigFrame.wpList_want hw fun _ hK => wp_load_row ty x ho b hx t _ (0, 0) _ hA hu rfl (by rw [ba_size]; exact hi) (hK _ _ k)
end Go.Proofs.Ytnklljlgghenpaa
