import Derived.Test.YtfgbcohmbbjagaaKcs
namespace Go.Proofs.Ytfgbcohmbbjagaa
open Go.RowKit

/-! ### arrays held against each other, and loads in a region that draws -/
theorem eqW {f g : Nat → Nat} {b : Bool} (h : Eq25 f g ↔ b = true) (w : World) : (Op.equalIn 10000 23 (.agg (wa 25 f)) (.agg (wa 25 g))).run Try.prog w = .ok b w := by
  have h' := run_eq_wa (P := Try.prog) w 9998 23 22 25 f g Try.underlying23 Try.underlying22 info22
  rw [h']
  congr 1
  cases b
  · simp only [Bool.false_eq_true, iff_false] at h; exact decide_eq_false h
  · exact decide_eq_true (h.2 rfl)
theorem guardW : Try.prog.eqGuardType Try.prog.depth 23 = false := by kernel_rfl
theorem eq25_bool (f g : Nat → Nat) : ∃ q : Bool, Eq25 f g ↔ q = true := by
  by_cases h : Eq25 f g
  · exact ⟨true, by simp [h]⟩
  · exact ⟨false, by simp [h]⟩
set_option maxRecDepth 100000 in
theorem exec_eq25 {w : World} {o : Oper} {a : Act} (x y : Operand) (ho : o.op = .binOp .eql 23 x y 23) {f g : Nat → Nat} {q : Bool} (hx : a.eval x = .agg (wa 25 f)) (hy : a.eval y = .agg (wa 25 g)) (h : Eq25 f g ↔ q = true) :
    (execOp a.eval o).run Try.prog w = .ok (.value (.bool q)) w := by
  have heq := fun w => eqW h w
  have hguard := guardW
  unfold execOp
  rw [ho]
  simp only [hx, hy]
  generalize wa 25 f = A at *
  generalize wa 25 g = B at *
  go_simp
set_option maxRecDepth 100000 in
theorem exec_ne25 {w : World} {o : Oper} {a : Act} (x y : Operand) (ho : o.op = .binOp .neq 23 x y 23) {f g : Nat → Nat} {q : Bool} (hx : a.eval x = .agg (wa 25 f)) (hy : a.eval y = .agg (wa 25 g)) (h : Eq25 f g ↔ q = true) :
    (execOp a.eval o).run Try.prog w = .ok (.value (.bool (!q))) w := by
  have heq := fun w => eqW h w
  have hguard := guardW
  unfold execOp
  rw [ho]
  simp only [hx, hy]
  generalize wa 25 f = A at *
  generalize wa 25 g = B at *
  go_simp
theorem step_eq25 {w : World} {ops : Array Oper} {rest : List Oper} {o : Oper} {a : Act} {Q : Exit → Act → World → Prop} (hw : Region.wanted o (yielded ops a.tmps) = true) (x y : Operand) (ho : o.op = .binOp .eql 23 x y 23) (f g : Nat → Nat) (q : Bool)
    (hx : a.eval x = .agg (wa 25 f)) (hy : a.eval y = .agg (wa 25 g)) (h : Eq25 f g ↔ q = true) (k : wpList Try.prog ops Q rest (a.put o.dst (.bool q)) w) : wpList Try.prog ops Q (o :: rest) a w :=
  BigFrame.wpList_want hw fun _ hK => by
    unfold Oper.wp
    rw [exec_eq25 x y ho hx hy h]
    exact hK _ _ k
theorem yields_load_wa {P : Program} {ops : Array Oper} {S : World → Prop} {op : Oper} {a : Act} (hw : Region.wanted op (yielded ops a.tmps) = true) (ty : TypeId) (x : Operand) (ho : op.op = .load ty x)
    (b n : Nat) (t e : TypeId) (f : Nat → Nat) (hx : a.eval x = .pointer (some ⟨b, 0, none⟩)) (hS : ∀ w, S w → Aw w b n t f)
    (hu : P.underlying ty = some (.array n e)) (hi : (P.info? ty).map (·.size) = some n) : YieldsIf P ops S op (.agg (wa n f)) a :=
  .inl ⟨hw, fun w hw' => by
    unfold execOp
    simp only [ho, hx, Instr.loadAt, Instr.sureAddr, Sem.run_bind, Sem.run_pure, Result.andThen_ok, (hS w hw').load ty hu hi]⟩

/-- The law's state, in a block of its own. -/
structure K1 (f : Nat → Nat) (w wr : World) : Prop where
  src : Aw wr w.heap.size 25 23 f
  low : Below w.heap.size w wr
theorem K1.start (f : Nat → Nat) (w : World) : K1 f w (w.alloc (.cells (wa 25 f) 23)) := ⟨Aw.new w 25 23 f, (Below.refl _ _).alloc (Nat.le_refl _) _⟩
theorem K1.self {f : Nat → Nat} {w wr w1 : World} (h : K1 f w wr) (hb : Below wr.heap.size wr w1) : K1 f w w1 := ⟨h.src.self hb, h.low.trans (hb.mono h.low.size)⟩
theorem K1.drew {f : Nat → Nat} {w wr : World} (h : K1 f w wr) : K1 f w wr.drew := ⟨h.src.drew, h.low.drew⟩
/-- .. and two of them. -/
structure K2 (f g : Nat → Nat) (w wr : World) : Prop where
  src : Aw wr w.heap.size 25 23 f
  two : Aw wr (w.heap.size + 1) 25 23 g
  low : Below w.heap.size w wr
theorem K2.start (f g : Nat → Nat) (w : World) : K2 f g w ((w.alloc (.cells (wa 25 f) 23)).alloc (.cells (wa 25 g) 23)) := by
  have h1 := Aw.new (w.alloc (.cells (wa 25 f) 23)) 25 23 g
  rw [World.size_alloc] at h1
  exact ⟨(Aw.new w 25 23 f).alloc _, h1, ((Below.refl _ _).alloc (Nat.le_refl _) _).alloc (by simp) _⟩
theorem K2.self {f g : Nat → Nat} {w wr w1 : World} (h : K2 f g w wr) (hb : Below wr.heap.size wr w1) : K2 f g w w1 := ⟨h.src.self hb, h.two.self hb, h.low.trans (hb.mono h.low.size)⟩
theorem K2.drew {f g : Nat → Nat} {w wr : World} (h : K2 f g w wr) : K2 f g w wr.drew := ⟨h.src.drew, h.two.drew, h.low.drew⟩
/-- .. and one beside, that is turned. -/
structure KB (f g : Nat → Nat) (b : Nat) (w wr : World) : Prop extends K1 f w wr where
  var : Aw wr b 25 23 g
  far : w.heap.size < b
theorem KB.start {f : Nat → Nat} {w wr : World} (h : K1 f w wr) (g : Nat → Nat) : KB f g wr.heap.size w ((wr.alloc (.cells (wa 25 (fun _ => 0)) 23)).setRow wr.heap.size (wa 25 g)) := by
  have hl := h.src.lt
  exact ⟨⟨(h.src.alloc _).rowApart (by omega) _, below_setRow (h.low.alloc h.low.size _) h.low.size _⟩, (Aw.new wr 25 23 _).row g, hl⟩
theorem KB.self {f g : Nat → Nat} {b : Nat} {w wr w1 : World} (h : KB f g b w wr) (hb : Below wr.heap.size wr w1) : KB f g b w w1 := ⟨h.toK1.self hb, h.var.self hb, h.far⟩
theorem KB.row {f g : Nat → Nat} {b : Nat} {w wr : World} (h : KB f g b w wr) (k : Nat → Nat) : KB f k b w (wr.setRow b (wa 25 k)) := by
  have hl := h.far
  exact ⟨⟨h.src.rowApart (by omega) _, below_setRow h.low (by omega) _⟩, h.var.row k, hl⟩
end Go.Proofs.Ytfgbcohmbbjagaa
