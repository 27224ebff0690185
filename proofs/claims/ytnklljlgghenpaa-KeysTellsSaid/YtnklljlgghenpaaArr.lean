/- General: arrays of bytes by value and in a block. No program is named. -/
import Derived.Test.YtnklljlgghenpaaNum
import Derived.Test.YtnklljlgghenpaaLid
import Derived.Laws.Rows
import Derived.Laws.Tables
import Derived.Laws.StructEq
import Derived.ChangeKeysEq
import Derived.Deep.WholeRow
namespace Go.Proofs.Ytnklljlgghenpaa
open Go.ChangeShapes Go.WideShapes Go.ChangeAt Go.RowKit

/-- The n cells of an array of bytes. -/
def ba (n : Nat) (f : Nat → Nat) : Array Value := ((List.range n).map fun i => Value.int .u8 (f i : Int)).toArray
/-- One row turned. -/
def upd (f : Nat → Nat) (j z : Nat) : Nat → Nat := fun i => if i = j then z else f i
/-- The first j rows of f, and 0 behind. -/
def upTo (f : Nat → Nat) (j : Nat) : Nat → Nat := fun i => if i < j then f i else 0
theorem upd_same (f : Nat → Nat) (j z : Nat) : upd f j z j = z := if_pos rfl
theorem upd_other (f : Nat → Nat) (j z i : Nat) (h : i ≠ j) : upd f j z i = f i := if_neg h

theorem ba_size (n : Nat) (f : Nat → Nat) : (ba n f).size = n := by simp [ba]
theorem ba_get {n : Nat} (f : Nat → Nat) {j : Nat} (h : j < n) : (ba n f)[j]? = some (.int .u8 (f j : Int)) := by simp [ba, h]
theorem ba_ext {n : Nat} {f g : Nat → Nat} (h : ∀ i, i < n → f i = g i) : ba n f = ba n g := by
  unfold ba
  congr 1
  refine List.map_congr_left fun i hi => ?_
  rw [h i (List.mem_range.1 hi)]
theorem ba_inj {n : Nat} {f g : Nat → Nat} (h : ba n f = ba n g) : ∀ i, i < n → f i = g i := by
  intro i hi
  have := congrArg (fun a => a[i]?) h
  simp only [ba_get f hi, ba_get g hi, Option.some.injEq, Value.int.injEq, true_and] at this
  omega
theorem ba_set {n : Nat} (f : Nat → Nat) (j z : Nat) : (ba n f).setIfInBounds j (.int .u8 (z : Int)) = ba n (upd f j z) := by
  apply Array.ext_getElem?
  intro i
  rw [Array.getElem?_setIfInBounds, ba_size]
  by_cases hi : i < n
  · rw [ba_get _ hi, ba_get _ hi]
    by_cases e : j = i
    · subst e; rw [if_pos rfl, if_pos hi, upd_same]
    · rw [if_neg e, upd_other _ _ _ _ (fun h => e h.symm)]
  · have h1 : (ba n f)[i]? = none := by simp [ba_size]; omega
    have h2 : (ba n (upd f j z))[i]? = none := by simp [ba_size]; omega
    rw [h1, h2]
    by_cases e : j = i
    · rw [if_pos e, if_neg (by omega)]
    · rw [if_neg e]
theorem ba_one (n : Nat) (f : Nat → Nat) : (ba n f).all (·.oneCell') = true := by
  refine Array.all_eq_true_iff_forall_mem.2 (fun v hv => ?_)
  simp [ba] at hv
  obtain ⟨i, _, rfl⟩ := hv
  rfl

section prog
variable {P : Program}

theorem run_index_ba (w : World) (t e : TypeId) (n : Nat) (f : Nat → Nat) (j : Nat) (hu : P.underlying t = some (.array n e)) (he : P.underlying e = some (.int .u8)) (hs : (P.info? e).map (·.size) = some 1) (hj : j < n) :
    (Instr.index t (.agg (ba n f)) (.int .i64 (j : Int))).run P w = .ok (.int .u8 (f j : Int)) w := by
  obtain ⟨i, hi, h1⟩ : ∃ i, P.info? e = some i ∧ i.size = 1 := by
    cases hq : P.info? e with
    | none => simp [hq] at hs
    | some i => exact ⟨i, rfl, by simpa [hq] using hs⟩
  have hb : 0 ≤ (j : Int) ∧ (j : Int) < (n : Int) := ⟨by omega, by omega⟩
  have hg := ba_get f hj
  simp [Instr.index, asIntOf, run_underlying hu, run_underlying he, hj, isAgg, sizeOf, typeInfo, hi, h1, part, hg, go_sem]

theorem run_eqItems_ba (w : World) (d : Nat) (e : TypeId) (n : Nat) (f g : Nat → Nat) (he : P.underlying e = some (.int .u8)) (hi : (P.info? e).map (·.size) = some 1) : ∀ (is : List Nat), (∀ i ∈ is, i < n) →
    (Op.eqItems (d + 1) e 1 (ba n f) (ba n g) is).run P w = .ok (decide (∀ i ∈ is, f i = g i)) w
  | [], _ => by simp [Op.eqItems]
  | i :: is, h => by
    obtain ⟨k, hk, h1⟩ : ∃ i, P.info? e = some i ∧ i.size = 1 := by
      cases hq : P.info? e with
      | none => simp [hq] at hi
      | some i => exact ⟨i, rfl, by simpa [hq] using hi⟩
    have hf := ba_get f (h i (by simp))
    have hg := ba_get g (h i (by simp))
    have ih := run_eqItems_ba w d e n f g he hi is (fun j hj => h j (by simp [hj]))
    have p1 : (part e (ba n f) (i * 1)).run P w = .ok (.int .u8 (f i : Int)) w := by simp [part, hf, run_underlying he, isAgg, go_sem]
    have p2 : (part e (ba n g) (i * 1)).run P w = .ok (.int .u8 (g i : Int)) w := by simp [part, hg, run_underlying he, isAgg, go_sem]
    simp only [Op.eqItems, Sem.run_bind, p1, p2, Result.andThen_ok, run_equalIn_int w d e .u8 .u8 _ _ he]
    by_cases hh : f i = g i
    · simp [hh, ih]
    · have : ((f i : Int) == (g i : Int)) = false := eqF hh
      simp [this, hh]

theorem run_eq_ba (w : World) (d : Nat) (t e : TypeId) (n : Nat) (f g : Nat → Nat) (hu : P.underlying t = some (.array n e)) (he : P.underlying e = some (.int .u8)) (hi : (P.info? e).map (·.size) = some 1) :
    (Op.equalIn (d + 2) t (.agg (ba n f)) (.agg (ba n g))).run P w = .ok (decide (∀ i, i < n → f i = g i)) w := by
  obtain ⟨k, hk, h1⟩ : ∃ i, P.info? e = some i ∧ i.size = 1 := by
    cases hq : P.info? e with
    | none => simp [hq] at hi
    | some i => exact ⟨i, rfl, by simpa [hq] using hi⟩
  have hc : P.cellsOf e = 1 := by simp [Program.cellsOf, hk, h1]
  rw [run_equalIn_array w (d + 1) _ _ hu hk, hc, run_eqItems_ba w d e n f g he hi _ (fun i hi => List.mem_range.1 hi)]
  congr 1
  simp [List.mem_range]
end prog
/-! ### an array in a block of its own -/
/-- Block b holds, whole, the n bytes of f, as a variable of type t. -/
def At (w : World) (b n : Nat) (t : TypeId) (f : Nat → Nat) : Prop := w.heap[b]? = some (.cells (ba n f) t (0, 0))
theorem At.lt {w : World} {b n : Nat} {t : TypeId} {f : Nat → Nat} (h : At w b n t f) : b < w.heap.size := (Array.getElem?_eq_some_iff.1 h).1
theorem At.cell {w : World} {b n : Nat} {t : TypeId} {f : Nat → Nat} (h : At w b n t f) {j : Nat} (hj : j < n) : w.cell? ⟨b, j, none⟩ = some (.int .u8 (f j : Int)) := by
  rw [cell_of_row w b j _ t (0, 0) h, ba_get f hj]
theorem At.free {w : World} {b n : Nat} {t : TypeId} {f : Nat → Nat} (h : At w b n t f) (o : Nat) : w.frozen? ⟨b, o, none⟩ = false := frozen_of_row w b o _ t h
theorem At.set {w : World} {b n : Nat} {t : TypeId} {f : Nat → Nat} (h : At w b n t f) (j z : Nat) : At (w.setCell ⟨b, j, none⟩ (.int .u8 (z : Int))) b n t (upd f j z) := by
  unfold At
  rw [heap_setCell_same w b j _ t _ h, ba_set]
theorem At.apart {w : World} {b n : Nat} {t : TypeId} {f : Nat → Nat} (h : At w b n t f) {a : Addr} (ha : b ≠ a.block) (v : Value) : At (w.setCell a v) b n t f := (heap_setCell_other w a b v ha).trans h
theorem At.row {w : World} {b n : Nat} {t : TypeId} {f : Nat → Nat} (h : At w b n t f) (g : Nat → Nat) : At (w.setRow b (ba n g)) b n t g := setRow_heap w b _ _ t _ h
theorem At.rowApart {w : World} {b n c : Nat} {t : TypeId} {f : Nat → Nat} (h : At w b n t f) (hc : b ≠ c) (cs : Array Value) : At (w.setRow c cs) b n t f := (setRow_other w c b cs hc).trans h
theorem At.alloc {w : World} {b n : Nat} {t : TypeId} {f : Nat → Nat} (h : At w b n t f) (o : Obj) : At (w.alloc o) b n t f := (heap_alloc_old w o h.lt).trans h
theorem At.new (w : World) (n : Nat) (t : TypeId) (f : Nat → Nat) : At (w.alloc (.cells (ba n f) t)) w.heap.size n t f := heap_alloc_new w _
theorem At.drew {w : World} {b n : Nat} {t : TypeId} {f : Nat → Nat} (h : At w b n t f) : At w.drew b n t f := h
theorem At.below {w w' : World} {b n B : Nat} {t : TypeId} {f : Nat → Nat} (h : At w b n t f) (hb : Below B w w') (hB : b < B) : At w' b n t f := (hb.block b hB).trans h
theorem At.self {w w' : World} {b n : Nat} {t : TypeId} {f : Nat → Nat} (h : At w b n t f) (hb : Below w.heap.size w w') : At w' b n t f := h.below hb h.lt
theorem At.ext {w : World} {b n : Nat} {t : TypeId} {f g : Nat → Nat} (h : At w b n t f) (e : ∀ i, i < n → f i = g i) : At w b n t g := by
  unfold At at h ⊢; rw [h, ba_ext e]
theorem below_setRow {B b : Nat} {w0 w : World} (h : Below B w0 w) (hb : B ≤ b) (cs : Array Value) : Below B w0 (w.setRow b cs) :=
  ⟨h.os, h.tape, h.output, by simpa using h.size, fun j hj => (setRow_other w b j cs (by omega)).trans (h.block j hj)⟩

section prog2
variable {P : Program}
theorem At.load {w : World} {b n : Nat} {t : TypeId} {f : Nat → Nat} {e : TypeId} (h : At w b n t f) (ty : TypeId) (hu : P.underlying ty = some (.array n e)) (hi : (P.info? ty).map (·.size) = some n) :
    (loadVar ty ⟨b, 0, none⟩).run P w = .ok (.agg (ba n f)) w :=
  run_loadVar_row w b t ty _ (0, 0) _ h hu rfl (by rw [ba_size]; exact hi)
theorem At.store {w : World} {b n : Nat} {t : TypeId} {f : Nat → Nat} (h : At w b n t f) (ty : TypeId) (g : Nat → Nat) (hi : (P.info? ty).map (·.size) = some n) :
    (storeVar ty ⟨b, 0, none⟩ (.agg (ba n g))).run P w = .ok () (w.setRow b (ba n g)) :=
  run_storeVar_row w b t ty _ _ h (by rw [ba_size]; exact hi) (by rw [ba_size, ba_size]) (ba_one n g)
end prog2

/-! ### returns of arrays -/
theorem ret_ba {P : Program} {fn : Func} {p : Tmp} {ty : TypeId} {R : Ending → World → Prop} {a : Act} {w : World} {b n : Nat} {t e : TypeId} {f : Nat → Nat} (h : fn.results = #[.cell p ty])
    (hp : a.tmps.getD p undef = .pointer (some ⟨b, 0, none⟩)) (hu : P.underlying ty = some (.array n e)) (hi : (P.info? ty).map (·.size) = some n) (hd : a.defers = [])
    (hA : At w b n t f) (k : R (.returned (.agg (ba n f))) w) : bodyPost P fn R .ret a w :=
  bodyPost_ret (results_cell_row h a.tmps w b t _ (0, 0) _ hp hA hu rfl (by rw [ba_size]; exact hi)) hd k
theorem ret_ba_tmp {P : Program} {fn : Func} {p u : Tmp} {ty : TypeId} {R : Ending → World → Prop} {a : Act} {w : World} {b n : Nat} {t e : TypeId} {f : Nat → Nat} (h : fn.results = #[.cell p ty, .tmp u])
    (hp : a.tmps.getD p undef = .pointer (some ⟨b, 0, none⟩)) (hu : P.underlying ty = some (.array n e)) (hi : (P.info? ty).map (·.size) = some n) (hd : a.defers = [])
    (hA : At w b n t f) (k : R (.returned (.tuple #[.agg (ba n f), a.tmps.getD u undef])) w) : bodyPost P fn R .ret a w := by
  refine bodyPost_ret ?_ hd k
  rw [results_cell_tmp h, hp]
  simp only [asAddr, Sem.run_pure, Result.andThen_ok, hA.load ty hu hi]
theorem ret_ba_ba {P : Program} {fn : Func} {p q : Tmp} {ty ty' : TypeId} {R : Ending → World → Prop} {a : Act} {w : World} {b n b' n' : Nat} {t e t' e' : TypeId} {f g : Nat → Nat} (h : fn.results = #[.cell p ty, .cell q ty'])
    (hp : a.tmps.getD p undef = .pointer (some ⟨b, 0, none⟩)) (hu : P.underlying ty = some (.array n e)) (hi : (P.info? ty).map (·.size) = some n)
    (hp' : a.tmps.getD q undef = .pointer (some ⟨b', 0, none⟩)) (hu' : P.underlying ty' = some (.array n' e')) (hi' : (P.info? ty').map (·.size) = some n') (hd : a.defers = [])
    (hA : At w b n t f) (hB : At w b' n' t' g) (k : R (.returned (.tuple #[.agg (ba n f), .agg (ba n' g)])) w) : bodyPost P fn R .ret a w := by
  refine bodyPost_ret ?_ hd k
  have hp1 : a.tmps[p]?.getD undef = .pointer (some ⟨b, 0, none⟩) := by simpa using hp
  have hp2 : a.tmps[q]?.getD undef = .pointer (some ⟨b', 0, none⟩) := by simpa using hp'
  simp [results, h, hp1, hp2, asAddr, hA.load ty hu hi, hB.load ty' hu' hi']

/-! ### whole loads and stores, as arms of a walk -/
theorem step_load_ba {P : Program} {w : World} {ops : Array Oper} {rest : List Oper} {o : Oper} {a : Act} {Q : Exit → Act → World → Prop} (hgd : o.guard = none) (ty : TypeId) (x : Operand) (ho : o.op = .load ty x)
    (b n : Nat) (t e : TypeId) (f : Nat → Nat) (hx : a.eval x = .pointer (some ⟨b, 0, none⟩)) (hA : At w b n t f) (hu : P.underlying ty = some (.array n e)) (hi : (P.info? ty).map (·.size) = some n)
    (k : wpList P ops Q rest (a.put o.dst (.agg (ba n f))) w) : wpList P ops Q (o :: rest) a w :=
  wpList_load_row hgd ty x ho b hx t _ (0, 0) _ hA hu rfl (by rw [ba_size]; exact hi) k
theorem step_store_ba {P : Program} {w : World} {ops : Array Oper} {rest : List Oper} {o : Oper} {a : Act} {Q : Exit → Act → World → Prop} (hgd : o.guard = none) (ty : TypeId) (x y : Operand) (ho : o.op = .store ty x y)
    (b n : Nat) (t : TypeId) (f g : Nat → Nat) (hx : a.eval x = .pointer (some ⟨b, 0, none⟩)) (hy : a.eval y = .agg (ba n g)) (hA : At w b n t f) (hi : (P.info? ty).map (·.size) = some n)
    (k : wpList P ops Q rest (a.put o.dst undef) (w.setRow b (ba n g))) : wpList P ops Q (o :: rest) a w :=
  wpList_plain hgd fun _ hK => wp_store_row ty x y ho b _ hx hy t _ hA (by rw [ba_size]; exact hi) (by rw [ba_size, ba_size]) (ba_one n g) (hK _ _ k)
end Go.Proofs.Ytnklljlgghenpaa
