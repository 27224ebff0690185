/- General: arrays of words of 64 bits by value and in a block (Arr's, for u64). No program is named. -/
import Derived.Test.YthfgpjebmhbedaaGen
import Derived.Laws.Rows
import Derived.Laws.Tables
import Derived.Laws.StructEq
import Derived.ChangeKeysEq
import Derived.Deep.WholeRow
namespace Go.Proofs.Ythfgpjebmhbedaa
open Go.ChangeShapes Go.WideShapes Go.ChangeAt Go.RowKit

/-- The n cells of an array of words. -/
def wa (n : Nat) (f : Nat → Nat) : Array Value := ((List.range n).map fun i => Value.int .u64 (f i : Int)).toArray

theorem wa_size (n : Nat) (f : Nat → Nat) : (wa n f).size = n := by simp [wa]
theorem wa_get {n : Nat} (f : Nat → Nat) {j : Nat} (h : j < n) : (wa n f)[j]? = some (.int .u64 (f j : Int)) := by simp [wa, h]
theorem wa_ext {n : Nat} {f g : Nat → Nat} (h : ∀ i, i < n → f i = g i) : wa n f = wa n g := by
  unfold wa
  congr 1
  refine List.map_congr_left fun i hi => ?_
  rw [h i (List.mem_range.1 hi)]
theorem wa_inj {n : Nat} {f g : Nat → Nat} (h : wa n f = wa n g) : ∀ i, i < n → f i = g i := by
  intro i hi
  have := congrArg (fun a => a[i]?) h
  simp only [wa_get f hi, wa_get g hi, Option.some.injEq, Value.int.injEq, true_and] at this
  omega
theorem wa_set {n : Nat} (f : Nat → Nat) (j z : Nat) : (wa n f).setIfInBounds j (.int .u64 (z : Int)) = wa n (upd f j z) := by
  apply Array.ext_getElem?
  intro i
  rw [Array.getElem?_setIfInBounds, wa_size]
  by_cases hi : i < n
  · rw [wa_get _ hi, wa_get _ hi]
    by_cases e : j = i
    · subst e; rw [if_pos rfl, if_pos hi, upd_same]
    · rw [if_neg e, upd_other _ _ _ _ (fun h => e h.symm)]
  · have h1 : (wa n f)[i]? = none := by simp [wa_size]; omega
    have h2 : (wa n (upd f j z))[i]? = none := by simp [wa_size]; omega
    rw [h1, h2]
    by_cases e : j = i
    · rw [if_pos e, if_neg (by omega)]
    · rw [if_neg e]
theorem wa_one (n : Nat) (f : Nat → Nat) : (wa n f).all (·.oneCell') = true := by
  refine Array.all_eq_true_iff_forall_mem.2 (fun v hv => ?_)
  simp [wa] at hv
  obtain ⟨i, _, rfl⟩ := hv
  rfl

section prog
variable {P : Program}

theorem run_index_wa (w : World) (t e : TypeId) (n : Nat) (f : Nat → Nat) (j : Nat) (hu : P.underlying t = some (.array n e)) (he : P.underlying e = some (.int .u64)) (hs : (P.info? e).map (·.size) = some 1) (hj : j < n) :
    (Instr.index t (.agg (wa n f)) (.int .i64 (j : Int))).run P w = .ok (.int .u64 (f j : Int)) w := by
  obtain ⟨i, hi, h1⟩ : ∃ i, P.info? e = some i ∧ i.size = 1 := by
    cases hq : P.info? e with
    | none => simp [hq] at hs
    | some i => exact ⟨i, rfl, by simpa [hq] using hs⟩
  have hb : 0 ≤ (j : Int) ∧ (j : Int) < (n : Int) := ⟨by omega, by omega⟩
  have hg := wa_get f hj
  simp [Instr.index, asIntOf, run_underlying hu, run_underlying he, hj, isAgg, sizeOf, typeInfo, hi, h1, part, hg, go_sem]

theorem run_eqItems_wa (w : World) (d : Nat) (e : TypeId) (n : Nat) (f g : Nat → Nat) (he : P.underlying e = some (.int .u64)) (hi : (P.info? e).map (·.size) = some 1) : ∀ (is : List Nat), (∀ i ∈ is, i < n) →
    (Op.eqItems (d + 1) e 1 (wa n f) (wa n g) is).run P w = .ok (decide (∀ i ∈ is, f i = g i)) w
  | [], _ => by simp [Op.eqItems]
  | i :: is, h => by
    obtain ⟨k, hk, h1⟩ : ∃ i, P.info? e = some i ∧ i.size = 1 := by
      cases hq : P.info? e with
      | none => simp [hq] at hi
      | some i => exact ⟨i, rfl, by simpa [hq] using hi⟩
    have hf := wa_get f (h i (by simp))
    have hg := wa_get g (h i (by simp))
    have ih := run_eqItems_wa w d e n f g he hi is (fun j hj => h j (by simp [hj]))
    have p1 : (part e (wa n f) (i * 1)).run P w = .ok (.int .u64 (f i : Int)) w := by simp [part, hf, run_underlying he, isAgg, go_sem]
    have p2 : (part e (wa n g) (i * 1)).run P w = .ok (.int .u64 (g i : Int)) w := by simp [part, hg, run_underlying he, isAgg, go_sem]
    simp only [Op.eqItems, Sem.run_bind, p1, p2, Result.andThen_ok, run_equalIn_int w d e .u64 .u64 _ _ he]
    by_cases hh : f i = g i
    · simp [hh, ih]
    · have : ((f i : Int) == (g i : Int)) = false := eqF hh
      simp [this, hh]

theorem run_eq_wa (w : World) (d : Nat) (t e : TypeId) (n : Nat) (f g : Nat → Nat) (hu : P.underlying t = some (.array n e)) (he : P.underlying e = some (.int .u64)) (hi : (P.info? e).map (·.size) = some 1) :
    (Op.equalIn (d + 2) t (.agg (wa n f)) (.agg (wa n g))).run P w = .ok (decide (∀ i, i < n → f i = g i)) w := by
  obtain ⟨k, hk, h1⟩ : ∃ i, P.info? e = some i ∧ i.size = 1 := by
    cases hq : P.info? e with
    | none => simp [hq] at hi
    | some i => exact ⟨i, rfl, by simpa [hq] using hi⟩
  have hc : P.cellsOf e = 1 := by simp [Program.cellsOf, hk, h1]
  rw [run_equalIn_array w (d + 1) _ _ hu hk, hc, run_eqItems_wa w d e n f g he hi _ (fun i hi => List.mem_range.1 hi)]
  congr 1
  simp [List.mem_range]
end prog
/-! ### an array in a block of its own -/
/-- Block b holds, whole, the n words of f, as a variable of type t. -/
def Aw (w : World) (b n : Nat) (t : TypeId) (f : Nat → Nat) : Prop := w.heap[b]? = some (.cells (wa n f) t (0, 0))
theorem Aw.lt {w : World} {b n : Nat} {t : TypeId} {f : Nat → Nat} (h : Aw w b n t f) : b < w.heap.size := (Array.getElem?_eq_some_iff.1 h).1
theorem Aw.cell {w : World} {b n : Nat} {t : TypeId} {f : Nat → Nat} (h : Aw w b n t f) {j : Nat} (hj : j < n) : w.cell? ⟨b, j, none⟩ = some (.int .u64 (f j : Int)) := by
  rw [cell_of_row w b j _ t (0, 0) h, wa_get f hj]
theorem Aw.free {w : World} {b n : Nat} {t : TypeId} {f : Nat → Nat} (h : Aw w b n t f) (o : Nat) : w.frozen? ⟨b, o, none⟩ = false := frozen_of_row w b o _ t h
theorem Aw.set {w : World} {b n : Nat} {t : TypeId} {f : Nat → Nat} (h : Aw w b n t f) (j z : Nat) : Aw (w.setCell ⟨b, j, none⟩ (.int .u64 (z : Int))) b n t (upd f j z) := by
  unfold Aw
  rw [heap_setCell_same w b j _ t _ h, wa_set]
theorem Aw.apart {w : World} {b n : Nat} {t : TypeId} {f : Nat → Nat} (h : Aw w b n t f) {a : Addr} (ha : b ≠ a.block) (v : Value) : Aw (w.setCell a v) b n t f := (heap_setCell_other w a b v ha).trans h
theorem Aw.row {w : World} {b n : Nat} {t : TypeId} {f : Nat → Nat} (h : Aw w b n t f) (g : Nat → Nat) : Aw (w.setRow b (wa n g)) b n t g := setRow_heap w b _ _ t _ h
theorem Aw.rowApart {w : World} {b n c : Nat} {t : TypeId} {f : Nat → Nat} (h : Aw w b n t f) (hc : b ≠ c) (cs : Array Value) : Aw (w.setRow c cs) b n t f := (setRow_other w c b cs hc).trans h
theorem Aw.alloc {w : World} {b n : Nat} {t : TypeId} {f : Nat → Nat} (h : Aw w b n t f) (o : Obj) : Aw (w.alloc o) b n t f := (heap_alloc_old w o h.lt).trans h
theorem Aw.new (w : World) (n : Nat) (t : TypeId) (f : Nat → Nat) : Aw (w.alloc (.cells (wa n f) t)) w.heap.size n t f := heap_alloc_new w _
theorem Aw.drew {w : World} {b n : Nat} {t : TypeId} {f : Nat → Nat} (h : Aw w b n t f) : Aw w.drew b n t f := h
theorem Aw.below {w w' : World} {b n B : Nat} {t : TypeId} {f : Nat → Nat} (h : Aw w b n t f) (hb : Below B w w') (hB : b < B) : Aw w' b n t f := (hb.block b hB).trans h
theorem Aw.self {w w' : World} {b n : Nat} {t : TypeId} {f : Nat → Nat} (h : Aw w b n t f) (hb : Below w.heap.size w w') : Aw w' b n t f := h.below hb h.lt
theorem Aw.ext {w : World} {b n : Nat} {t : TypeId} {f g : Nat → Nat} (h : Aw w b n t f) (e : ∀ i, i < n → f i = g i) : Aw w b n t g := by
  unfold Aw at h ⊢; rw [h, wa_ext e]

section prog2
variable {P : Program}
theorem Aw.load {w : World} {b n : Nat} {t : TypeId} {f : Nat → Nat} {e : TypeId} (h : Aw w b n t f) (ty : TypeId) (hu : P.underlying ty = some (.array n e)) (hi : (P.info? ty).map (·.size) = some n) :
    (loadVar ty ⟨b, 0, none⟩).run P w = .ok (.agg (wa n f)) w :=
  run_loadVar_row w b t ty _ (0, 0) _ h hu rfl (by rw [wa_size]; exact hi)
theorem Aw.store {w : World} {b n : Nat} {t : TypeId} {f : Nat → Nat} (h : Aw w b n t f) (ty : TypeId) (g : Nat → Nat) (hi : (P.info? ty).map (·.size) = some n) :
    (storeVar ty ⟨b, 0, none⟩ (.agg (wa n g))).run P w = .ok () (w.setRow b (wa n g)) :=
  run_storeVar_row w b t ty _ _ h (by rw [wa_size]; exact hi) (by rw [wa_size, wa_size]) (wa_one n g)
end prog2

/-! ### returns of arrays -/
theorem ret_wa {P : Program} {fn : Func} {p : Tmp} {ty : TypeId} {R : Ending → World → Prop} {a : Act} {w : World} {b n : Nat} {t e : TypeId} {f : Nat → Nat} (h : fn.results = #[.cell p ty])
    (hp : a.tmps.getD p undef = .pointer (some ⟨b, 0, none⟩)) (hu : P.underlying ty = some (.array n e)) (hi : (P.info? ty).map (·.size) = some n) (hd : a.defers = [])
    (hA : Aw w b n t f) (k : R (.returned (.agg (wa n f))) w) : bodyPost P fn R .ret a w :=
  bodyPost_ret (results_cell_row h a.tmps w b t _ (0, 0) _ hp hA hu rfl (by rw [wa_size]; exact hi)) hd k
theorem ret_wa_tmp {P : Program} {fn : Func} {p u : Tmp} {ty : TypeId} {R : Ending → World → Prop} {a : Act} {w : World} {b n : Nat} {t e : TypeId} {f : Nat → Nat} (h : fn.results = #[.cell p ty, .tmp u])
    (hp : a.tmps.getD p undef = .pointer (some ⟨b, 0, none⟩)) (hu : P.underlying ty = some (.array n e)) (hi : (P.info? ty).map (·.size) = some n) (hd : a.defers = [])
    (hA : Aw w b n t f) (k : R (.returned (.tuple #[.agg (wa n f), a.tmps.getD u undef])) w) : bodyPost P fn R .ret a w := by
  refine bodyPost_ret ?_ hd k
  rw [results_cell_tmp h, hp]
  simp only [asAddr, Sem.run_pure, Result.andThen_ok, hA.load ty hu hi]
theorem ret_wa_wa {P : Program} {fn : Func} {p q : Tmp} {ty ty' : TypeId} {R : Ending → World → Prop} {a : Act} {w : World} {b n b' n' : Nat} {t e t' e' : TypeId} {f g : Nat → Nat} (h : fn.results = #[.cell p ty, .cell q ty'])
    (hp : a.tmps.getD p undef = .pointer (some ⟨b, 0, none⟩)) (hu : P.underlying ty = some (.array n e)) (hi : (P.info? ty).map (·.size) = some n)
    (hp' : a.tmps.getD q undef = .pointer (some ⟨b', 0, none⟩)) (hu' : P.underlying ty' = some (.array n' e')) (hi' : (P.info? ty').map (·.size) = some n') (hd : a.defers = [])
    (hA : Aw w b n t f) (hB : Aw w b' n' t' g) (k : R (.returned (.tuple #[.agg (wa n f), .agg (wa n' g)])) w) : bodyPost P fn R .ret a w := by
  refine bodyPost_ret ?_ hd k
  have hp1 : a.tmps[p]?.getD undef = .pointer (some ⟨b, 0, none⟩) := by simpa using hp
  have hp2 : a.tmps[q]?.getD undef = .pointer (some ⟨b', 0, none⟩) := by simpa using hp'
  simp [results, h, hp1, hp2, asAddr, hA.load ty hu hi, hB.load ty' hu' hi']

/-! ### whole loads and stores, as arms of a walk -/
theorem step_load_wa {P : Program} {w : World} {ops : Array Oper} {rest : List Oper} {o : Oper} {a : Act} {Q : Exit → Act → World → Prop} (hgd : o.guard = none) (ty : TypeId) (x : Operand) (ho : o.op = .load ty x)
    (b n : Nat) (t e : TypeId) (f : Nat → Nat) (hx : a.eval x = .pointer (some ⟨b, 0, none⟩)) (hA : Aw w b n t f) (hu : P.underlying ty = some (.array n e)) (hi : (P.info? ty).map (·.size) = some n)
    (k : wpList P ops Q rest (a.put o.dst (.agg (wa n f))) w) : wpList P ops Q (o :: rest) a w :=
  wpList_load_row hgd ty x ho b hx t _ (0, 0) _ hA hu rfl (by rw [wa_size]; exact hi) k
theorem step_store_wa {P : Program} {w : World} {ops : Array Oper} {rest : List Oper} {o : Oper} {a : Act} {Q : Exit → Act → World → Prop} (hgd : o.guard = none) (ty : TypeId) (x y : Operand) (ho : o.op = .store ty x y)
    (b n : Nat) (t : TypeId) (f g : Nat → Nat) (hx : a.eval x = .pointer (some ⟨b, 0, none⟩)) (hy : a.eval y = .agg (wa n g)) (hA : Aw w b n t f) (hi : (P.info? ty).map (·.size) = some n)
    (k : wpList P ops Q rest (a.put o.dst undef) (w.setRow b (wa n g))) : wpList P ops Q (o :: rest) a w :=
  wpList_plain hgd fun _ hK => wp_store_row ty x y ho b _ hx hy t _ hA (by rw [wa_size]; exact hi) (by rw [wa_size, wa_size]) (wa_one n g) (hK _ _ k)
theorem step_load_wa_want {P : Program} {w : World} {ops : Array Oper} {rest : List Oper} {o : Oper} {a : Act} {Q : Exit → Act → World → Prop} (hw : Region.wanted o (yielded ops a.tmps) = true) (ty : TypeId) (x : Operand) (ho : o.op = .load ty x)
    (b n : Nat) (t e : TypeId) (f : Nat → Nat) (hx : a.eval x = .pointer (some ⟨b, 0, none⟩)) (hA : Aw w b n t f) (hu : P.underlying ty = some (.array n e)) (hi : (P.info? ty).map (·.size) = some n)
    (k : wpList P ops Q rest (a.put o.dst (.agg (wa n f))) w) : wpList P ops Q (o :: rest) a w :=
  BigFrame.wpList_want hw fun _ hK => wp_load_row ty x ho b hx t _ (0, 0) _ hA hu rfl (by rw [wa_size]; exact hi) (hK _ _ k)
/-- An array of n words that comes in by value. -/
theorem wa_open {H : Type} {enc : TypeId × Value → H} {P : Program} {W : World} {sp : Nat → Bool} {held : Bool} {n : Nat} {t e : TypeId} {base : Nat} {v : Value} {d : DataW H} {p : List MemPlace} {b0 : Nat}
    (ht : P.underlying t = some (.array n e)) (he : P.underlying e = some (.int .u64)) (hc : P.cellsOf e = 1) (hct : P.cellsOf t = n)
    (hv : Value.okWide P W .any b0 t v) (h : DataW.Trod enc P W base sp held t v d p) :
    ∃ f : Nat → Nat, v = .agg (wa n f) ∧ ∀ i, i < n → f i < 2 ^ 64 := by
  obtain ⟨zs, rfl, hl, hw⟩ := arr_open ht he hc hct hv h
  have hb : ∀ i, i < n → 0 ≤ nth zs i ∧ nth zs i ≤ 18446744073709551615 := fun i hi => by
    rw [nth_of (show i < zs.length by omega)]; exact bounds_u64 (hw _ (List.getElem_mem _))
  refine ⟨fun i => (nth zs i).toNat, ?_, fun i hi => by have := hb i hi; show (nth zs i).toNat < 2 ^ 64; omega⟩
  congr 1
  apply Array.ext_getElem?
  intro i
  by_cases hi : i < n
  · rw [wa_get _ hi]
    have := hb i hi
    simp only [List.getElem?_toArray, List.getElem?_map, List.getElem?_eq_getElem (show i < zs.length by omega), Option.map_some]
    rw [nth_of (show i < zs.length by omega)] at this ⊢
    congr 2; omega
  · have h2 : (wa n (fun i => (nth zs i).toNat))[i]? = none := by simp [wa_size]; omega
    rw [h2]
    simp; omega
end Go.Proofs.Ythfgpjebmhbedaa
