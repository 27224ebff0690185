import Derived.Test.YtpjgpiieminaoaaDoorProg
import Derived.Test.YtpjgpiieminaoaaDoorWdg
import Derived.Test.YtpjgpiieminaoaaDoorGen
import Derived.Laws.Rows
import Derived.Laws.Tables
import Derived.Laws.StructEq
import Derived.ChangeKeysEq
import Derived.Deep.WholeRow
import Derived.Test.YtpjgpiieminaoaaDoorOrw
import Derived.Deep.CutRange
import Derived.Deep.CutBlock
import Derived.Deep.DeepMust
/- Wire: the program's machine alone; nobody's machine, a new one; the example. -/
namespace Go.Proofs.YtpjgpiieminaoaaDoor
open Go.RowKit
set_option maxRecDepth 100000
/-- A machine over a tape of which d words were drawn, and which may be drawn up to e. -/
def startD (n most : Int) (tw : Nat → Nat) (TN d e : Nat) : Ms :=
  ⟨n, most, 0, 0, 0, 0, 0, 0, 0, fun _ => ⟨0, 0, 0, 0, 0, 0⟩, 0, fun _ => ⟨0, 0, 0⟩, fun _ => 0, tw, TN, d, e - d, false⟩
/-- Nobody's machine, and new ones. -/
structure MachN (Pm : World → Nat → Ms → (Nat → Prop) → Prop) : Prop where
  nbegin : ∀ w, Calls Tryd.prog 19 #[.pointer none, .int .i64 1] w fun e w' => e = .returned (.tuple #[]) ∧ Below w.heap.size w w'
  nend : ∀ w, Calls Tryd.prog 24 #[.pointer none] w fun e w' => e = .returned (.tuple #[]) ∧ Below w.heap.size w w'
  nrand : ∀ w, Calls Tryd.prog 22 #[.pointer none, .int .i64 0] w fun e w' => e = .returned (.int .i64 (-1)) ∧ Below w.heap.size w w'
  nkey : ∀ w, Calls Tryd.prog 23 #[.pointer none, .int .u64 1, .int .i64 0, .int .i64 0] w fun e w' => e = .returned (.int .i64 (-1)) ∧ Below w.heap.size w w'
  nopen : ∀ w, Calls Tryd.prog 60 #[.pointer none, .int .i64 0, .int .i64 0, .int .i64 0] w fun e w' => e = .returned (.int .u64 0) ∧ Below w.heap.size w w'
  nerr : ∀ w, Calls Tryd.prog 8 #[.pointer none] w fun e w' => e = .returned (.int .i64 1) ∧ Below w.heap.size w w'
  nvalues : ∀ w, Calls Tryd.prog 12 #[.pointer none] w fun e w' => ∃ a c, e = .returned (.slice a 0 c) ∧ Below w.heap.size w w'
  nn : ∀ w, Calls Tryd.prog 40 #[.pointer none] w fun e w' => e = .returned (.int .i64 0) ∧ Below w.heap.size w w'
  ntrace : ∀ w, Calls Tryd.prog 10 #[.pointer none] w fun e w' => ∃ n a c v, e = .returned (.agg #[.int .i64 n, .slice a 0 c, v]) ∧ Below w.heap.size w w'
  bad : ∀ (n most : Int) (q : Nat) (w : World), ¬ ((n = 2 ∨ n = 3) ∧ 0 ≤ most ∧ most ≤ 1048576) → Calls Tryd.prog 17 #[.int .i64 n, .pointer (some ⟨q, 0, none⟩), .int .i64 most] w fun e w' => e = .returned (.tuple #[.pointer none, .int .i64 1]) ∧ Below w.heap.size w w'
  new : ∀ (lo hi q d e : Nat) (n most : Int) (tw : Nat → Nat) (TN : Nat) (w : World), TapeAt w lo hi q (wdL tw TN) d e → (n = 2 ∨ n = 3) → 0 ≤ most → most ≤ 1048576 →
    Calls Tryd.prog 17 #[.int .i64 n, .pointer (some ⟨q, 0, none⟩), .int .i64 most] w fun r w' => ∃ b, r = .returned (.tuple #[.pointer (some ⟨b, 0, none⟩), .int .i64 0]) ∧ Below w.heap.size w w' ∧ ∃ F, Pm w' b (startD n most tw TN d e) F ∧ ∀ k, F k → (lo ≤ k ∧ k < hi) ∨ w.heap.size ≤ k
/-- The program's machine, alone. -/
def Pz (Pm : World → Nat → Ms → (Nat → Prop) → Prop) (lo : Nat) (X : Nat → Prop) (W wx : World) (p : Nat) (S : Ms) : Prop :=
  ∃ F, Pm wx p S F ∧ (∀ k, F k → lo ≤ k ∧ ¬ X k) ∧ (∀ k, X k → k < wx.heap.size) ∧ Below lo W wx ∧ lo ≤ wx.heap.size
section
variable {Pm : World → Nat → Ms → (Nat → Prop) → Prop} {lo : Nat} {X : Nat → Prop} {W wx wy : World} {p : Nat} {S S' : Ms}
theorem Pz.low (h : Pz Pm lo X W wx p S) : Below lo W wx := by obtain ⟨_, _, _, _, h, _⟩ := h; exact h
theorem Pz.los (h : Pz Pm lo X W wx p S) : lo ≤ wx.heap.size := by obtain ⟨_, _, _, _, _, h⟩ := h; exact h
theorem Pz.self (hM : Mach Pm) (h : Pz Pm lo X W wx p S) (hb : Below wx.heap.size wx wy) : Pz Pm lo X W wy p S := by
  obtain ⟨F, h1, h2, h3, h4, h5⟩ := h
  exact ⟨F, hM.stays h1 hb.size (fun k hk => hb.block k (hM.lt h1 k hk)), h2, fun k hk => Nat.lt_of_lt_of_le (h3 k hk) hb.size, h4.trans (hb.mono h5), Nat.le_trans h5 hb.size⟩
/-- What is not the machine's is turned. -/
theorem Pz.apart (hM : Mach Pm) {G : Nat → Prop} (h : Pz Pm lo X W wx p S) (hb : Tch G wx wy) (hG : ∀ k, G k → X k ∧ lo ≤ k) : Pz Pm lo X W wy p S := by
  obtain ⟨F, h1, h2, h3, h4, h5⟩ := h
  exact ⟨F, hM.stays h1 hb.size (fun k hk => hb.block k (hM.lt h1 k hk) (fun g => (h2 k hk).2 (hG k g).1)), h2, fun k hk => Nat.lt_of_lt_of_le (h3 k hk) hb.size, h4.trans (hb.below (fun k g => (hG k g).2) h5), Nat.le_trans h5 hb.size⟩
/-- More blocks that are not the machine's: new ones. -/
theorem Pz.more (hM : Mach Pm) {Y : Nat → Prop} (h : Pz Pm lo X W wx p S) (hb : Below wx.heap.size wx wy) (hY : ∀ k, Y k → X k ∨ wx.heap.size ≤ k ∧ k < wy.heap.size) : Pz Pm lo Y W wy p S := by
  obtain ⟨F, h1, h2, h3, h4, h5⟩ := h
  refine ⟨F, hM.stays h1 hb.size (fun k hk => hb.block k (hM.lt h1 k hk)), fun k hk => ⟨(h2 k hk).1, fun hy => ?_⟩, fun k hk => ?_, h4.trans (hb.mono h5), Nat.le_trans h5 hb.size⟩
  · rcases hY k hy with e | e
    · exact (h2 k hk).2 e
    · have := hM.lt h1 k hk; omega
  · rcases hY k hk with e | e
    · exact Nat.lt_of_lt_of_le (h3 k e) hb.size
    · exact e.2
theorem Pz.on {F : Nat → Prop} {p' : Nat} (h2 : ∀ k, F k → lo ≤ k ∧ ¬ X k) (h3 : ∀ k, X k → k < wx.heap.size) (h4 : Below lo W wx) (h5 : lo ≤ wx.heap.size) (hr : PmR Pm p' S' F wx wy) : Pz Pm lo X W wy p' S' ∧ ∀ k, X k → wy.heap[k]? = wx.heap[k]? := by
  obtain ⟨F', g1, g2, g3⟩ := hr
  refine ⟨⟨F', g1, fun k hk => ?_, fun k hk => Nat.lt_of_lt_of_le (h3 k hk) g2.size, h4.trans (g2.below (fun k f => (h2 k f).1) h5), Nat.le_trans h5 g2.size⟩, fun k hk => g2.block k (h3 k hk) (fun f => (h2 k f).2 hk)⟩
  rcases g3 k hk with f | f
  · exact h2 k f
  · exact ⟨by omega, fun e => by have := h3 k e; omega⟩
end
section
variable {Pm : World → Nat → Ms → (Nat → Prop) → Prop} (hM : Mach Pm) {lo : Nat} {X : Nat → Prop} {W w : World} {b k : Nat} {S : Ms}
include hM
end
theorem startD_bq (n most : Int) (tw : Nat → Nat) (TN d e k : Nat) (hn : n = 2 ∨ n = 3) (hm : 0 ≤ most) (hm' : most ≤ 1048576) (hT : TN ≤ 20000000000000) (htw : ∀ i, i < TN → tw i < 2 ^ 64) (hd : d ≤ e) (he : e ≤ TN) : Bq k (startD n most tw TN d e) := by
  refine ⟨Nat.zero_le _, Nat.zero_le _, Nat.zero_le _, Nat.zero_le _, Nat.zero_le _, by show d ≤ _; omega, by show e - d ≤ _; omega, hT, fun i hi => absurd hi (Nat.not_lt_zero i), htw, fun _ => rfl, fun i hi => absurd hi (Nat.not_lt_zero i), fun i hi => absurd hi (Nat.not_lt_zero i), by show (0 : Int) ≤ 0 ∧ (0 : Int) ≤ 3; decide, by show _ ≤ n ∧ n ≤ _; omega, by show _ ≤ most ∧ most ≤ _; omega, by show 0 ≤ 4; omega⟩
end Go.Proofs.YtpjgpiieminaoaaDoor

/- General: arrays of ints that are not negative, by value and in a block (Arw's, for i64). No program is named. -/
namespace Go.Proofs.YtpjgpiieminaoaaDoor
open Go.ChangeShapes Go.WideShapes Go.ChangeAt Go.RowKit

/-- The n cells of an array of words. -/
def ia (n : Nat) (f : Nat → Nat) : Array Value := ((List.range n).map fun i => Value.int .i64 (f i : Int)).toArray

theorem ia_size (n : Nat) (f : Nat → Nat) : (ia n f).size = n := by simp [ia]
theorem ia_get {n : Nat} (f : Nat → Nat) {j : Nat} (h : j < n) : (ia n f)[j]? = some (.int .i64 (f j : Int)) := by simp [ia, h]
theorem ia_ext {n : Nat} {f g : Nat → Nat} (h : ∀ i, i < n → f i = g i) : ia n f = ia n g := by
  unfold ia
  congr 1
  refine List.map_congr_left fun i hi => ?_
  rw [h i (List.mem_range.1 hi)]
theorem ia_set {n : Nat} (f : Nat → Nat) (j z : Nat) : (ia n f).setIfInBounds j (.int .i64 (z : Int)) = ia n (upd f j z) := by
  apply Array.ext_getElem?
  intro i
  rw [Array.getElem?_setIfInBounds, ia_size]
  by_cases hi : i < n
  · rw [ia_get _ hi, ia_get _ hi]
    by_cases e : j = i
    · subst e; rw [if_pos rfl, if_pos hi, upd_same]
    · rw [if_neg e, upd_other _ _ _ _ (fun h => e h.symm)]
  · have h1 : (ia n f)[i]? = none := by simp [ia_size]; omega
    have h2 : (ia n (upd f j z))[i]? = none := by simp [ia_size]; omega
    rw [h1, h2]
    by_cases e : j = i
    · rw [if_pos e, if_neg (by omega)]
    · rw [if_neg e]
theorem ia_one (n : Nat) (f : Nat → Nat) : (ia n f).all (·.oneCell') = true := by
  refine Array.all_eq_true_iff_forall_mem.2 (fun v hv => ?_)
  simp [ia] at hv
  obtain ⟨i, _, rfl⟩ := hv
  rfl

section prog
variable {P : Program}

end prog
/-! ### an array in a block of its own -/
/-- Block b holds, whole, the n words of f, as a variable of type t. -/
def Ai (w : World) (b n : Nat) (t : TypeId) (f : Nat → Nat) : Prop := w.heap[b]? = some (.cells (ia n f) t (0, 0))
theorem Ai.lt {w : World} {b n : Nat} {t : TypeId} {f : Nat → Nat} (h : Ai w b n t f) : b < w.heap.size := (Array.getElem?_eq_some_iff.1 h).1
theorem Ai.cell {w : World} {b n : Nat} {t : TypeId} {f : Nat → Nat} (h : Ai w b n t f) {j : Nat} (hj : j < n) : w.cell? ⟨b, j, none⟩ = some (.int .i64 (f j : Int)) := by
  rw [cell_of_row w b j _ t (0, 0) h, ia_get f hj]
theorem Ai.free {w : World} {b n : Nat} {t : TypeId} {f : Nat → Nat} (h : Ai w b n t f) (o : Nat) : w.frozen? ⟨b, o, none⟩ = false := frozen_of_row w b o _ t h
theorem Ai.set {w : World} {b n : Nat} {t : TypeId} {f : Nat → Nat} (h : Ai w b n t f) (j z : Nat) : Ai (w.setCell ⟨b, j, none⟩ (.int .i64 (z : Int))) b n t (upd f j z) := by
  unfold Ai
  rw [heap_setCell_same w b j _ t _ h, ia_set]
theorem Ai.apart {w : World} {b n : Nat} {t : TypeId} {f : Nat → Nat} (h : Ai w b n t f) {a : Addr} (ha : b ≠ a.block) (v : Value) : Ai (w.setCell a v) b n t f := (heap_setCell_other w a b v ha).trans h
theorem Ai.row {w : World} {b n : Nat} {t : TypeId} {f : Nat → Nat} (h : Ai w b n t f) (g : Nat → Nat) : Ai (w.setRow b (ia n g)) b n t g := setRow_heap w b _ _ t _ h
theorem Ai.alloc {w : World} {b n : Nat} {t : TypeId} {f : Nat → Nat} (h : Ai w b n t f) (o : Obj) : Ai (w.alloc o) b n t f := (heap_alloc_old w o h.lt).trans h
theorem Ai.new (w : World) (n : Nat) (t : TypeId) (f : Nat → Nat) : Ai (w.alloc (.cells (ia n f) t)) w.heap.size n t f := heap_alloc_new w _
theorem Ai.drew {w : World} {b n : Nat} {t : TypeId} {f : Nat → Nat} (h : Ai w b n t f) : Ai w.drew b n t f := h
theorem Ai.below {w w' : World} {b n B : Nat} {t : TypeId} {f : Nat → Nat} (h : Ai w b n t f) (hb : Below B w w') (hB : b < B) : Ai w' b n t f := (hb.block b hB).trans h
theorem Ai.self {w w' : World} {b n : Nat} {t : TypeId} {f : Nat → Nat} (h : Ai w b n t f) (hb : Below w.heap.size w w') : Ai w' b n t f := h.below hb h.lt
theorem Ai.ext {w : World} {b n : Nat} {t : TypeId} {f g : Nat → Nat} (h : Ai w b n t f) (e : ∀ i, i < n → f i = g i) : Ai w b n t g := by
  unfold Ai at h ⊢; rw [h, ia_ext e]

section prog2
variable {P : Program}
theorem Ai.load {w : World} {b n : Nat} {t : TypeId} {f : Nat → Nat} {e : TypeId} (h : Ai w b n t f) (ty : TypeId) (hu : P.underlying ty = some (.array n e)) (hi : (P.info? ty).map (·.size) = some n) :
    (loadVar ty ⟨b, 0, none⟩).run P w = .ok (.agg (ia n f)) w :=
  run_loadVar_row w b t ty _ (0, 0) _ h hu rfl (by rw [ia_size]; exact hi)
theorem Ai.store {w : World} {b n : Nat} {t : TypeId} {f : Nat → Nat} (h : Ai w b n t f) (ty : TypeId) (g : Nat → Nat) (hi : (P.info? ty).map (·.size) = some n) :
    (storeVar ty ⟨b, 0, none⟩ (.agg (ia n g))).run P w = .ok () (w.setRow b (ia n g)) :=
  run_storeVar_row w b t ty _ _ h (by rw [ia_size]; exact hi) (by rw [ia_size, ia_size]) (ia_one n g)
end prog2

/-! ### returns of arrays -/
/-! ### whole loads and stores, as arms of a walk -/
end Go.Proofs.YtpjgpiieminaoaaDoor

/- Wire: are a trace's words what its ops make? -/
namespace Go.Proofs.YtpjgpiieminaoaaDoor
open Go.RowKit
set_option maxRecDepth 100000
/-- What the law's loop holds: the trace's box, the machine's box. -/
structure Hb (W wr : World) (n bm : Nat) (A B : Array Value) : Prop where
  one : wr.heap[n]? = some (.cells A 47 (0, 0))
  two : wr.heap[bm]? = some (.cells B 90 (0, 0))
  low : Below W.heap.size W wr
theorem Hb.self {W wr wy : World} {n bm : Nat} {A B : Array Value} (h : Hb W wr n bm A B) (hb : Below wr.heap.size wr wy) : Hb W wy n bm A B :=
  ⟨(hb.block _ (Array.getElem?_eq_some_iff.1 h.one).1).trans h.one, (hb.block _ (Array.getElem?_eq_some_iff.1 h.two).1).trans h.two, h.low.trans (hb.mono h.low.size)⟩
abbrev hmC (v : Value) : Array Value := #[.int .i64 0, .int .i64 0, .int .i64 0, .int .i64 0, .int .i64 0, .int .i64 0, .int .i64 0, .int .i64 0, .slice none 0 0, .slice none 0 0, v, .slice none 0 0, .int .i64 0, .int .i64 0, .bool false]
/-- What a round holds. -/
structure Hr (W wr : World) (n bm : Nat) (A : Array Value) (v : Value) (bo : Nat) (o : Op6) (gv ov L : Nat) (vv : Nat → Nat) : Prop where
  b : Hb W wr n bm A (hmC v)
  op : wr.heap[bo]? = some (.cells (opCs o) 52 (0, 0))
  word : ∀ i, i < L → wr.cell? ⟨gv, ov + i, none⟩ = some (.int .u64 (vv i : Int))
theorem Hr.self {W wr wy : World} {n bm : Nat} {A : Array Value} {v : Value} {bo : Nat} {o : Op6} {gv ov L : Nat} {vv : Nat → Nat} (h : Hr W wr n bm A v bo o gv ov L vv) (hb : Below wr.heap.size wr wy) : Hr W wy n bm A v bo o gv ov L vv :=
  ⟨h.b.self hb, (hb.block _ (Array.getElem?_eq_some_iff.1 h.op).1).trans h.op, fun i hi => tcell_self (h.word i hi) hb⟩
theorem Hr.drew {W wr : World} {n bm : Nat} {A : Array Value} {v : Value} {bo : Nat} {o : Op6} {gv ov L : Nat} {vv : Nat → Nat} (h : Hr W wr n bm A v bo o gv ov L vv) : Hr W wr.drew n bm A v bo o gv ov L vv := h.self ((Below.refl _ _).drew)
end Go.Proofs.YtpjgpiieminaoaaDoor

/- Share: are both machines alike? -/
namespace Go.Proofs.YtpjgpiieminaoaaDoor
open Go.RowKit
set_option maxRecDepth 100000
/-- A pair's cells. -/
abbrev paC (p b : Nat) (lv vv : Value) : Array Value := #[.pointer (some ⟨p, 0, none⟩), .pointer (some ⟨b, 0, none⟩), lv, vv]
end Go.Proofs.YtpjgpiieminaoaaDoor

/- Share: words, by the document. -/
namespace Go.Proofs.YtpjgpiieminaoaaDoor
open Go.RowKit
set_option maxRecDepth 100000
theorem step_load_row {P : Program} {w : World} {ops : Array Oper} {rest : List Oper} {o : Oper} {a : Act} {Q : Exit → Act → World → Prop} (hgd : o.guard = none) (ty : TypeId) (x : Operand) (ho : o.op = .load ty x)
    (b : Nat) (t : TypeId) (cs : Array Value) (d : TypeDesc) (hx : a.eval x = .pointer (some ⟨b, 0, none⟩)) (hA : w.heap[b]? = some (.cells cs t (0, 0))) (hu : P.underlying ty = some d) (hag : (match d with | .struct _ | .array _ _ => true | _ => false) = true) (hi : (P.info? ty).map (·.size) = some cs.size)
    (k : wpList P ops Q rest (a.put o.dst (.agg cs)) w) : wpList P ops Q (o :: rest) a w :=
  wpList_plain hgd fun _ hK => by
    unfold Oper.wp execOp
    simp only [ho, hx, Instr.loadAt, Instr.sureAddr, Sem.run_bind, Sem.run_pure, Result.andThen_ok, run_loadVar_row w b t ty cs (0, 0) d hA hu hag hi]
    exact hK _ _ k
theorem eaS_0 (S : Ms) (op : Nat → Op6) (m : Nat) : eaS S op 0 (m + 1) = (eaS S op 0 m).doS (op m) 0 := by rw [eaS, Nat.zero_add]
theorem eaR_0 (S : Ms) (op : Nat → Op6) (W : Nat → Int) (m : Nat) : eaR S op 0 W (m + 1) = updI (eaR S op 0 W m) m ((eaS S op 0 m).doR (op m)) := by rw [eaR, Nat.zero_add]
end Go.Proofs.YtpjgpiieminaoaaDoor

namespace Go.Proofs.YtpjgpiieminaoaaDoor
open Go.RowKit

/-- At block m lies the document's tape: its words that are left, how many were drawn, how many may be. -/
def ModelAt (w : World) (lo hi m : Nat) (zs : List Int) (u f : Nat) : Prop :=
  ∃ wv, w.heap[m]? = some (.cells #[wv, .int .i64 u, .int .i64 f] 88 (0, 0)) ∧ RdS .u64 w (fun g => lo ≤ g ∧ g < hi ∧ g ≠ m) wv zs ∧ lo ≤ m ∧ m < hi ∧ hi ≤ w.heap.size

theorem ModelAt.lt {w : World} {lo hi b : Nat} {zs : List Int} {d e : Nat} (h : ModelAt w lo hi b zs d e) : lo ≤ b ∧ b < hi ∧ hi ≤ w.heap.size := by
  obtain ⟨_, _, _, h⟩ := h; exact h
theorem ModelAt.only {w w' : World} {lo hi b c : Nat} {zs : List Int} {d e : Nat} (h : ModelAt w lo hi b zs d e) (o : Only c w w') (hn : c < lo ∨ hi ≤ c) : ModelAt w' lo hi b zs d e := by
  obtain ⟨wv, hb, hr, h5, h6, h7⟩ := h
  exact ⟨wv, (o.block b (by omega) (by omega)).trans hb, hr.only o (fun g hg => by omega), h5, h6, Nat.le_trans h7 o.size⟩
theorem ModelAt.below {w w' : World} {lo hi b : Nat} {zs : List Int} {d e : Nat} (h : ModelAt w lo hi b zs d e) (o : Below w.heap.size w w') : ModelAt w' lo hi b zs d e := by
  obtain ⟨wv, hb, hr, h5, h6, h7⟩ := h
  exact ⟨wv, (o.block b (by omega)).trans hb, hr.below o, h5, h6, Nat.le_trans h7 o.size⟩
theorem ModelAt.drew {w : World} {lo hi b : Nat} {zs : List Int} {d e : Nat} (h : ModelAt w lo hi b zs d e) : ModelAt w.drew lo hi b zs d e := h.below ((Below.refl _ _).drew)
theorem ModelAt.drewN {w : World} {lo hi b : Nat} {zs : List Int} {d e : Nat} (h : ModelAt w lo hi b zs d e) (n : Nat) : ModelAt (w.drewN n) lo hi b zs d e := h.below ⟨rfl, rfl, rfl, Nat.le_refl _, fun _ _ => rfl⟩
theorem ModelAt.len {w : World} {lo hi b : Nat} {zs : List Int} {d e : Nat} (h : ModelAt w lo hi b zs d e) : zs.length ≤ 17592186043904 := by
  obtain ⟨_, _, ⟨_, _, _, _, _, h, _⟩, _⟩ := h
  simp [IntKind.bits] at h; omega
/-- What is left of a slice without its first. -/
theorem RdS.tail {k : IntKind} {w : World} {S : Nat → Prop} {g off cap : Nat} {z : Int} {zs : List Int} (h : RdS k w S (.slice (some ⟨g, off, none⟩) (zs.length + 1) cap) (z :: zs)) (b : Option Addr) (hb : 0 < zs.length → b = some ⟨g, off + 1, none⟩) :
    RdS k w S (.slice b zs.length (cap - 1)) zs := by
  obtain ⟨a, c, h1, h2, h3, h4, h5, h7⟩ := h
  injection h1 with e1 e2 e3
  subst e3
  simp only [List.length_cons] at h2 h4
  refine ⟨b, cap - 1, rfl, by omega, by omega, by rw [Nat.add_mul] at h4; omega, fun x hx => h5 x (List.mem_cons_of_mem _ hx), fun hp => ?_⟩
  obtain ⟨g', off', e, hS, hlt, hc⟩ := h7 (by simp)
  rw [← e1] at e
  injection e with e
  injection e with e4 e5 e6
  subst e4; subst e5
  refine ⟨g, off + 1, hb hp, hS, hlt, fun j hj => ?_⟩
  have := hc (j + 1) (by simp; omega)
  rw [show off + 1 + j = off + (j + 1) by omega, this]
  rfl

theorem ModelAt.step {w : World} {lo hi m : Nat} {wv v' x y : Value} {zs : List Int} {u f : Nat} {u' f' : Int} (hb : w.heap[m]? = some (.cells #[wv, x, y] 88 (0, 0)))
    (hr : RdS .u64 w (fun g => lo ≤ g ∧ g < hi ∧ g ≠ m) v' zs) (h5 : lo ≤ m) (h6 : m < hi) (h7 : hi ≤ w.heap.size) (hu : u' = u) (hf : f' = f) :
    ModelAt (((w.setCell ⟨m, 0, none⟩ v').setCell ⟨m, 2, none⟩ (.int .i64 f')).setCell ⟨m, 1, none⟩ (.int .i64 u')) lo hi m zs u f ∧ Only m w (((w.setCell ⟨m, 0, none⟩ v').setCell ⟨m, 2, none⟩ (.int .i64 f')).setCell ⟨m, 1, none⟩ (.int .i64 u')) := by
  subst hu; subst hf
  have o : Only m w (((w.setCell ⟨m, 0, none⟩ v').setCell ⟨m, 2, none⟩ (.int .i64 f)).setCell ⟨m, 1, none⟩ (.int .i64 u)) :=
    ((Only.set (g := m) w (p := ⟨m, 0, none⟩) rfl _).trans (Only.set (g := m) _ (p := ⟨m, 2, none⟩) rfl _)).trans (Only.set (g := m) _ (p := ⟨m, 1, none⟩) rfl _)
  exact ⟨⟨v', set3_1 (set3_2 (set3_0 hb)), hr.only o (fun g hg => hg.2.2), h5, h6, by simpa [World.setCell] using h7⟩, o⟩

end Go.Proofs.YtpjgpiieminaoaaDoor

/- Wire: WirePlays, over what the program's machine tells. -/
namespace Go.Proofs.YtpjgpiieminaoaaDoor
open Go.RowKit
set_option maxRecDepth 100000
/-- Both machines begin. -/
theorem Bz.begun {Pm : World → Nat → Ms → (Nat → Prop) → Prop} {lo : Nat} {G F : Nat → Prop} {W wx : World} {p b : Nat} {S1 S2 : Ms} {tv : Value} (h1 : Pm wx p S1 F) (h2 : Dm ⟨lo, G⟩ wx b S2 (.slice none 0 0) (.slice none 0 0) (.slice none 0 0) tv) (hF : ∀ k, F k → lo ≤ k ∧ k ≠ b ∧ ¬ G k) (hG : ∀ k, G k → k < wx.heap.size) (h6 : Below lo W wx) (h7 : lo ≤ wx.heap.size) : Bz Pm lo (fun _ => False) W wx p b S1 S2 := by
  refine ⟨F, G, _, _, _, _, h1, h2, fun k hk => ⟨(hF k hk).1, fun e => ?_, (hF k hk).2.2, fun e => e⟩, fun k hk => hk.elim, hG, h6, h7⟩
  rcases e with e | e | e | e
  · exact (hF k hk).2.1 e
  · simp [Value.ownBlock] at e
  · simp [Value.ownBlock] at e
  · simp [Value.ownBlock] at e
/-- What the law's loop holds. -/
structure Wp (Pm : World → Nat → Ms → (Nat → Prop) → Prop) (W wr : World) (p b k : Nat) (S1 S : Ms) : Prop where
  z : Bz Pm W.heap.size (fun _ => False) W wr p b S1 S
  q : Bq k S
theorem Wp.self {Pm : World → Nat → Ms → (Nat → Prop) → Prop} (hM : Mach Pm) {W wr wy : World} {p b k : Nat} {S1 S : Ms} (h : Wp Pm W wr p b k S1 S) (hb : Below wr.heap.size wr wy) : Wp Pm W wy p b k S1 S := ⟨h.z.self hM hb, h.q⟩
end Go.Proofs.YtpjgpiieminaoaaDoor

/- Share: a pair of machines begins. -/
namespace Go.Proofs.YtpjgpiieminaoaaDoor
open Go.RowKit
set_option maxRecDepth 100000
set_option maxHeartbeats 6400000 in
theorem lbegins_any {Pm : World → Nat → Ms → (Nat → Prop) → Prop} (hM : Mach Pm) (hN : MachN Pm) (n most : Int) (hn : n = 2 ∨ n = 3) (hm : 0 ≤ most) (hm2 : most ≤ 1048576) (tw : Nat → Nat) (TN : Nat) (mv : Value) (w : World) (h : RdS .u64 w (fun g => g < w.heap.size) mv (wdL tw TN)) :
    Calls Tryd.prog 4 #[.int .i64 n, mv, .int .i64 most] w fun e w' => ∃ p b, e = .returned (.tuple #[.agg (paC p b (.slice none 0 0) (.slice none 0 0)), .bool true]) ∧ Bz Pm w.heap.size (fun _ => False) w w' p b (startD n most tw TN 0 TN) (startD n most tw TN 0 TN) := by
  obtain ⟨ma, mc, rfl, hm0⟩ := id h
  rw [wdL_len] at h
  have HT := hid (fun (w : World) (h : Rd .u64 w (.slice ma TN mc) (wdL tw TN)) => new_any _ _ w h)
  have HR : Hid (∀ lo hi b w, TapeAt w lo hi b (wdL tw TN) 0 0 → Calls Tryd.prog 16 #[.pointer (some ⟨b, 0, none⟩), .int .i64 (TN : Int)] w fun r w' => r = .returned (.int .i64 0) ∧ TapeAt w' lo hi b (wdL tw TN) 0 TN ∧ Only b w w') := hid (fun lo hi b w h => by have := reserve_ok lo hi b _ 0 0 TN w h (by rw [wdL_len]; omega); rw [Nat.zero_add] at this; exact this)
  have HN := hid hN
  have HN23 := hid hn
  have HM0 := hid (And.intro hm hm2)
  obtain ⟨w0, hw0⟩ : ∃ w0, w.alloc (.cells #[.pointer none, .pointer none, .slice none 0 0, .slice none 0 0] 30) = w0 := ⟨_, rfl⟩
  have B0 : Hid (Below w.heap.size w w0) := hid (by rw [← hw0]; exact (Below.refl _ _).alloc (Nat.le_refl _) _)
  have HX0 : Hid (w0.heap[w.heap.size]? = some (.cells #[.pointer none, .pointer none, .slice none 0 0, .slice none 0 0] 30 (0, 0))) := hid (by rw [← hw0]; exact heap_alloc_new _ _)
  have HS0 : Hid (w0.heap.size = w.heap.size + 1) := hid (by rw [← hw0]; simp)
  have HRD : Hid (∀ w', Below w.heap.size w w' → RdS .u64 w' (fun g => g < w.heap.size) (.slice ma TN mc) (wdL tw TN)) := hid (fun w' hb => rds_self h hb)
  have HW0 := hid hw0
  rw [wdL_len]
  clear h hm0 hN hn hm hm2 hw0
  go_enter Tryd.func4, Tryd.ntmps4
  go_upto_region 1 with fail
  rw [HW0.out]
  go_upto_region 4 with (first
    | (go_at_call 15; (with_reducible refine (HT.out _ (HRD.out _ B0.out).rd).mono ?_); rintro e w2 ⟨q, rfl, ht, hb⟩; have B2 := hid (B0.out.trans (hb.mono B0.out.size)); have T2 := hid ht; have HX2 := hid ((hb.block _ (Array.getElem?_eq_some_iff.1 HX0.out).1).trans HX0.out); clear ht hb)
    | (go_at_call 16; (with_reducible refine (HR.out _ _ _ _ T2.out).mono ?_); rintro e w3 ⟨rfl, ht, ho⟩; have B3 := hid (B2.out.trans (ho.below (by have := T2.out.lt; have := B0.out.size; omega) B2.out.size)); have T3 := hid ht; have HX3 := hid ((ho.block _ (Array.getElem?_eq_some_iff.1 HX2.out).1 (by have := T2.out.lt; have := HS0.out; omega)).trans HX2.out); clear ht ho)
    | (go_at_call 17; (with_reducible refine (HN.out.new _ _ _ 0 TN n most tw TN _ T3.out HN23.out HM0.out.1 HM0.out.2).mono ?_); rintro e w4 ⟨p, rfl, hb, F, hp, hF⟩; have B4 := hid (B3.out.trans (hb.mono B3.out.size)); have P4 := hid hp; have HX4 := hid ((hb.block _ (Array.getElem?_eq_some_iff.1 HX3.out).1).trans HX3.out); have F4 : Hid (∀ k, F k → w.heap.size < k) := hid (fun k hk => by have := hF k hk; have := HS0.out; have := B3.out.size; have := (Array.getElem?_eq_some_iff.1 HX3.out).1; omega); clear hp hF hb))
  go_wp2_with (first
    | (go_at_call 18; (with_reducible refine (dnew_any ⟨w.heap.size, fun g => g < w.heap.size⟩ n most tw TN (.slice ma TN mc) _ (HRD.out _ B4.out) B4.out.size).mono ?_); rintro e w5 ⟨rfl, hd, hb⟩; have B5 := hid (B4.out.trans (hb.mono B4.out.size)); have D5 := hid hd; have P5 := hid (hM.stays P4.out hb.size (fun k hk => hb.block k (hM.lt P4.out k hk))); have HX5 := hid ((hb.block _ (Array.getElem?_eq_some_iff.1 HX4.out).1).trans HX4.out); have HL5 := hid hb.size; clear hd hb)
    | (refine step_store_row rfl 30 _ _ rfl w.heap.size 30 _ (paC p w4.heap.size (.slice none 0 0) (.slice none 0 0)) rfl rfl HX5.out (by kernel_rfl) rfl (by kernel_rfl) ?_))
  refine ret_row_tmp rfl rfl (setRow_heap _ _ _ _ _ _ HX5.out) Tryd.underlying30 rfl (by kernel_rfl) rfl ?_
  refine ⟨p, w4.heap.size, rfl, ?_⟩
  have hne : w4.heap.size ≠ w.heap.size := by have := (Array.getElem?_eq_some_iff.1 HX4.out).1; omega
  have hz : ∀ k, k ≠ w.heap.size → (w5.setRow w.heap.size (paC p w4.heap.size (.slice none 0 0) (.slice none 0 0))).heap[k]? = w5.heap[k]? := fun k hk => setRow_other w5 w.heap.size k _ hk
  have hsz : (w5.setRow w.heap.size (paC p w4.heap.size (.slice none 0 0) (.slice none 0 0))).heap.size = w5.heap.size := by simp [World.setRow]
  refine Bz.begun (G := fun g => g < w.heap.size) (F := F) (tv := .slice ma TN mc) (hM.stays P5.out (by rw [hsz]; exact Nat.le_refl _) (fun k hk => hz k (by have := F4.out k hk; omega))) (Dm.stays D5.out (by rw [hsz]; exact Nat.le_refl _) (fun k hk => hz k ?_) (fun k hk _ => hz k (by have hk' : k < w.heap.size := hk; omega))) (fun k hk => ⟨by have := F4.out k hk; omega, by have := hM.lt P4.out k hk; omega, by have := F4.out k hk; show ¬ k < w.heap.size; omega⟩) (fun k hk => by have hk' : k < w.heap.size := hk; have := B5.out.size; rw [hsz]; omega) (below_setRow B5.out (Nat.le_refl _) _) (by rw [hsz]; exact B5.out.size)
  rcases hk with e | e | e | e
  · omega
  · simp [Value.ownBlock] at e
  · simp [Value.ownBlock] at e
  · simp [Value.ownBlock] at e
end Go.Proofs.YtpjgpiieminaoaaDoor

/- General: bounds of the gadgets of words. No program is named. -/
namespace Go.Proofs.YtpjgpiieminaoaaDoor

theorem sh_bd {S : Ms} (hn : S.n = 2 ∨ S.n = 3) : 2 ≤ S.sh ∧ S.sh ≤ 3 := by unfold Ms.sh; omega
theorem encS_ext (S : Ms) (x : Nat) : Ext S (encS S x) := ((beginS_ext S 1).trans (eaS_ext _ _ _ _)).trans ((doS_ext _ _ _).trans (endS_ext _))
theorem i64k (z : Int) (h : 0 ≤ z) (h2 : z ≤ 1000) : I64 z := i64c z h h2
theorem cstS_bq {k : Nat} {S : Ms} (h : Bq k S) (hn : S.n = 2 ∨ S.n = 3) {K : Int} (hK : I64 K) {c : Nat} (hc : c < 2 ^ 64) : Bq (k + 6) (cstS S K c) :=
  (eaS_bq h 0 S.sh (fun j hj => opCst_wf hK hc (by have := sh_bd hn; omega))).mono (by have := sh_bd hn; omega)
theorem enS1_bq {k : Nat} {S : Ms} (h : Bq k S) (hn : S.n = 2 ∨ S.n = 3) : Bq (k + 2) (enS1 S) :=
  (eaS_bq (h.begins 1) 1 (S.sh - 1) (fun j hj => opRand_wf (by have := sh_bd hn; omega))).mono (by have := sh_bd hn; omega)
theorem enR1_wb {k : Nat} {S : Ms} (h : Bq k S) (hk : k + 10 ≤ 100000) (hn : S.n = 2 ∨ S.n = 3) : Wb (enR1 S) :=
  eaR_wb (h.begins 1) 1 none3_wb _ (fun j hj => opRand_wf (by have := sh_bd hn; omega)) (by have := sh_bd hn; omega)
theorem opEn_wf {k : Nat} {S : Ms} (h : Bq k S) (hk : k + 10 ≤ 100000) (hn : S.n = 2 ∨ S.n = 3) : opwf (opEn S) := by
  have hw := (enS1_bq h hn).words
  have hb := enR1_wb h hk hn
  exact ⟨i64c 2 (by decide) (by decide), i64c 0 (by decide) (by decide), hb 1, hb 2, I64.m1, by show (enS1 S).words < _; omega⟩
theorem encS_bq {k : Nat} {S : Ms} (h : Bq k S) (hk : k + 10 ≤ 100000) (hn : S.n = 2 ∨ S.n = 3) {x : Nat} (hx : x < 2 ^ 64) : Bq (k + 6) (encS S x) :=
  (((enS1_bq h hn).does (opEn_wf h hk hn) hx).ends (by omega)).mono (by omega)
end Go.Proofs.YtpjgpiieminaoaaDoor

/- Share: what the program's functions of words must tell, over any machine. -/
namespace Go.Proofs.YtpjgpiieminaoaaDoor
open Go.RowKit
set_option maxRecDepth 100000
/-- The program's gadgets of words, whatever its machine is made of. -/
structure ShI (Pm : World → Nat → Ms → (Nat → Prop) → Prop) : Prop where
  enc : ∀ (b k : Nat) (S : Ms) (F : Nat → Prop) (x : Nat) (w : World), Pm w b S F → Bq k S → k + 10 ≤ 100000 → (S.n = 2 ∨ S.n = 3) → x < 2 ^ 64 → Calls Tryd.prog 5 #[.pointer (some ⟨b, 0, none⟩), .int .u64 (x : Int)] w fun e w' => e = .returned (.agg (wdV (encR S))) ∧ PmR Pm b (encS S x) F w w'
  pub : ∀ (b k : Nat) (S : Ms) (F : Nat → Prop) (c : Nat) (w : World), Pm w b S F → Bq k S → k + 10 ≤ 100000 → (S.n = 2 ∨ S.n = 3) → c < 2 ^ 64 → Calls Tryd.prog 6 #[.pointer (some ⟨b, 0, none⟩), .int .u64 (c : Int)] w fun e w' => e = .returned (.agg (wdV (cstR S 3 c))) ∧ PmR Pm b (cstS S 3 c) F w w'
  one : ∀ (b k : Nat) (S : Ms) (F : Nat → Prop) (K : Int) (A : Nat → Int) (c : Nat) (w : World), Pm w b S F → Bq k S → k + 10 ≤ 100000 → (S.n = 2 ∨ S.n = 3) → I64 K → Wb A → c < 2 ^ 64 → Calls Tryd.prog 53 #[.pointer (some ⟨b, 0, none⟩), .int .i64 K, .agg (wdV A), .int .u64 (c : Int)] w fun e w' => e = .returned (.agg (wdV (oneR S K A c))) ∧ PmR Pm b (oneS S K A c) F w w'
section
variable {Pm : World → Nat → Ms → (Nat → Prop) → Prop} (hM : Mach Pm) (hS : ShI Pm) {lo : Nat} {X : Nat → Prop} {W w : World} {b bd k : Nat} {S S2 : Ms}
include hM hS
theorem qpub (c : Nat) (h : Bz Pm lo X W w b bd S S2) (hq : Bq k S) (hk : k + 10 ≤ 100000) (hn : S.n = 2 ∨ S.n = 3) (g0 : c < 2 ^ 64) :
    Calls Tryd.prog 6 #[.pointer (some ⟨b, 0, none⟩), .int .u64 (c : Int)] w fun e w' => e = .returned (.agg (wdV (cstR S 3 c))) ∧ Bz Pm lo X W w' b bd (cstS S 3 c) S2 ∧ ∀ k, X k → w'.heap[k]? = w.heap[k]? := by
  obtain ⟨F, G, ov, bv, vv, tv, h1, h2, h3, h4, h5, h6, h7⟩ := h
  exact (hS.pub b k S F c w h1 hq hk hn g0).mono fun e w' hr => ⟨hr.1, Bz.prog hM h1 h2 h3 h4 h5 h6 h7 hr.2⟩
theorem qone (K : Int) (A : Nat → Int) (c : Nat) (h : Bz Pm lo X W w b bd S S2) (hq : Bq k S) (hk : k + 10 ≤ 100000) (hn : S.n = 2 ∨ S.n = 3) (g0 : I64 K) (g1 : Wb A) (g2 : c < 2 ^ 64) :
    Calls Tryd.prog 53 #[.pointer (some ⟨b, 0, none⟩), .int .i64 K, .agg (wdV A), .int .u64 (c : Int)] w fun e w' => e = .returned (.agg (wdV (oneR S K A c))) ∧ Bz Pm lo X W w' b bd (oneS S K A c) S2 ∧ ∀ k, X k → w'.heap[k]? = w.heap[k]? := by
  obtain ⟨F, G, ov, bv, vv, tv, h1, h2, h3, h4, h5, h6, h7⟩ := h
  exact (hS.one b k S F K A c w h1 hq hk hn g0 g1 g2).mono fun e w' hr => ⟨hr.1, Bz.prog hM h1 h2 h3 h4 h5 h6 h7 hr.2⟩
end
end Go.Proofs.YtpjgpiieminaoaaDoor

/- Share: the program's functions of words, over any machine: one machine, and boxes beside it. -/
namespace Go.Proofs.YtpjgpiieminaoaaDoor
open Go.RowKit
set_option maxRecDepth 100000
/-- From w0, with the blocks F0, a machine has come to S at w; bs: boxes that were made since. -/
structure Ow (Pm : World → Nat → Ms → (Nat → Prop) → Prop) (F0 : Nat → Prop) (w0 w : World) (b : Nat) (S : Ms) (bs : List (Nat × Obj)) : Prop where
  ex : ∃ F, Pm w b S F ∧ (∀ k, F k → F0 k ∨ w0.heap.size ≤ k) ∧ ∀ q ∈ bs, ¬ F q.1
  tch : Tch F0 w0 w
  bx : ∀ q ∈ bs, w0.heap.size ≤ q.1 ∧ w.heap[q.1]? = some q.2
  nd : (bs.map (·.1)).Nodup
section
variable {Pm : World → Nat → Ms → (Nat → Prop) → Prop} {F0 : Nat → Prop} {w0 w w' : World} {b : Nat} {S S' : Ms} {bs : List (Nat × Obj)}
theorem Ow.start {F : Nat → Prop} (h : Pm w b S F) : Ow Pm F w w b S [] := ⟨⟨F, h, fun _ q => .inl q, fun q hq => (List.not_mem_nil hq).elim⟩, Tch.refl _ _, fun q hq => (List.not_mem_nil hq).elim, by simp⟩
theorem Ow.lt (h : Ow Pm F0 w0 w b S bs) {q : Nat × Obj} (hq : q ∈ bs) : q.1 < w.heap.size := (Array.getElem?_eq_some_iff.1 (h.bx q hq).2).1
theorem Ow.self (hM : Mach Pm) (h : Ow Pm F0 w0 w b S bs) (hb : Below w.heap.size w w') : Ow Pm F0 w0 w' b S bs := by
  obtain ⟨F, h1, h2, h3⟩ := h.ex
  exact ⟨⟨F, hM.stays h1 hb.size (fun k hk => hb.block k (hM.lt h1 k hk)), h2, h3⟩, h.tch.trans (Tch.of_below (F := F0) hb) (fun _ _ f => f), fun q hq => ⟨(h.bx q hq).1, (hb.block _ (h.lt hq)).trans (h.bx q hq).2⟩, h.nd⟩
theorem Ow.new (hM : Mach Pm) (h : Ow Pm F0 w0 w b S bs) (cs : Array Value) (T : TypeId) : Ow Pm F0 w0 (w.alloc (.cells cs T)) b S ((w.heap.size, .cells cs T (0, 0)) :: bs) := by
  have h' := h.self hM ((Below.refl w.heap.size w).alloc (Nat.le_refl _) (.cells cs T))
  obtain ⟨F, h1, h2, h3⟩ := h.ex
  refine ⟨⟨F, hM.stays h1 (by rw [sz_al]; omega) (fun k hk => Below.heap_alloc w _ k (hM.lt h1 k hk)), h2, fun q hq => ?_⟩, h'.tch, fun q hq => ?_, ?_⟩
  · rcases List.mem_cons.1 hq with rfl | hq
    · exact fun e => by have := hM.lt h1 _ e; omega
    · exact h3 q hq
  · rcases List.mem_cons.1 hq with rfl | hq
    · exact ⟨h.tch.size, heap_alloc_new _ _⟩
    · exact h'.bx q hq
  · rw [List.map_cons, List.nodup_cons]
    refine ⟨fun e => ?_, h.nd⟩
    obtain ⟨q, hq, e⟩ := List.mem_map.1 e
    have := h.lt hq
    have e' : q.1 = w.heap.size := e
    omega
/-- Boxes are forgotten, or stand in another order. -/
theorem Ow.sub {bs' : List (Nat × Obj)} (h : Ow Pm F0 w0 w b S bs) (hs : ∀ q ∈ bs', q ∈ bs) (hn : (bs'.map (·.1)).Nodup) : Ow Pm F0 w0 w b S bs' := by
  obtain ⟨F, h1, h2, h3⟩ := h.ex
  exact ⟨⟨F, h1, h2, fun q hq => h3 q (hs q hq)⟩, h.tch, fun q hq => h.bx q (hs q hq), hn⟩
theorem Ow.drop {q : Nat × Obj} (h : Ow Pm F0 w0 w b S (q :: bs)) : Ow Pm F0 w0 w b S bs := h.sub (fun _ hz => List.mem_cons_of_mem _ hz) (by have := h.nd; rw [List.map_cons, List.nodup_cons] at this; exact this.2)
theorem Ow.swap {q r : Nat × Obj} (h : Ow Pm F0 w0 w b S (q :: r :: bs)) : Ow Pm F0 w0 w b S (r :: q :: bs) := h.sub (fun z hz => by simp at hz ⊢; rcases hz with e | e | e <;> simp [e]) (by
  have := h.nd
  simp only [List.map_cons, List.nodup_cons, List.mem_cons, not_or] at this ⊢
  exact ⟨⟨fun e => this.1.1 e.symm, this.2.1⟩, this.1.2, this.2.2⟩)
/-- The first box is turned. -/
theorem Ow.turn (hM : Mach Pm) {n : Nat} {o o' : Obj} (h : Ow Pm F0 w0 w b S ((n, o) :: bs)) (hn : w'.heap[n]? = some o') (ho : ∀ k, k ≠ n → w'.heap[k]? = w.heap[k]?) (hs : w.heap.size ≤ w'.heap.size) (hos : w'.os = w.os ∧ w'.tape = w.tape ∧ w'.output = w.output) : Ow Pm F0 w0 w' b S ((n, o') :: bs) := by
  have hb := h.bx _ (List.mem_cons_self ..)
  have hnd := h.nd
  rw [List.map_cons, List.nodup_cons] at hnd
  obtain ⟨F, h1, h2, h3⟩ := h.ex
  have hne : ∀ k, F k → k ≠ n := fun k hk e => h3 _ (List.mem_cons_self ..) (by show F n; rw [← e]; exact hk)
  refine ⟨⟨F, hM.stays h1 hs (fun k hk => ho k (hne k hk)), h2, fun q hq => ?_⟩, ?_, fun q hq => ?_, ?_⟩
  · rcases List.mem_cons.1 hq with rfl | hq
    · exact h3 (n, o) (List.mem_cons_self ..)
    · exact h3 q (List.mem_cons_of_mem _ hq)
  · have hn0 : w0.heap.size ≤ n := hb.1
    exact h.tch.trans ⟨hos.1, hos.2.1, hos.2.2, hs, fun k hk hF => ho k (fun e => hF (by show n = k; exact e.symm))⟩ (G := fun k => n = k) (fun j hj e => by have e' : n = j := e; omega)
  · rcases List.mem_cons.1 hq with rfl | hq
    · exact ⟨hb.1, hn⟩
    · exact ⟨(h.bx q (List.mem_cons_of_mem _ hq)).1, (ho q.1 (fun e => hnd.1 (List.mem_map.2 ⟨q, hq, e⟩))).trans (h.bx q (List.mem_cons_of_mem _ hq)).2⟩
  · rw [List.map_cons, List.nodup_cons]; exact hnd
theorem Ow.row (hM : Mach Pm) {n : Nat} {cs : Array Value} {T : TypeId} (h : Ow Pm F0 w0 w b S ((n, .cells cs T (0, 0)) :: bs)) (cs' : Array Value) : Ow Pm F0 w0 (w.setRow n cs') b S ((n, .cells cs' T (0, 0)) :: bs) :=
  h.turn hM (setRow_heap w n cs cs' T _ (h.bx _ (List.mem_cons_self ..)).2) (fun k hk => setRow_other w n k cs' hk) (by simp [World.setRow]) ⟨rfl, rfl, rfl⟩
theorem Ow.cell (hM : Mach Pm) {n : Nat} {cs : Array Value} {T : TypeId} (h : Ow Pm F0 w0 w b S ((n, .cells cs T (0, 0)) :: bs)) (i : Nat) (v : Value) : Ow Pm F0 w0 (w.setCell ⟨n, i, none⟩ v) b S ((n, .cells (cs.setIfInBounds i v) T (0, 0)) :: bs) :=
  h.turn hM (heap_setCell_same w n i cs T v (h.bx _ (List.mem_cons_self ..)).2) (fun k hk => heap_setCell_other w ⟨n, i, none⟩ k v hk) (by simp [World.setCell]) ⟨rfl, rfl, rfl⟩
theorem Ow.bl (h : Ow Pm F0 w0 w b S bs) (i : Nat) {n : Nat} {u : Obj} (hi : bs[i]? = some (n, u)) : w.heap[n]? = some u := (h.bx (n, u) (List.mem_of_getElem? hi)).2
/-- A method's contract. -/
theorem Ow.lift (_ : Mach Pm) (h : Ow Pm F0 w0 w b S bs) {f : FuncId} {args : Array Value} {E : Ending → Prop} (hc : ∀ F, Pm w b S F → Calls Tryd.prog f args w fun e w' => E e ∧ PmR Pm b S' F w w') : Calls Tryd.prog f args w fun e w' => E e ∧ Ow Pm F0 w0 w' b S' bs := by
  obtain ⟨F, h1, h2, h3⟩ := h.ex
  refine (hc F h1).mono fun e w' hr => ⟨hr.1, ?_⟩
  obtain ⟨F', g1, g2, g3⟩ := hr.2
  refine ⟨⟨F', g1, fun k hk => ?_, fun q hq e => ?_⟩, h.tch.trans g2 (fun j hj f => (h2 j f).resolve_right (by omega)), fun q hq => ⟨(h.bx q hq).1, (g2.block q.1 (h.lt hq) (h3 q hq)).trans (h.bx q hq).2⟩, h.nd⟩
  · rcases g3 k hk with f | f
    · exact h2 k f
    · exact .inr (Nat.le_trans h.tch.size f)
  · rcases g3 _ e with f | f
    · exact h3 q hq f
    · have := h.lt hq; omega
theorem Ow.fin (h : Ow Pm F0 w0 w b S bs) : PmR Pm b S F0 w0 w := by
  obtain ⟨F, h1, h2, _⟩ := h.ex
  exact ⟨F, h1, h.tch, h2⟩
/-- A contract that makes memory alone. -/
theorem Ow.asks (h : Ow Pm F0 w0 w b S bs) {f : FuncId} {args : Array Value} {E : Ending → World → Prop} (hc : ∀ F, Pm w b S F → Calls Tryd.prog f args w E) : Calls Tryd.prog f args w E := by
  obtain ⟨F, h1, _, _⟩ := h.ex
  exact hc F h1
end
end Go.Proofs.YtpjgpiieminaoaaDoor

/- Share: the program's functions of words, over any machine: share by share. -/
namespace Go.Proofs.YtpjgpiieminaoaaDoor
open Go.RowKit
set_option maxRecDepth 100000
theorem built_wd (A : Nat → Int) : Tryd.prog.built 35 [(0, .agg (wdV A))] = some (wdV A) := by kernel_rfl
theorem step_build_wd (A : Nat → Int) {w : World} {ops : Array Oper} {rest : List Oper} {o : Oper} {a : Act} {Q : Exit → Act → World → Prop} (hgd : o.guard = none) (x : Operand) (ho : o.op = .build 35 #[(0, x)])
    (hx : a.eval x = .agg (wdV A)) (k : wpList Tryd.prog ops Q rest (a.put o.dst (.agg (wdV A))) w) : wpList Tryd.prog ops Q (o :: rest) a w := by
  have e : ((#[(0, x)] : Array (Nat × Operand)).map fun (i, x) => (i, a.eval x)).toList = [(0, .agg (wdV A))] := by simp [hx]
  refine wpList_build hgd 35 #[(0, x)] ho (by rw [e, built_wd]; rfl) ?_
  rw [e, built_wd]; exact k
set_option maxHeartbeats 3200000 in
theorem each_enc {Pm : World → Nat → Ms → (Nat → Prop) → Prop} (hM : Mach Pm) {F0 : Nat → Prop} {w0 w : World} {b : Nat} {bs : List (Nat × Obj)} (p1 n N : Nat) (St : Nat → Ms) (U : Nat → Nat → Int) (rg : Nat → Int) (h : Ow Pm F0 w0 w b (St 0) bs) (hn3 : n ≤ 3) (hq : Bq N (St 0)) (hk : N ≤ 1000000) (hn : (St 0).n = (n : Int))
    (hU0 : U 0 = none3) (hU : ∀ j, j < n → U (j + 1) = updI (U j) j (rg j))
    (HC : ∀ (j : Nat) (bs' : List (Nat × Obj)) (w' : World), j < n → (∀ q ∈ bs, q ∈ bs') → Ow Pm F0 w0 w' b (St j) bs' → Calls Tryd.prog 21 #[.int .i64 (j : Int), .pointer (some ⟨p1, 0, none⟩)] w' fun e w2 => e = .returned (.int .i64 (rg j)) ∧ Ow Pm F0 w0 w2 b (St (j + 1)) bs') :
    Calls Tryd.prog 20 #[.pointer (some ⟨b, 0, none⟩), .func (.func 21) #[] #[.pointer (some ⟨p1, 0, none⟩)]] w fun e w' => e = .returned (.agg (wdV (U n))) ∧ Ow Pm F0 w0 w' b (St n) bs := by
  have HNB : Hid (∀ (bs' : List (Nat × Obj)) (w' : World), Ow Pm F0 w0 w' b (St 0) bs' → Calls Tryd.prog 40 #[.pointer (some ⟨b, 0, none⟩)] w' fun e w2 => e = .returned (.int .i64 (n : Int)) ∧ Below w'.heap.size w' w2) := hid (fun bs' w' h' => h'.asks (fun F hF => by have := hM.n b N (St 0) F w' hF hq hk; rw [hn] at this; exact this))
  have HC' := hid HC
  have HN3 : Hid (n ≤ 3) := hid hn3
  have HU := hid hU
  have HU0 := hid hU0
  have H0 := hid (h.new hM #[.int .i64 0, .int .i64 0, .int .i64 0] 35)
  obtain ⟨w1, hw1⟩ : ∃ w1, w.alloc (.cells #[.int .i64 0, .int .i64 0, .int .i64 0] 35) = w1 := ⟨_, rfl⟩
  rw [hw1] at H0
  have HW := hid hw1
  clear h hq hk hn HC hw1 hU hU0 hn3
  obtain ⟨g4, hg4⟩ : ∃ g4, w.heap.size = g4 := ⟨_, rfl⟩
  rw [hg4] at H0
  have HG4 := hid hg4
  clear hg4
  go_enter Tryd.func20, Tryd.ntmps20
  go_upto_region 1 with fail
  rw [HW.out, HG4.out]
  go_upto_region 2 with fail
  have H2 := hid (H0.out.new hM (wdV none3) 33)
  obtain ⟨g5, hg5⟩ : ∃ g5, w1.heap.size = g5 := ⟨_, rfl⟩
  rw [hg5] at H2
  have H3 : Hid (Ow Pm F0 w0 (w1.alloc (.cells #[.int .i64 (-1), .int .i64 (-1), .int .i64 (-1)] 33)) b (St 0) ((g5, .cells (wdV none3) 33 (0, 0)) :: (g4, .cells #[.int .i64 0, .int .i64 0, .int .i64 0] 35 (0, 0)) :: bs)) := H2
  generalize w1.alloc (.cells #[.int .i64 (-1), .int .i64 (-1), .int .i64 (-1)] 33) = w3 at *
  rw [hg5]
  clear hg5 H2 H0
  rw [← HU0.out] at H3
  go_wp2_with (go_at_call 40; (with_reducible refine (HNB.out _ _ H3.out).mono ?_); rintro e w4 ⟨rfl, hb⟩; have H4 := hid (H3.out.self hM hb); clear hb)
  go_loopw [10] (fun iv wr => ∃ j : Nat, j ≤ n ∧ iv = .int .i64 j ∧ Ow Pm F0 w0 wr b (St j) ((g5, .cells (wdV (U j)) 33 (0, 0)) :: (g4, .cells #[.int .i64 0, .int .i64 0, .int .i64 0] 35 (0, 0)) :: bs)) (fun iv _ => n - (intOf iv).toNat)
  case atStart => exact ⟨0, by omega, rfl, H4.out⟩
  case round =>
    clear H3 H4
    obtain ⟨j, hj, rfl, hI⟩ := hrel
    have HI := hid hI
    clear hI
    have hn3 := HN3.out
    by_cases hlt : j < n
    · have j1 : (j : Int) < (n : Int) := by omega
      have j0 : (0 : Int) ≤ (j : Int) := by omega
      have j3 : (j : Int) < 3 := by omega
      have HJ3 : Hid (j < 3) := hid (by omega)
      have HCJ : Hid (∀ w', Ow Pm F0 w0 w' b (St j) ((g5, .cells (wdV (U j)) 33 (0, 0)) :: (g4, .cells #[.int .i64 0, .int .i64 0, .int .i64 0] 35 (0, 0)) :: bs) → Calls Tryd.prog 21 #[.int .i64 (j : Int), .pointer (some ⟨p1, 0, none⟩)] w' fun e w2 => e = .returned (.int .i64 (rg j)) ∧ Ow Pm F0 w0 w2 b (St (j + 1)) ((g5, .cells (wdV (U j)) 33 (0, 0)) :: (g4, .cells #[.int .i64 0, .int .i64 0, .int .i64 0] 35 (0, 0)) :: bs)) := hid (fun w' h' => HC'.out j _ w' hlt (fun q hq => by simp [hq]) h')
      have HER : Hid ((wdV (U j)).setIfInBounds j (.int .i64 (rg j)) = wdV (U (j + 1))) := hid (by rw [wdV_upd _ j _ (by omega), HU.out j hlt])
      go_wp2_with (go_at_call 21; (with_reducible refine (HCJ.out _ HI.out).mono ?_); rintro e w6 ⟨rfl, h6⟩; have H6 := hid h6; have cj := row_c (i := j) (H6.out.bl 0 rfl) (wdV_at (U j) j HJ3.out); have fj := frozen_of_row w6 g5 j _ _ (H6.out.bl 0 rfl); clear h6)
      have H7 := hid (H6.out.cell hM j (.int .i64 (rg j)))
      rw [HER.out] at H7
      go_roundw
      case rel => exact ⟨j + 1, by omega, by go_num, H7.out⟩
      case measure => simp [intOf]; omega
    · obtain rfl : j = n := by omega
      clear hlt
      go_wp2_with (first
        | (refine step_load_row rfl 33 _ rfl g5 33 (wdV (U j)) _ rfl (HI.out.bl 0 rfl) Tryd.underlying33 rfl (by kernel_rfl) ?_)
        | (refine step_build_wd (U j) rfl _ rfl rfl ?_)
        | (refine step_store_row rfl 35 _ _ rfl g4 35 _ (wdV (U j)) rfl rfl (HI.out.bl 1 rfl) (by kernel_rfl) rfl (by kernel_rfl) ?_))
      have H8 := hid (HI.out.swap.row hM (wdV (U j)))
      exact bodyPost_ret (results_cell_row (by rfl) _ _ g4 35 (wdV (U j)) (0, 0) _ rfl (H8.out.bl 0 rfl) Tryd.underlying35 rfl (by kernel_rfl)) rfl ⟨rfl, H8.out.drop.drop⟩
set_option maxHeartbeats 3200000 in
theorem each_alone {Pm : World → Nat → Ms → (Nat → Prop) → Prop} (hM : Mach Pm) {F0 : Nat → Prop} {w0 w : World} {b : Nat} {bs : List (Nat × Obj)} (p1 p2 p3 n N : Nat) (St : Nat → Ms) (U : Nat → Nat → Int) (rg : Nat → Int) (h : Ow Pm F0 w0 w b (St 0) bs) (hn3 : n ≤ 3) (hq : Bq N (St 0)) (hk : N ≤ 1000000) (hn : (St 0).n = (n : Int))
    (hU0 : U 0 = none3) (hU : ∀ j, j < n → U (j + 1) = updI (U j) j (rg j))
    (HC : ∀ (j : Nat) (bs' : List (Nat × Obj)) (w' : World), j < n → (∀ q ∈ bs, q ∈ bs') → Ow Pm F0 w0 w' b (St j) bs' → Calls Tryd.prog 44 #[.int .i64 (j : Int), .pointer (some ⟨p1, 0, none⟩), .pointer (some ⟨p2, 0, none⟩), .pointer (some ⟨p3, 0, none⟩)] w' fun e w2 => e = .returned (.int .i64 (rg j)) ∧ Ow Pm F0 w0 w2 b (St (j + 1)) bs') :
    Calls Tryd.prog 20 #[.pointer (some ⟨b, 0, none⟩), .func (.func 44) #[] #[.pointer (some ⟨p1, 0, none⟩), .pointer (some ⟨p2, 0, none⟩), .pointer (some ⟨p3, 0, none⟩)]] w fun e w' => e = .returned (.agg (wdV (U n))) ∧ Ow Pm F0 w0 w' b (St n) bs := by
  have HNB : Hid (∀ (bs' : List (Nat × Obj)) (w' : World), Ow Pm F0 w0 w' b (St 0) bs' → Calls Tryd.prog 40 #[.pointer (some ⟨b, 0, none⟩)] w' fun e w2 => e = .returned (.int .i64 (n : Int)) ∧ Below w'.heap.size w' w2) := hid (fun bs' w' h' => h'.asks (fun F hF => by have := hM.n b N (St 0) F w' hF hq hk; rw [hn] at this; exact this))
  have HC' := hid HC
  have HN3 : Hid (n ≤ 3) := hid hn3
  have HU := hid hU
  have HU0 := hid hU0
  have H0 := hid (h.new hM #[.int .i64 0, .int .i64 0, .int .i64 0] 35)
  obtain ⟨w1, hw1⟩ : ∃ w1, w.alloc (.cells #[.int .i64 0, .int .i64 0, .int .i64 0] 35) = w1 := ⟨_, rfl⟩
  rw [hw1] at H0
  have HW := hid hw1
  clear h hq hk hn HC hw1 hU hU0 hn3
  obtain ⟨g4, hg4⟩ : ∃ g4, w.heap.size = g4 := ⟨_, rfl⟩
  rw [hg4] at H0
  have HG4 := hid hg4
  clear hg4
  go_enter Tryd.func20, Tryd.ntmps20
  go_upto_region 1 with fail
  rw [HW.out, HG4.out]
  go_upto_region 2 with fail
  have H2 := hid (H0.out.new hM (wdV none3) 33)
  obtain ⟨g5, hg5⟩ : ∃ g5, w1.heap.size = g5 := ⟨_, rfl⟩
  rw [hg5] at H2
  have H3 : Hid (Ow Pm F0 w0 (w1.alloc (.cells #[.int .i64 (-1), .int .i64 (-1), .int .i64 (-1)] 33)) b (St 0) ((g5, .cells (wdV none3) 33 (0, 0)) :: (g4, .cells #[.int .i64 0, .int .i64 0, .int .i64 0] 35 (0, 0)) :: bs)) := H2
  generalize w1.alloc (.cells #[.int .i64 (-1), .int .i64 (-1), .int .i64 (-1)] 33) = w3 at *
  rw [hg5]
  clear hg5 H2 H0
  rw [← HU0.out] at H3
  go_wp2_with (go_at_call 40; (with_reducible refine (HNB.out _ _ H3.out).mono ?_); rintro e w4 ⟨rfl, hb⟩; have H4 := hid (H3.out.self hM hb); clear hb)
  go_loopw [10] (fun iv wr => ∃ j : Nat, j ≤ n ∧ iv = .int .i64 j ∧ Ow Pm F0 w0 wr b (St j) ((g5, .cells (wdV (U j)) 33 (0, 0)) :: (g4, .cells #[.int .i64 0, .int .i64 0, .int .i64 0] 35 (0, 0)) :: bs)) (fun iv _ => n - (intOf iv).toNat)
  case atStart => exact ⟨0, by omega, rfl, H4.out⟩
  case round =>
    clear H3 H4
    obtain ⟨j, hj, rfl, hI⟩ := hrel
    have HI := hid hI
    clear hI
    have hn3 := HN3.out
    by_cases hlt : j < n
    · have j1 : (j : Int) < (n : Int) := by omega
      have j0 : (0 : Int) ≤ (j : Int) := by omega
      have j3 : (j : Int) < 3 := by omega
      have HJ3 : Hid (j < 3) := hid (by omega)
      have HCJ : Hid (∀ w', Ow Pm F0 w0 w' b (St j) ((g5, .cells (wdV (U j)) 33 (0, 0)) :: (g4, .cells #[.int .i64 0, .int .i64 0, .int .i64 0] 35 (0, 0)) :: bs) → Calls Tryd.prog 44 #[.int .i64 (j : Int), .pointer (some ⟨p1, 0, none⟩), .pointer (some ⟨p2, 0, none⟩), .pointer (some ⟨p3, 0, none⟩)] w' fun e w2 => e = .returned (.int .i64 (rg j)) ∧ Ow Pm F0 w0 w2 b (St (j + 1)) ((g5, .cells (wdV (U j)) 33 (0, 0)) :: (g4, .cells #[.int .i64 0, .int .i64 0, .int .i64 0] 35 (0, 0)) :: bs)) := hid (fun w' h' => HC'.out j _ w' hlt (fun q hq => by simp [hq]) h')
      have HER : Hid ((wdV (U j)).setIfInBounds j (.int .i64 (rg j)) = wdV (U (j + 1))) := hid (by rw [wdV_upd _ j _ (by omega), HU.out j hlt])
      go_wp2_with (go_at_call 44; (with_reducible refine (HCJ.out _ HI.out).mono ?_); rintro e w6 ⟨rfl, h6⟩; have H6 := hid h6; have cj := row_c (i := j) (H6.out.bl 0 rfl) (wdV_at (U j) j HJ3.out); have fj := frozen_of_row w6 g5 j _ _ (H6.out.bl 0 rfl); clear h6)
      have H7 := hid (H6.out.cell hM j (.int .i64 (rg j)))
      rw [HER.out] at H7
      go_roundw
      case rel => exact ⟨j + 1, by omega, by go_num, H7.out⟩
      case measure => simp [intOf]; omega
    · obtain rfl : j = n := by omega
      clear hlt
      go_wp2_with (first
        | (refine step_load_row rfl 33 _ rfl g5 33 (wdV (U j)) _ rfl (HI.out.bl 0 rfl) Tryd.underlying33 rfl (by kernel_rfl) ?_)
        | (refine step_build_wd (U j) rfl _ rfl rfl ?_)
        | (refine step_store_row rfl 35 _ _ rfl g4 35 _ (wdV (U j)) rfl rfl (HI.out.bl 1 rfl) (by kernel_rfl) rfl (by kernel_rfl) ?_))
      have H8 := hid (HI.out.swap.row hM (wdV (U j)))
      exact bodyPost_ret (results_cell_row (by rfl) _ _ g4 35 (wdV (U j)) (0, 0) _ rfl (H8.out.bl 0 rfl) Tryd.underlying35 rfl (by kernel_rfl)) rfl ⟨rfl, H8.out.drop.drop⟩
set_option maxHeartbeats 3200000 in
theorem each_one {Pm : World → Nat → Ms → (Nat → Prop) → Prop} (hM : Mach Pm) {F0 : Nat → Prop} {w0 w : World} {b : Nat} {bs : List (Nat × Obj)} (p1 p2 p3 p4 n N : Nat) (St : Nat → Ms) (U : Nat → Nat → Int) (rg : Nat → Int) (h : Ow Pm F0 w0 w b (St 0) bs) (hn3 : n ≤ 3) (hq : Bq N (St 0)) (hk : N ≤ 1000000) (hn : (St 0).n = (n : Int))
    (hU0 : U 0 = none3) (hU : ∀ j, j < n → U (j + 1) = updI (U j) j (rg j))
    (HC : ∀ (j : Nat) (bs' : List (Nat × Obj)) (w' : World), j < n → (∀ q ∈ bs, q ∈ bs') → Ow Pm F0 w0 w' b (St j) bs' → Calls Tryd.prog 61 #[.int .i64 (j : Int), .pointer (some ⟨p1, 0, none⟩), .pointer (some ⟨p2, 0, none⟩), .pointer (some ⟨p3, 0, none⟩), .pointer (some ⟨p4, 0, none⟩)] w' fun e w2 => e = .returned (.int .i64 (rg j)) ∧ Ow Pm F0 w0 w2 b (St (j + 1)) bs') :
    Calls Tryd.prog 20 #[.pointer (some ⟨b, 0, none⟩), .func (.func 61) #[] #[.pointer (some ⟨p1, 0, none⟩), .pointer (some ⟨p2, 0, none⟩), .pointer (some ⟨p3, 0, none⟩), .pointer (some ⟨p4, 0, none⟩)]] w fun e w' => e = .returned (.agg (wdV (U n))) ∧ Ow Pm F0 w0 w' b (St n) bs := by
  have HNB : Hid (∀ (bs' : List (Nat × Obj)) (w' : World), Ow Pm F0 w0 w' b (St 0) bs' → Calls Tryd.prog 40 #[.pointer (some ⟨b, 0, none⟩)] w' fun e w2 => e = .returned (.int .i64 (n : Int)) ∧ Below w'.heap.size w' w2) := hid (fun bs' w' h' => h'.asks (fun F hF => by have := hM.n b N (St 0) F w' hF hq hk; rw [hn] at this; exact this))
  have HC' := hid HC
  have HN3 : Hid (n ≤ 3) := hid hn3
  have HU := hid hU
  have HU0 := hid hU0
  have H0 := hid (h.new hM #[.int .i64 0, .int .i64 0, .int .i64 0] 35)
  obtain ⟨w1, hw1⟩ : ∃ w1, w.alloc (.cells #[.int .i64 0, .int .i64 0, .int .i64 0] 35) = w1 := ⟨_, rfl⟩
  rw [hw1] at H0
  have HW := hid hw1
  clear h hq hk hn HC hw1 hU hU0 hn3
  obtain ⟨g4, hg4⟩ : ∃ g4, w.heap.size = g4 := ⟨_, rfl⟩
  rw [hg4] at H0
  have HG4 := hid hg4
  clear hg4
  go_enter Tryd.func20, Tryd.ntmps20
  go_upto_region 1 with fail
  rw [HW.out, HG4.out]
  go_upto_region 2 with fail
  have H2 := hid (H0.out.new hM (wdV none3) 33)
  obtain ⟨g5, hg5⟩ : ∃ g5, w1.heap.size = g5 := ⟨_, rfl⟩
  rw [hg5] at H2
  have H3 : Hid (Ow Pm F0 w0 (w1.alloc (.cells #[.int .i64 (-1), .int .i64 (-1), .int .i64 (-1)] 33)) b (St 0) ((g5, .cells (wdV none3) 33 (0, 0)) :: (g4, .cells #[.int .i64 0, .int .i64 0, .int .i64 0] 35 (0, 0)) :: bs)) := H2
  generalize w1.alloc (.cells #[.int .i64 (-1), .int .i64 (-1), .int .i64 (-1)] 33) = w3 at *
  rw [hg5]
  clear hg5 H2 H0
  rw [← HU0.out] at H3
  go_wp2_with (go_at_call 40; (with_reducible refine (HNB.out _ _ H3.out).mono ?_); rintro e w4 ⟨rfl, hb⟩; have H4 := hid (H3.out.self hM hb); clear hb)
  go_loopw [10] (fun iv wr => ∃ j : Nat, j ≤ n ∧ iv = .int .i64 j ∧ Ow Pm F0 w0 wr b (St j) ((g5, .cells (wdV (U j)) 33 (0, 0)) :: (g4, .cells #[.int .i64 0, .int .i64 0, .int .i64 0] 35 (0, 0)) :: bs)) (fun iv _ => n - (intOf iv).toNat)
  case atStart => exact ⟨0, by omega, rfl, H4.out⟩
  case round =>
    clear H3 H4
    obtain ⟨j, hj, rfl, hI⟩ := hrel
    have HI := hid hI
    clear hI
    have hn3 := HN3.out
    by_cases hlt : j < n
    · have j1 : (j : Int) < (n : Int) := by omega
      have j0 : (0 : Int) ≤ (j : Int) := by omega
      have j3 : (j : Int) < 3 := by omega
      have HJ3 : Hid (j < 3) := hid (by omega)
      have HCJ : Hid (∀ w', Ow Pm F0 w0 w' b (St j) ((g5, .cells (wdV (U j)) 33 (0, 0)) :: (g4, .cells #[.int .i64 0, .int .i64 0, .int .i64 0] 35 (0, 0)) :: bs) → Calls Tryd.prog 61 #[.int .i64 (j : Int), .pointer (some ⟨p1, 0, none⟩), .pointer (some ⟨p2, 0, none⟩), .pointer (some ⟨p3, 0, none⟩), .pointer (some ⟨p4, 0, none⟩)] w' fun e w2 => e = .returned (.int .i64 (rg j)) ∧ Ow Pm F0 w0 w2 b (St (j + 1)) ((g5, .cells (wdV (U j)) 33 (0, 0)) :: (g4, .cells #[.int .i64 0, .int .i64 0, .int .i64 0] 35 (0, 0)) :: bs)) := hid (fun w' h' => HC'.out j _ w' hlt (fun q hq => by simp [hq]) h')
      have HER : Hid ((wdV (U j)).setIfInBounds j (.int .i64 (rg j)) = wdV (U (j + 1))) := hid (by rw [wdV_upd _ j _ (by omega), HU.out j hlt])
      go_wp2_with (go_at_call 61; (with_reducible refine (HCJ.out _ HI.out).mono ?_); rintro e w6 ⟨rfl, h6⟩; have H6 := hid h6; have cj := row_c (i := j) (H6.out.bl 0 rfl) (wdV_at (U j) j HJ3.out); have fj := frozen_of_row w6 g5 j _ _ (H6.out.bl 0 rfl); clear h6)
      have H7 := hid (H6.out.cell hM j (.int .i64 (rg j)))
      rw [HER.out] at H7
      go_roundw
      case rel => exact ⟨j + 1, by omega, by go_num, H7.out⟩
      case measure => simp [intOf]; omega
    · obtain rfl : j = n := by omega
      clear hlt
      go_wp2_with (first
        | (refine step_load_row rfl 33 _ rfl g5 33 (wdV (U j)) _ rfl (HI.out.bl 0 rfl) Tryd.underlying33 rfl (by kernel_rfl) ?_)
        | (refine step_build_wd (U j) rfl _ rfl rfl ?_)
        | (refine step_store_row rfl 35 _ _ rfl g4 35 _ (wdV (U j)) rfl rfl (HI.out.bl 1 rfl) (by kernel_rfl) rfl (by kernel_rfl) ?_))
      have H8 := hid (HI.out.swap.row hM (wdV (U j)))
      exact bodyPost_ret (results_cell_row (by rfl) _ _ g4 35 (wdV (U j)) (0, 0) _ rfl (H8.out.bl 0 rfl) Tryd.underlying35 rfl (by kernel_rfl)) rfl ⟨rfl, H8.out.drop.drop⟩
end Go.Proofs.YtpjgpiieminaoaaDoor

/- General: ops one behind the other, each told by the registers that were made so far. No program is named. -/
namespace Go.Proofs.YtpjgpiieminaoaaDoor

/-- m ops, one behind the other: the machine, and the registers that they made. -/
def sq (S : Ms) (op : Nat → (Nat → Int) → Op6) : Nat → Ms × (Nat → Int)
  | 0 => (S, none3)
  | m + 1 => ((sq S op m).1.doS (op m (sq S op m).2) 0, updI (sq S op m).2 m ((sq S op m).1.doR (op m (sq S op m).2)))
def sqS (S : Ms) (op : Nat → (Nat → Int) → Op6) (m : Nat) : Ms := (sq S op m).1
def sqR (S : Ms) (op : Nat → (Nat → Int) → Op6) (m : Nat) : Nat → Int := (sq S op m).2
/-- The op of place m, and its register. -/
def sqO (S : Ms) (op : Nat → (Nat → Int) → Op6) (m : Nat) : Op6 := op m (sqR S op m)
def sqr (S : Ms) (op : Nat → (Nat → Int) → Op6) (m : Nat) : Int := (sqS S op m).doR (sqO S op m)
theorem sqS_next (S : Ms) (op : Nat → (Nat → Int) → Op6) (m : Nat) : sqS S op (m + 1) = (sqS S op m).doS (sqO S op m) 0 := rfl
theorem sqR_next (S : Ms) (op : Nat → (Nat → Int) → Op6) (m : Nat) : sqR S op (m + 1) = updI (sqR S op m) m (sqr S op m) := rfl
theorem sq_more (S : Ms) (op : Nat → (Nat → Int) → Op6) (m : Nat) : ∀ d, Ext (sqS S op m) (sqS S op (m + d))
  | 0 => Ext.refl _
  | d + 1 => (sq_more S op m d).trans (by rw [show m + (d + 1) = (m + d) + 1 from rfl, sqS_next]; exact doS_ext _ _ _)
theorem sq_ext (S : Ms) (op : Nat → (Nat → Int) → Op6) (m : Nat) : Ext S (sqS S op m) := by
  have := sq_more S op 0 m
  rw [Nat.zero_add] at this
  exact this
theorem sq_tw (S : Ms) (op : Nat → (Nat → Int) → Op6) : ∀ m, (sqS S op m).tw = S.tw
  | 0 => rfl
  | m + 1 => by rw [sqS_next, doS_tw]; exact sq_tw S op m
theorem sq_bq {k : Nat} {S : Ms} (h : Bq k S) {op : Nat → (Nat → Int) → Op6} : ∀ {m}, (∀ j, j < m → ∀ r, Wb r → opwf (op j r)) → k + m ≤ 1000000 → Bq (k + m) (sqS S op m) ∧ Wb (sqR S op m)
  | 0, _, _ => ⟨h, none3_wb⟩
  | m + 1, ho, hk => by
    obtain ⟨h1, h2⟩ := sq_bq h (op := op) (m := m) (fun j hj => ho j (by omega)) (by omega)
    exact ⟨h1.does (ho m (by omega) _ h2) (by decide), h2.upd (doR_bd h1 (by omega) _)⟩
theorem sq_e {S : Ms} {op : Nat → (Nat → Int) → Op6} : ∀ {m}, (sqS S op m).e = 0 → ∀ j, j ≤ m → (sqS S op j).e = 0
  | 0, h, j, hj => by obtain rfl : j = 0 := by omega
                      exact h
  | m + 1, h, j, hj => by
    by_cases e : j = m + 1
    · subst e; exact h
    · exact sq_e (do_ok h).1 j (by omega)
/-- The registers of ops that are all done. -/
def exR (L m : Nat) : Nat → Int := fun i => if i < m then ((L + i : Nat) : Int) else -1
theorem exR_at {L m i : Nat} (h : i < m) : exR L m i = ((L + i : Nat) : Int) := if_pos h
theorem sq_regs {S : Ms} {op : Nat → (Nat → Int) → Op6} (hs : S.skip = 0) : ∀ {m}, (sqS S op m).e = 0 → sqR S op m = exR S.L m ∧ (sqS S op m).L = S.L + m
  | 0, _ => ⟨rfl, rfl⟩
  | m + 1, h => by
    obtain ⟨h1, h2⟩ := sq_regs (op := op) hs (do_ok h).1
    obtain ⟨w1, w2, _⟩ := do_word h ((sq_ext S op m).skip.trans hs)
    have w2' : (sqS S op (m + 1)).L = (sqS S op m).L + 1 := w2
    refine ⟨?_, by rw [w2', h2]; omega⟩
    funext i
    rw [sqR_next]
    have w1' : sqr S op m = ((S.L + m : Nat) : Int) := by rw [← h2]; exact w1
    by_cases e : i = m
    · subst e; rw [updI_at, exR_at (by omega), w1']
    · rw [updI_no _ _ e, h1]
      unfold exR
      by_cases q : i < m
      · rw [if_pos q, if_pos (by omega)]
      · rw [if_neg q, if_neg (by omega)]
/-- How many masks the first m ops draw. -/
def rands (op : Nat → (Nat → Int) → Op6) (L : Nat) : Nat → Nat
  | 0 => 0
  | m + 1 => rands op L m + (if (op m (exR L m)).K = 1 then 1 else 0)
theorem sq_used {S : Ms} {op : Nat → (Nat → Int) → Op6} (hs : S.skip = 0) (hd : S.dry = false) : ∀ {m}, (sqS S op m).e = 0 → (sqS S op m).used = S.used + rands op S.L m
  | 0, _ => rfl
  | m + 1, h => by
    have h0 := (do_ok h).1
    have h1 := sq_used (op := op) hs hd h0
    have h2 : (sqS S op m).doS (sqO S op m) 0 = (sqS S op m).put (sqO S op m) 0 := (do_ok h).2.1
    have hdd : (sqS S op m).dry = false := (sq_ext S op m).dry.trans hd
    rw [sqS_next, h2]
    show (if (sqO S op m).K = 1 ∧ (sqS S op m).dry = false then (sqS S op m).used + 1 else (sqS S op m).used) = S.used + (rands op S.L m + _)
    have ho : sqO S op m = op m (exR S.L m) := by unfold sqO; rw [(sq_regs hs h0).1]
    rw [ho, h1]
    by_cases e : (op m (exR S.L m)).K = 1
    · rw [if_pos ⟨e, hdd⟩, if_pos e]; omega
    · rw [if_neg (fun q => e q.1), if_neg e]; omega
/-- A register's word, where all ops are done. -/
theorem sq_word {S : Ms} {op : Nat → (Nat → Int) → Op6} {m j : Nat} (hs : S.skip = 0) (hd : S.dry = false) (h : (sqS S op m).e = 0) (hj : j < m) :
    (sqS S op m).v (S.L + j) = evN (op j (exR S.L j)).K (op j (exR S.L j)).C (wordAt (sqS S op m).v (sqS S op m).L (op j (exR S.L j)).A) (wordAt (sqS S op m).v (sqS S op m).L (op j (exR S.L j)).B) (wordAt (sqS S op m).v (sqS S op m).L (op j (exR S.L j)).E) (if (op j (exR S.L j)).K = 1 then S.tw (S.used + rands op S.L j) else 0) := by
  have hj1 : (sqS S op (j + 1)).e = 0 := sq_e h _ (by omega)
  have hj0 : (sqS S op j).e = 0 := sq_e h _ (by omega)
  have hsj : (sqS S op j).skip = 0 := (sq_ext S op j).skip.trans hs
  have hdj : (sqS S op j).dry = false := (sq_ext S op j).dry.trans hd
  obtain ⟨h1, h2⟩ := sq_regs hs hj0
  have ho : sqO S op j = op j (exR S.L j) := by unfold sqO; rw [h1]
  have hM := sq_more S op (j + 1) (m - (j + 1))
  rw [show j + 1 + (m - (j + 1)) = m by omega] at hM
  have hM0 := sq_more S op j (m - j)
  rw [show j + (m - j) = m by omega] at hM0
  have hL1 : (sqS S op (j + 1)).L = S.L + (j + 1) := (sq_regs hs hj1).2
  obtain ⟨_, g2, _, g4⟩ := do_ok (S := sqS S op j) (o := sqO S op j) (x := 0) hj1
  have hv : (sqS S op (j + 1)).v (S.L + j) = (sqS S op j).makes (sqO S op j) 0 := by
    rw [sqS_next, g2]
    show updN (sqS S op j).v (sqS S op j).L _ _ = _
    rw [h2]; exact updN_at _ _ _
  have hlen : (sqS S op j).len = S.L + j := by unfold Ms.len; rw [hsj, h2]; omega
  unfold Ms.bad at g4
  rw [Bool.or_eq_false_iff, Bool.not_eq_false', hlen] at g4
  obtain ⟨rA, rB, rE⟩ := okOp_regs g4.1
  rw [hM.v (S.L + j) (by omega), hv]
  unfold Ms.makes
  rw [← wordAt_ext hM0 (by rw [h2]; exact rA), ← wordAt_ext hM0 (by rw [h2]; exact rB), ← wordAt_ext hM0 (by rw [h2]; exact rE), ho]
  congr 1
  unfold Ms.word
  by_cases e : (op j (exR S.L j)).K = 1
  · rw [if_pos ⟨e, hdj⟩, if_pos e, sq_tw, sq_used hs hd hj0]
  · rw [if_neg (fun q => e q.1), if_neg e]
/-- Ops that may be done are. -/
theorem sq_fine {S : Ms} {op : Nat → (Nat → Int) → Op6} (hs : S.skip = 0) (hd : S.dry = false) (he : S.e = 0) : ∀ {m}, (∀ j, j < m → okOp (op j (exR S.L j)) ((S.L + j : Nat) : Int) S.n = true ∧ (op j (exR S.L j)).K ≠ 2) → ((S.L + m : Nat) : Int) ≤ S.most → S.used + rands op S.L m ≤ S.TN → rands op S.L m ≤ S.free →
    (sqS S op m).e = 0 ∧ (sqS S op m).free = S.free - rands op S.L m ∧ (sqS S op m).most = S.most ∧ (sqS S op m).TN = S.TN
  | 0, _, _, _, _ => ⟨he, rfl, rfl, rfl⟩
  | m + 1, ho, hm, hu, hf => by
    have hr : rands op S.L (m + 1) = rands op S.L m + (if (op m (exR S.L m)).K = 1 then 1 else 0) := rfl
    obtain ⟨h1, h2, h3, h4⟩ := sq_fine hs hd he (op := op) (m := m) (fun j hj => ho j (by omega)) (by omega) (by omega) (by omega)
    obtain ⟨r1, r2⟩ := sq_regs (op := op) hs h1
    have hsm : (sqS S op m).skip = 0 := (sq_ext S op m).skip.trans hs
    have hdm : (sqS S op m).dry = false := (sq_ext S op m).dry.trans hd
    have hnm : (sqS S op m).n = S.n := (sq_ext S op m).n
    have hlen : (sqS S op m).len = S.L + m := by unfold Ms.len; rw [hsm, r2]; omega
    have hus := sq_used (op := op) hs hd h1
    obtain ⟨o1, o2⟩ := ho m (by omega)
    have hoo : sqO S op m = op m (exR S.L m) := by unfold sqO; rw [r1]
    have hput : (sqS S op m).doS (sqO S op m) 0 = (sqS S op m).put (sqO S op m) 0 := by
      unfold Ms.doS
      rw [if_neg (by omega), if_neg ?_, if_neg ?_, if_neg ?_]
      · unfold Ms.out
        rw [hoo, hdm, h4, hus]
        intro q
        simp only [Bool.not_false, Bool.and_true, Bool.and_eq_true, decide_eq_true_eq] at q
        rw [if_pos q.1] at hr
        have := q.2
        omega
      · unfold Ms.full
        rw [hdm, h3, hlen]
        intro q
        simp only [Bool.not_false, Bool.true_and, decide_eq_true_eq] at q
        omega
      · unfold Ms.bad
        rw [hlen, hnm, hoo, o1]
        intro q
        simp only [Bool.not_true, Bool.false_or, decide_eq_true_eq] at q
        exact o2 q.1
    rw [sqS_next, hput]
    refine ⟨h1, ?_, h3, h4⟩
    show (if (sqO S op m).K = 1 ∧ (sqS S op m).dry = false then (sqS S op m).free - 1 else (sqS S op m).free) = _
    rw [hoo, h2, hr]
    by_cases e : (op m (exR S.L m)).K = 1
    · rw [if_pos ⟨e, hdm⟩, if_pos e]; omega
    · rw [if_neg (fun q => e q.1), if_neg e]; omega
end Go.Proofs.YtpjgpiieminaoaaDoor
