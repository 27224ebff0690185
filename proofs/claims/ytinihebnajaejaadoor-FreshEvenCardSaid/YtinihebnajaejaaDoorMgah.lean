import Derived.Test.YtinihebnajaejaaDoorProg
import Derived.Test.YtinihebnajaejaaDoorMgag
import Derived.Test.YtinihebnajaejaaDoorMgaa
import Derived.Laws.Rows
import Derived.Laws.Tables
import Derived.Laws.StructEq
import Derived.ChangeKeysEq
import Derived.Deep.WholeRow
import Derived.Test.YtinihebnajaejaaDoorMgab
import Derived.Test.YtinihebnajaejaaDoorMgad
import Derived.Deep.CutRange
import Derived.Deep.CutBlock
import Derived.Test.YtinihebnajaejaaDoorMgaf
import Derived.Deep.DeepMust
/- Wire: the program's machine alone; nobody's machine, a new one; the example. -/
namespace Go.Proofs.YtinihebnajaejaaDoor
open Go.RowKit
set_option maxRecDepth 100000
/-- A machine over a tape of which d words were drawn, and which may be drawn up to e. -/
def startD (n most : Int) (tw : Nat → Nat) (TN d e : Nat) : Ms :=
  ⟨n, most, 0, 0, 0, 0, 0, 0, 0, fun _ => ⟨0, 0, 0, 0, 0, 0⟩, 0, fun _ => ⟨0, 0, 0⟩, fun _ => 0, tw, TN, d, e - d, false⟩
/-- Nobody's machine, and new ones. -/
structure MachN (Pm : World → Nat → Ms → (Nat → Prop) → Prop) : Prop where
  nbegin : ∀ w, Calls Tryd.prog 25 #[.pointer none, .int .i64 1] w fun e w' => e = .returned (.tuple #[]) ∧ Below w.heap.size w w'
  nend : ∀ w, Calls Tryd.prog 30 #[.pointer none] w fun e w' => e = .returned (.tuple #[]) ∧ Below w.heap.size w w'
  nrand : ∀ w, Calls Tryd.prog 28 #[.pointer none, .int .i64 0] w fun e w' => e = .returned (.int .i64 (-1)) ∧ Below w.heap.size w w'
  nkey : ∀ w, Calls Tryd.prog 29 #[.pointer none, .int .u64 1, .int .i64 0, .int .i64 0] w fun e w' => e = .returned (.int .i64 (-1)) ∧ Below w.heap.size w w'
  nerr : ∀ w, Calls Tryd.prog 38 #[.pointer none] w fun e w' => e = .returned (.int .i64 1) ∧ Below w.heap.size w w'
  nvalues : ∀ w, Calls Tryd.prog 16 #[.pointer none] w fun e w' => ∃ a c, e = .returned (.slice a 0 c) ∧ Below w.heap.size w w'
  nn : ∀ w, Calls Tryd.prog 37 #[.pointer none] w fun e w' => e = .returned (.int .i64 0) ∧ Below w.heap.size w w'
  ntrace : ∀ w, Calls Tryd.prog 40 #[.pointer none] w fun e w' => ∃ n a c v, e = .returned (.agg #[.int .i64 n, .slice a 0 c, v]) ∧ Below w.heap.size w w'
  bad : ∀ (n most : Int) (q : Nat) (w : World), ¬ ((n = 2 ∨ n = 3) ∧ 0 ≤ most ∧ most ≤ 1048576) → Calls Tryd.prog 23 #[.int .i64 n, .pointer (some ⟨q, 0, none⟩), .int .i64 most] w fun e w' => e = .returned (.tuple #[.pointer none, .int .i64 1]) ∧ Below w.heap.size w w'
  new : ∀ (lo hi q d e : Nat) (n most : Int) (tw : Nat → Nat) (TN : Nat) (w : World), TapeAt w lo hi q (wdL tw TN) d e → (n = 2 ∨ n = 3) → 0 ≤ most → most ≤ 1048576 →
    Calls Tryd.prog 23 #[.int .i64 n, .pointer (some ⟨q, 0, none⟩), .int .i64 most] w fun r w' => ∃ b, r = .returned (.tuple #[.pointer (some ⟨b, 0, none⟩), .int .i64 0]) ∧ Below w.heap.size w w' ∧ ∃ F, Pm w' b (startD n most tw TN d e) F ∧ ∀ k, F k → (lo ≤ k ∧ k < hi) ∨ w.heap.size ≤ k
/-- The program's machine, alone. -/
def Pz (Pm : World → Nat → Ms → (Nat → Prop) → Prop) (lo : Nat) (X : Nat → Prop) (W wx : World) (p : Nat) (S : Ms) : Prop :=
  ∃ F, Pm wx p S F ∧ (∀ k, F k → lo ≤ k ∧ ¬ X k) ∧ (∀ k, X k → k < wx.heap.size) ∧ Below lo W wx ∧ lo ≤ wx.heap.size
section
variable {Pm : World → Nat → Ms → (Nat → Prop) → Prop} {lo : Nat} {X : Nat → Prop} {W wx wy : World} {p : Nat} {S S' : Ms}
theorem Pz.low (h : Pz Pm lo X W wx p S) : Below lo W wx := by obtain ⟨_, _, _, _, h, _⟩ := h; exact h
theorem Pz.los (h : Pz Pm lo X W wx p S) : lo ≤ wx.heap.size := by obtain ⟨_, _, _, _, _, h⟩ := h; exact h
theorem Pz.self (hM : Mach Pm) (h : Pz Pm lo X W wx p S) (hb : Below wx.heap.size wx wy) : Pz Pm lo X W wy p S := by
  obtain ⟨F, h1, h2, h3, h4, h5⟩ := h
  exact ⟨F, hM.stays h1 hb.size (fun k hk => hb.block k (hM.lt h1 k hk)), h2, fun k hk => Nat.lt_of_lt_of_le (h3 k hk) hb.size, h4.trans (hb.mono h5), Nat.le_trans h5 hb.size⟩
/-- What is not the machine's is turned. -/
theorem Pz.apart (hM : Mach Pm) {G : Nat → Prop} (h : Pz Pm lo X W wx p S) (hb : Tch G wx wy) (hG : ∀ k, G k → X k ∧ lo ≤ k) : Pz Pm lo X W wy p S := by
  obtain ⟨F, h1, h2, h3, h4, h5⟩ := h
  exact ⟨F, hM.stays h1 hb.size (fun k hk => hb.block k (hM.lt h1 k hk) (fun g => (h2 k hk).2 (hG k g).1)), h2, fun k hk => Nat.lt_of_lt_of_le (h3 k hk) hb.size, h4.trans (hb.below (fun k g => (hG k g).2) h5), Nat.le_trans h5 hb.size⟩
/-- More blocks that are not the machine's: new ones. -/
theorem Pz.more (hM : Mach Pm) {Y : Nat → Prop} (h : Pz Pm lo X W wx p S) (hb : Below wx.heap.size wx wy) (hY : ∀ k, Y k → X k ∨ wx.heap.size ≤ k ∧ k < wy.heap.size) : Pz Pm lo Y W wy p S := by
  obtain ⟨F, h1, h2, h3, h4, h5⟩ := h
  refine ⟨F, hM.stays h1 hb.size (fun k hk => hb.block k (hM.lt h1 k hk)), fun k hk => ⟨(h2 k hk).1, fun hy => ?_⟩, fun k hk => ?_, h4.trans (hb.mono h5), Nat.le_trans h5 hb.size⟩
  · rcases hY k hy with e | e
    · exact (h2 k hk).2 e
    · have := hM.lt h1 k hk; omega
  · rcases hY k hk with e | e
    · exact Nat.lt_of_lt_of_le (h3 k e) hb.size
    · exact e.2
theorem Pz.on {F : Nat → Prop} {p' : Nat} (h2 : ∀ k, F k → lo ≤ k ∧ ¬ X k) (h3 : ∀ k, X k → k < wx.heap.size) (h4 : Below lo W wx) (h5 : lo ≤ wx.heap.size) (hr : PmR Pm p' S' F wx wy) : Pz Pm lo X W wy p' S' ∧ ∀ k, X k → wy.heap[k]? = wx.heap[k]? := by
  obtain ⟨F', g1, g2, g3⟩ := hr
  refine ⟨⟨F', g1, fun k hk => ?_, fun k hk => Nat.lt_of_lt_of_le (h3 k hk) g2.size, h4.trans (g2.below (fun k f => (h2 k f).1) h5), Nat.le_trans h5 g2.size⟩, fun k hk => g2.block k (h3 k hk) (fun f => (h2 k f).2 hk)⟩
  rcases g3 k hk with f | f
  · exact h2 k f
  · exact ⟨by omega, fun e => by have := h3 k e; omega⟩
end
section
variable {Pm : World → Nat → Ms → (Nat → Prop) → Prop} (hM : Mach Pm) {lo : Nat} {X : Nat → Prop} {W w : World} {b k : Nat} {S : Ms}
include hM
end
theorem startD_bq (n most : Int) (tw : Nat → Nat) (TN d e k : Nat) (hn : n = 2 ∨ n = 3) (hm : 0 ≤ most) (hm' : most ≤ 1048576) (hT : TN ≤ 20000000000000) (htw : ∀ i, i < TN → tw i < 2 ^ 64) (hd : d ≤ e) (he : e ≤ TN) : Bq k (startD n most tw TN d e) := by
  refine ⟨Nat.zero_le _, Nat.zero_le _, Nat.zero_le _, Nat.zero_le _, Nat.zero_le _, by show d ≤ _; omega, by show e - d ≤ _; omega, hT, fun i hi => absurd hi (Nat.not_lt_zero i), htw, fun _ => rfl, fun i hi => absurd hi (Nat.not_lt_zero i), fun i hi => absurd hi (Nat.not_lt_zero i), by show (0 : Int) ≤ 0 ∧ (0 : Int) ≤ 3; decide, by show _ ≤ n ∧ n ≤ _; omega, by show _ ≤ most ∧ most ≤ _; omega, by show 0 ≤ 4; omega⟩
end Go.Proofs.YtinihebnajaejaaDoor

/- General: arrays of ints that are not negative, by value and in a block (Arw's, for i64). No program is named. -/
namespace Go.Proofs.YtinihebnajaejaaDoor
open Go.ChangeShapes Go.WideShapes Go.ChangeAt Go.RowKit

/-- The n cells of an array of words. -/
def ia (n : Nat) (f : Nat → Nat) : Array Value := ((List.range n).map fun i => Value.int .i64 (f i : Int)).toArray

theorem ia_size (n : Nat) (f : Nat → Nat) : (ia n f).size = n := by simp [ia]
theorem ia_get {n : Nat} (f : Nat → Nat) {j : Nat} (h : j < n) : (ia n f)[j]? = some (.int .i64 (f j : Int)) := by simp [ia, h]
theorem ia_ext {n : Nat} {f g : Nat → Nat} (h : ∀ i, i < n → f i = g i) : ia n f = ia n g := by
  unfold ia
  congr 1
  refine List.map_congr_left fun i hi => ?_
  rw [h i (List.mem_range.1 hi)]
theorem ia_set {n : Nat} (f : Nat → Nat) (j z : Nat) : (ia n f).setIfInBounds j (.int .i64 (z : Int)) = ia n (upd f j z) := by
  apply Array.ext_getElem?
  intro i
  rw [Array.getElem?_setIfInBounds, ia_size]
  by_cases hi : i < n
  · rw [ia_get _ hi, ia_get _ hi]
    by_cases e : j = i
    · subst e; rw [if_pos rfl, if_pos hi, upd_same]
    · rw [if_neg e, upd_other _ _ _ _ (fun h => e h.symm)]
  · have h1 : (ia n f)[i]? = none := by simp [ia_size]; omega
    have h2 : (ia n (upd f j z))[i]? = none := by simp [ia_size]; omega
    rw [h1, h2]
    by_cases e : j = i
    · rw [if_pos e, if_neg (by omega)]
    · rw [if_neg e]
theorem ia_one (n : Nat) (f : Nat → Nat) : (ia n f).all (·.oneCell') = true := by
  refine Array.all_eq_true_iff_forall_mem.2 (fun v hv => ?_)
  simp [ia] at hv
  obtain ⟨i, _, rfl⟩ := hv
  rfl

section prog
variable {P : Program}

end prog
/-! ### an array in a block of its own -/
/-- Block b holds, whole, the n words of f, as a variable of type t. -/
def Ai (w : World) (b n : Nat) (t : TypeId) (f : Nat → Nat) : Prop := w.heap[b]? = some (.cells (ia n f) t (0, 0))
theorem Ai.lt {w : World} {b n : Nat} {t : TypeId} {f : Nat → Nat} (h : Ai w b n t f) : b < w.heap.size := (Array.getElem?_eq_some_iff.1 h).1
theorem Ai.cell {w : World} {b n : Nat} {t : TypeId} {f : Nat → Nat} (h : Ai w b n t f) {j : Nat} (hj : j < n) : w.cell? ⟨b, j, none⟩ = some (.int .i64 (f j : Int)) := by
  rw [cell_of_row w b j _ t (0, 0) h, ia_get f hj]
theorem Ai.free {w : World} {b n : Nat} {t : TypeId} {f : Nat → Nat} (h : Ai w b n t f) (o : Nat) : w.frozen? ⟨b, o, none⟩ = false := frozen_of_row w b o _ t h
theorem Ai.set {w : World} {b n : Nat} {t : TypeId} {f : Nat → Nat} (h : Ai w b n t f) (j z : Nat) : Ai (w.setCell ⟨b, j, none⟩ (.int .i64 (z : Int))) b n t (upd f j z) := by
  unfold Ai
  rw [heap_setCell_same w b j _ t _ h, ia_set]
theorem Ai.apart {w : World} {b n : Nat} {t : TypeId} {f : Nat → Nat} (h : Ai w b n t f) {a : Addr} (ha : b ≠ a.block) (v : Value) : Ai (w.setCell a v) b n t f := (heap_setCell_other w a b v ha).trans h
theorem Ai.row {w : World} {b n : Nat} {t : TypeId} {f : Nat → Nat} (h : Ai w b n t f) (g : Nat → Nat) : Ai (w.setRow b (ia n g)) b n t g := setRow_heap w b _ _ t _ h
theorem Ai.alloc {w : World} {b n : Nat} {t : TypeId} {f : Nat → Nat} (h : Ai w b n t f) (o : Obj) : Ai (w.alloc o) b n t f := (heap_alloc_old w o h.lt).trans h
theorem Ai.new (w : World) (n : Nat) (t : TypeId) (f : Nat → Nat) : Ai (w.alloc (.cells (ia n f) t)) w.heap.size n t f := heap_alloc_new w _
theorem Ai.drew {w : World} {b n : Nat} {t : TypeId} {f : Nat → Nat} (h : Ai w b n t f) : Ai w.drew b n t f := h
theorem Ai.below {w w' : World} {b n B : Nat} {t : TypeId} {f : Nat → Nat} (h : Ai w b n t f) (hb : Below B w w') (hB : b < B) : Ai w' b n t f := (hb.block b hB).trans h
theorem Ai.self {w w' : World} {b n : Nat} {t : TypeId} {f : Nat → Nat} (h : Ai w b n t f) (hb : Below w.heap.size w w') : Ai w' b n t f := h.below hb h.lt
theorem Ai.ext {w : World} {b n : Nat} {t : TypeId} {f g : Nat → Nat} (h : Ai w b n t f) (e : ∀ i, i < n → f i = g i) : Ai w b n t g := by
  unfold Ai at h ⊢; rw [h, ia_ext e]

section prog2
variable {P : Program}
theorem Ai.load {w : World} {b n : Nat} {t : TypeId} {f : Nat → Nat} {e : TypeId} (h : Ai w b n t f) (ty : TypeId) (hu : P.underlying ty = some (.array n e)) (hi : (P.info? ty).map (·.size) = some n) :
    (loadVar ty ⟨b, 0, none⟩).run P w = .ok (.agg (ia n f)) w :=
  run_loadVar_row w b t ty _ (0, 0) _ h hu rfl (by rw [ia_size]; exact hi)
theorem Ai.store {w : World} {b n : Nat} {t : TypeId} {f : Nat → Nat} (h : Ai w b n t f) (ty : TypeId) (g : Nat → Nat) (hi : (P.info? ty).map (·.size) = some n) :
    (storeVar ty ⟨b, 0, none⟩ (.agg (ia n g))).run P w = .ok () (w.setRow b (ia n g)) :=
  run_storeVar_row w b t ty _ _ h (by rw [ia_size]; exact hi) (by rw [ia_size, ia_size]) (ia_one n g)
end prog2

/-! ### returns of arrays -/
/-! ### whole loads and stores, as arms of a walk -/
end Go.Proofs.YtinihebnajaejaaDoor

/- Trace: tallies, and what is opened, by the document. -/
namespace Go.Proofs.YtinihebnajaejaaDoor
open Go.RowKit
set_option maxRecDepth 100000

/-- What stands in a trace's box. -/
structure Tb (w : World) (b : Nat) (N : Int) (v0 v1 : Value) : Prop where
  n : w.cell? ⟨b, 0, none⟩ = some (.int .i64 N)
  o : w.cell? ⟨b, 1, none⟩ = some v0
  s : w.cell? ⟨b, 2, none⟩ = some v1
end Go.Proofs.YtinihebnajaejaaDoor

/- Trace: what is opened, by the document. -/
namespace Go.Proofs.YtinihebnajaejaaDoor
open Go.RowKit
set_option maxRecDepth 100000

structure OI (w1 wr : World) (v : Value) (f : Nat → Op6) (j : Nat) : Prop where
  own : Own .i64 w1.heap.size 3 wr v (opL f j)
  low : Below w1.heap.size w1 wr
end Go.Proofs.YtinihebnajaejaaDoor

/- Trace: are two rows of numbers alike, by the document. -/
namespace Go.Proofs.YtinihebnajaejaaDoor
open Go.RowKit
set_option maxRecDepth 100000
end Go.Proofs.YtinihebnajaejaaDoor

/- Trace: whether it may be, by the document. -/
namespace Go.Proofs.YtinihebnajaejaaDoor
open Go.RowKit
set_option maxRecDepth 100000
structure RI (w1 wr : World) (N : Int) (f : Nat → Op6) (j : Nat) : Prop where
  ok : allB (okO N f) j = true
  low : Below w1.heap.size w1 wr
structure RJ (w1 wr : World) (L : Nat) (g : Nat → Sp3) (j : Nat) : Prop where
  ok : allB (okS L g) j = true
  low : Below w1.heap.size w1 wr
end Go.Proofs.YtinihebnajaejaaDoor

/- Wire: are a trace's words what its ops make? -/
namespace Go.Proofs.YtinihebnajaejaaDoor
open Go.RowKit
set_option maxRecDepth 100000
/-- A row of words that is read, whatever is new. -/
structure Wr (w : World) (v : Value) (L : Nat) (f : Nat → Nat) : Prop where
  at_ : ∃ a cap, v = .slice a L cap ∧ (0 < L → ∃ g off, a = some ⟨g, off, none⟩ ∧ g < w.heap.size ∧ ∀ i, i < L → w.cell? ⟨g, off + i, none⟩ = some (.int .u64 (f i : Int)))
theorem rd_wr {w : World} {v : Value} {L : Nat} {f : Nat → Nat} (h : Rd .u64 w v (wdL f L)) : Wr w v L f := by
  obtain ⟨a, cap, e, _, _, hc⟩ := h
  rw [wdL_len] at e hc
  refine ⟨a, cap, e, fun h0 => ?_⟩
  obtain ⟨g, off, e1, e2, e3⟩ := hc h0
  exact ⟨g, off, e1, e2, fun i hi => by rw [e3 i hi, wdL_nth f hi]⟩
/-- What the law's loop holds: the trace's box, the machine's box. -/
structure Hb (W wr : World) (n bm : Nat) (A B : Array Value) : Prop where
  one : wr.heap[n]? = some (.cells A 77 (0, 0))
  two : wr.heap[bm]? = some (.cells B 46 (0, 0))
  low : Below W.heap.size W wr
theorem Hb.self {W wr wy : World} {n bm : Nat} {A B : Array Value} (h : Hb W wr n bm A B) (hb : Below wr.heap.size wr wy) : Hb W wy n bm A B :=
  ⟨(hb.block _ (Array.getElem?_eq_some_iff.1 h.one).1).trans h.one, (hb.block _ (Array.getElem?_eq_some_iff.1 h.two).1).trans h.two, h.low.trans (hb.mono h.low.size)⟩
abbrev hmC (v : Value) : Array Value := #[.int .i64 0, .int .i64 0, .int .i64 0, .int .i64 0, .int .i64 0, .int .i64 0, .int .i64 0, .int .i64 0, .slice none 0 0, .slice none 0 0, v, .slice none 0 0, .int .i64 0, .int .i64 0, .bool false]
/-- What a round holds. -/
structure Hr (W wr : World) (n bm : Nat) (A : Array Value) (v : Value) (bo : Nat) (o : Op6) (gv ov L : Nat) (vv : Nat → Nat) : Prop where
  b : Hb W wr n bm A (hmC v)
  op : wr.heap[bo]? = some (.cells (opCs o) 70 (0, 0))
  word : ∀ i, i < L → wr.cell? ⟨gv, ov + i, none⟩ = some (.int .u64 (vv i : Int))
theorem Hr.self {W wr wy : World} {n bm : Nat} {A : Array Value} {v : Value} {bo : Nat} {o : Op6} {gv ov L : Nat} {vv : Nat → Nat} (h : Hr W wr n bm A v bo o gv ov L vv) (hb : Below wr.heap.size wr wy) : Hr W wy n bm A v bo o gv ov L vv :=
  ⟨h.b.self hb, (hb.block _ (Array.getElem?_eq_some_iff.1 h.op).1).trans h.op, fun i hi => tcell_self (h.word i hi) hb⟩
theorem Hr.drew {W wr : World} {n bm : Nat} {A : Array Value} {v : Value} {bo : Nat} {o : Op6} {gv ov L : Nat} {vv : Nat → Nat} (h : Hr W wr n bm A v bo o gv ov L vv) : Hr W wr.drew n bm A v bo o gv ov L vv := h.self ((Below.refl _ _).drew)
end Go.Proofs.YtinihebnajaejaaDoor

/- Share: what a word stands for, by the document; words that are picked. -/
namespace Go.Proofs.YtinihebnajaejaaDoor
open Go.RowKit
set_option maxRecDepth 100000
end Go.Proofs.YtinihebnajaejaaDoor

/- Share: are both machines alike? -/
namespace Go.Proofs.YtinihebnajaejaaDoor
open Go.RowKit
set_option maxRecDepth 100000
/-- A pair's cells. -/
abbrev paC (p b : Nat) (lv vv : Value) : Array Value := #[.pointer (some ⟨p, 0, none⟩), .pointer (some ⟨b, 0, none⟩), lv, vv]
set_option maxHeartbeats 12800000 in
theorem llike_any {Pm : World → Nat → Ms → (Nat → Prop) → Prop} (hM : Mach Pm) {lo : Nat} {X : Nat → Prop} {W w : World} {p b k : Nat} {S : Ms} (h : Bz Pm lo X W w p b S S) (hq : Bq k S) (hk : k ≤ 100000) (hw : S.dry = false) (la ba : Option Addr) (ln bn lc bc : Nat) :
    Calls Tryd.prog 14 #[.agg (paC p b (.slice la ln lc) (.slice ba bn bc))] w fun e w' => e = .returned (.bool true) ∧ Bz Pm lo X W w' p b S S ∧ Below w.heap.size w w' := by
  have HQ := hid hq
  have HK2 := hid hk
  have HK : Hid (k ≤ 1000000) := hid (by omega)
  have HKP : Hid (∀ n, S.keep n = n) := hid (fun n => by unfold Ms.keep; rw [hw]; rfl)
  obtain ⟨w1, hw1⟩ : ∃ w1, w.alloc (.cells (paC p b (.slice la ln lc) (.slice ba bn bc)) 28) = w1 := ⟨_, rfl⟩
  have HB1 : Hid (Below w.heap.size w w1) := hid (by rw [← hw1]; exact (Below.refl _ _).alloc (Nat.le_refl _) _)
  have hbx : w1.heap[w.heap.size]? = some (.cells (paC p b (.slice la ln lc) (.slice ba bn bc)) 28 (0, 0)) := by rw [← hw1]; exact heap_alloc_new _ _
  have HBX : Hid (∀ w', Below w1.heap.size w1 w' → w'.heap[w.heap.size]? = some (.cells (paC p b (.slice la ln lc) (.slice ba bn bc)) 28 (0, 0))) := hid (fun w' hb => (hb.block _ (Array.getElem?_eq_some_iff.1 hbx).1).trans hbx)
  have ZA := hid (h.self hM HB1.out)
  have HC : Hid (∀ w', Below w1.heap.size w1 w' → w'.cell? ⟨b, 0, none⟩ = some (.int .i64 S.n) ∧ w'.cell? ⟨b, 3, none⟩ = some (.int .i64 (S.draws : Int)) ∧ w'.cell? ⟨b, 7, none⟩ = some (.int .i64 (S.e : Int)) ∧ w'.cell? ⟨b, 14, none⟩ = some (.bool S.dry)) := hid (fun w' hb => (ZA.out.self hM hb).c0)
  obtain ⟨xv, xc, hcv, hrv⟩ := ZA.out.vv hq hk
  have HCV : Hid (∀ w', Below w1.heap.size w1 w' → w'.cell? ⟨b, 10, none⟩ = some (.slice xv S.L xc)) := hid (fun w' hw => tcell_self hcv hw)
  have HRV : Hid (∀ w', Below w1.heap.size w1 w' → Wr w' (.slice xv S.L xc) S.L S.v) := hid (fun w' hw => rd_wr (hrv.self hw))
  have HLL : Hid (S.L ≤ 1000000) := hid (by have := hq.len; unfold Ms.len at this; omega)
  have c0 := row_c (i := 0) (u := .pointer (some ⟨p, 0, none⟩)) hbx rfl
  have HW1 := hid hw1
  clear h hq hk hw hw1 hbx hcv hrv
  go_enter Tryd.func14, Tryd.ntmps14
  go_upto_region 1 with fail
  rw [HW1.out]
  go_wp2_with (go_at_call 16; (with_reducible refine (zvalues hM ZA.out HQ.out HK.out).mono ?_); rintro e w2 ⟨v, rfl, hv, hb⟩; rw [HKP.out] at hv; have HVW := hid (rd_wr hv); have Z0 := hid (ZA.out.self hM hb); have HB12 := hid hb; clear hv hb)
  obtain ⟨av, cv, rfl, hav⟩ := HVW.out.at_
  have HAV := hid hav
  have BZ0 : Hid (Below w2.heap.size w2 w2) := hid (Below.refl _ _)
  have HBX := hid (fun w' (hb : Below w2.heap.size w2 w') => HBX.out w' (HB12.out.trans (hb.mono HB12.out.size)))
  have HC := hid (fun w' (hb : Below w2.heap.size w2 w') => HC.out w' (HB12.out.trans (hb.mono HB12.out.size)))
  have HCV := hid (fun w' (hb : Below w2.heap.size w2 w') => HCV.out w' (HB12.out.trans (hb.mono HB12.out.size)))
  have HRV := hid (fun w' (hb : Below w2.heap.size w2 w') => HRV.out w' (HB12.out.trans (hb.mono HB12.out.size)))
  clear hav c0
  go_wp2_with fail
  have Z1 := hid (Z0.out.self hM ((Below.refl _ w2).drew))
  have BZ1 := hid (BZ0.out.drew)
  refine wp_region_noPanic ?_
  refine wp_region_held_drew (S := fun w' => Below w2.heap.size w2 w') (by kernel_rfl) (BZ1.out) (fun h0 => ?_)
  generalize w2.drew = y1 at *
  refine wpAnyH_take (i := 0) (v := .slice av S.L cv) rfl (by kernel_rfl) (by kernel_rfl) (by kernel_rfl) (fun _ _ _ h => h) (.inl ⟨by rfl, fun w hw => by clear hw; go_simp⟩) h0 ?_
  try simp only [Act.put, lay_out]
  refine wpAnyH_take (i := 1) (v := .int .i64 (S.L : Int)) rfl (by kernel_rfl) (by kernel_rfl) (by kernel_rfl) (fun _ _ _ h => h) (.inl ⟨by rfl, fun w hw => by clear hw; go_simp⟩) h0 ?_
  try simp only [Act.put, lay_out]
  refine wpAnyH_take (i := 2) (v := .pointer (some ⟨w.heap.size, 1, none⟩)) rfl (by kernel_rfl) (by kernel_rfl) (by kernel_rfl) (fun _ _ _ h => h) (.inl ⟨by rfl, fun w hw => by clear hw; go_simp⟩) h0 ?_
  try simp only [Act.put, lay_out]
  refine wpAnyH_take (i := 3) (v := .pointer (some ⟨b, 0, none⟩)) rfl (by kernel_rfl) (by kernel_rfl) (by kernel_rfl) (fun _ _ _ h => h) (.inl ⟨by rfl, fun w' hw => by have hc := row_c (i := 1) (u := .pointer (some ⟨b, 0, none⟩)) (HBX.out w' hw) rfl; clear hw; go_simp⟩) h0 ?_
  try simp only [Act.put, lay_out]
  refine wpAnyH_take (i := 4) (v := .pointer (some ⟨b, 0, none⟩)) rfl (by kernel_rfl) (by kernel_rfl) (by kernel_rfl) (fun _ _ _ h => h) (.inl ⟨by rfl, fun w hw => by clear hw; go_simp⟩) h0 ?_
  try simp only [Act.put, lay_out]
  refine wpAnyH_take (i := 5) (v := .pointer (some ⟨b, 10, none⟩)) rfl (by kernel_rfl) (by kernel_rfl) (by kernel_rfl) (fun _ _ _ h => h) (.inl ⟨by rfl, fun w hw => by clear hw; go_simp⟩) h0 ?_
  try simp only [Act.put, lay_out]
  refine wpAnyH_take (i := 6) (v := .slice xv S.L xc) rfl (by kernel_rfl) (by kernel_rfl) (by kernel_rfl) (fun _ _ _ h => h) (.inl ⟨by rfl, fun w' hw => by have hc := HCV.out w' hw; clear hw; go_simp⟩) h0 ?_
  try simp only [Act.put, lay_out]
  refine wpAnyH_take (i := 7) (v := .int .i64 (S.L : Int)) rfl (by kernel_rfl) (by kernel_rfl) (by kernel_rfl) (fun _ _ _ h => h) (.inl ⟨by rfl, fun w hw => by clear hw; go_simp⟩) h0 ?_
  try simp only [Act.put, lay_out]
  refine wpAnyH_take (i := 8) (v := .bool false) rfl (by kernel_rfl) (by kernel_rfl) (by kernel_rfl) (fun _ _ _ h => h) (.inl ⟨by rfl, fun w hw => by clear hw; go_simp⟩) h0 ?_
  try simp only [Act.put, lay_out]
  refine wpAnyH_take (i := 9) (v := .bool false) rfl (by kernel_rfl) (by kernel_rfl) (by kernel_rfl) (fun _ _ _ h => h) (.inl ⟨by rfl, fun w hw => by clear hw; go_simp⟩) h0 ?_
  try simp only [Act.put, lay_out]
  refine wpAnyH_take (i := 10) (v := .pointer (some ⟨w.heap.size, 0, none⟩)) rfl (by kernel_rfl) (by kernel_rfl) (by kernel_rfl) (fun _ _ _ h => h) (.inl ⟨by rfl, fun w hw => by clear hw; go_simp⟩) h0 ?_
  try simp only [Act.put, lay_out]
  refine wpAnyH_take (i := 11) (v := .pointer (some ⟨p, 0, none⟩)) rfl (by kernel_rfl) (by kernel_rfl) (by kernel_rfl) (fun _ _ _ h => h) (.inl ⟨by rfl, fun w' hw => by have hc := row_c (i := 0) (u := .pointer (some ⟨p, 0, none⟩)) (HBX.out w' hw) rfl; clear hw; go_simp⟩) h0 ?_
  try simp only [Act.put, lay_out]
  refine wpAnyH_take (i := 13) (v := .pointer (some ⟨w.heap.size, 1, none⟩)) rfl (by kernel_rfl) (by kernel_rfl) (by kernel_rfl) (fun _ _ _ h => h) (.inl ⟨by rfl, fun w hw => by clear hw; go_simp⟩) h0 ?_
  try simp only [Act.put, lay_out]
  refine wpAnyH_take (i := 14) (v := .pointer (some ⟨b, 0, none⟩)) rfl (by kernel_rfl) (by kernel_rfl) (by kernel_rfl) (fun _ _ _ h => h) (.inl ⟨by rfl, fun w' hw => by have hc := row_c (i := 1) (u := .pointer (some ⟨b, 0, none⟩)) (HBX.out w' hw) rfl; clear hw; go_simp⟩) h0 ?_
  try simp only [Act.put, lay_out]
  refine wpAnyH_take (i := 15) (v := .pointer (some ⟨b, 0, none⟩)) rfl (by kernel_rfl) (by kernel_rfl) (by kernel_rfl) (fun _ _ _ h => h) (.inl ⟨by rfl, fun w hw => by clear hw; go_simp⟩) h0 ?_
  try simp only [Act.put, lay_out]
  refine wpAnyH_take (i := 16) (v := .pointer (some ⟨b, 7, none⟩)) rfl (by kernel_rfl) (by kernel_rfl) (by kernel_rfl) (fun _ _ _ h => h) (.inl ⟨by rfl, fun w hw => by clear hw; go_simp⟩) h0 ?_
  try simp only [Act.put, lay_out]
  refine wpAnyH_take (i := 17) (v := .int .i64 (S.e : Int)) rfl (by kernel_rfl) (by kernel_rfl) (by kernel_rfl) (fun _ _ _ h => h) (.inl ⟨by rfl, fun w' hw => by have hc := (HC.out w' hw).2.2.1; clear hw; go_simp⟩) h0 ?_
  try simp only [Act.put, lay_out]
  refine wpAnyH_ready (rs := [12]) (by kernel_rfl) (by simp) (AllReadyH.cons rfl (fun K hK => ?_) AllReadyH.nil)
  rw [if_pos (by rfl)]
  go_simp
  go_at_call 38
  (with_reducible refine (zerr hM Z1.out HQ.out HK.out).mono ?_); rintro e w3 ⟨rfl, hb⟩
  have Z3 := hid (Z1.out.self hM hb)
  have BZ3 := hid (BZ1.out.trans (hb.mono BZ1.out.size))
  clear hb
  refine hK.out _ _ (BZ3.out) (fun h1x => ?_)
  clear hK K
  try simp only [Act.put, lay_out]
  refine wpAnyH_take (i := 18) (v := .bool false) rfl (by kernel_rfl) (by kernel_rfl) (by kernel_rfl) (fun _ _ _ h => h) (.inl ⟨by rfl, fun w hw => by clear hw; go_simp⟩) h1x ?_
  try simp only [Act.put, lay_out]
  refine wpAnyH_take (i := 19) (v := .bool false) rfl (by kernel_rfl) (by kernel_rfl) (by kernel_rfl) (fun _ _ _ h => h) (.inl ⟨by rfl, fun w hw => by clear hw; go_simp⟩) h1x ?_
  try simp only [Act.put, lay_out]
  refine wpAnyH_take (i := 20) (v := .bool false) rfl (by kernel_rfl) (by kernel_rfl) (by kernel_rfl) (fun _ _ _ h => h) (.inl ⟨by rfl, fun w hw => by clear hw; go_simp⟩) h1x ?_
  try simp only [Act.put, lay_out]
  refine wpAnyH_take (i := 21) (v := .pointer (some ⟨w.heap.size, 0, none⟩)) rfl (by kernel_rfl) (by kernel_rfl) (by kernel_rfl) (fun _ _ _ h => h) (.inl ⟨by rfl, fun w hw => by clear hw; go_simp⟩) h1x ?_
  try simp only [Act.put, lay_out]
  refine wpAnyH_take (i := 22) (v := .pointer (some ⟨p, 0, none⟩)) rfl (by kernel_rfl) (by kernel_rfl) (by kernel_rfl) (fun _ _ _ h => h) (.inl ⟨by rfl, fun w' hw => by have hc := row_c (i := 0) (u := .pointer (some ⟨p, 0, none⟩)) (HBX.out w' hw) rfl; clear hw; go_simp⟩) h1x ?_
  try simp only [Act.put, lay_out]
  refine wpAnyH_take (i := 24) (v := .pointer (some ⟨w.heap.size, 1, none⟩)) rfl (by kernel_rfl) (by kernel_rfl) (by kernel_rfl) (fun _ _ _ h => h) (.inl ⟨by rfl, fun w hw => by clear hw; go_simp⟩) h1x ?_
  try simp only [Act.put, lay_out]
  refine wpAnyH_take (i := 25) (v := .pointer (some ⟨b, 0, none⟩)) rfl (by kernel_rfl) (by kernel_rfl) (by kernel_rfl) (fun _ _ _ h => h) (.inl ⟨by rfl, fun w' hw => by have hc := row_c (i := 1) (u := .pointer (some ⟨b, 0, none⟩)) (HBX.out w' hw) rfl; clear hw; go_simp⟩) h1x ?_
  try simp only [Act.put, lay_out]
  refine wpAnyH_ready (rs := [23]) (by kernel_rfl) (by simp) (AllReadyH.cons rfl (fun K hK => ?_) AllReadyH.nil)
  rw [if_pos (by rfl)]
  go_simp
  go_at_call 40
  (with_reducible refine (ztrace hM Z3.out HQ.out HK.out).mono ?_); rintro e w4 ⟨v0, v1, rfl, hv0, hv1, hb⟩
  have Z4 := hid (Z3.out.self hM hb)
  have BZ4 := hid (BZ3.out.trans (hb.mono BZ3.out.size))
  rw [HKP.out] at hv0
  rw [HKP.out] at hv1
  have HV0 := hid hv0
  have HV1 := hid hv1
  clear hv0 hv1
  clear hb
  refine hK.out _ _ (BZ4.out) (fun h2x => ?_)
  clear hK K
  try simp only [Act.put, lay_out]
  refine wpAnyH_ready (rs := [26]) (by kernel_rfl) (by simp) (AllReadyH.cons rfl (fun K hK => ?_) AllReadyH.nil)
  rw [if_pos (by rfl)]
  go_simp
  go_at_call 41
  (with_reducible refine (ytrace Z4.out HQ.out HK2.out).mono ?_); rintro e w5 ⟨v0', v1', rfl, hv0, hv1, hb⟩
  have Z5 := hid (Z4.out.self hM hb)
  have BZ5 := hid (BZ4.out.trans (hb.mono BZ4.out.size))
  have HV2 := hid hv0
  have HV3 := hid hv1
  have HV0' := hid (HV0.out.self hb)
  have HV1' := hid (HV1.out.self hb)
  clear hv0 hv1
  clear hb
  refine hK.out _ _ (BZ5.out) (fun h3x => ?_)
  clear hK K
  try simp only [Act.put, lay_out]
  refine wpAnyH_ready (rs := [27]) (by kernel_rfl) (by simp) (AllReadyH.cons rfl (fun K hK => ?_) AllReadyH.nil)
  rw [if_pos (by rfl)]
  go_simp
  go_at_call 39
  (with_reducible refine (refsame_eq S.n v0 v1 v0' v1' S.L S.M S.f S.g _ HV0'.out HV1'.out HV2.out HV3.out).mono ?_); rintro e w6 ⟨rfl, hb⟩
  have Z6 := hid (Z5.out.self hM hb)
  have BZ6 := hid (BZ5.out.trans (hb.mono BZ5.out.size))
  clear hb
  refine hK.out _ _ (BZ6.out) (fun h4x => ?_)
  clear hK K
  try simp only [Act.put, lay_out]
  refine wpAnyH_take (i := 28) (v := .bool false) rfl (by kernel_rfl) (by kernel_rfl) (by kernel_rfl) (fun _ _ _ h => h) (.inl ⟨by rfl, fun w hw => by clear hw; go_simp⟩) h4x ?_
  try simp only [Act.put, lay_out]
  refine wpAnyH_take (i := 29) (v := .bool false) rfl (by kernel_rfl) (by kernel_rfl) (by kernel_rfl) (fun _ _ _ h => h) (.inl ⟨by rfl, fun w hw => by clear hw; go_simp⟩) h4x ?_
  try simp only [Act.put, lay_out]
  refine wpAnyH_done (by kernel_rfl) ?_ _
  refine NoPanic.normal ?_
  clear h0 h1x h2x h3x h4x
  try simp only [Act.put, lay_out]
  go_wp2
  have HZL := hid Z6.out
  go_loopw [4] (fun i wr => ∃ j : Nat, j ≤ S.L ∧ i = .int .i64 j ∧ Below w2.heap.size w2 wr) (fun i _ => S.L - (intOf i).toNat)
  case atStart => exact ⟨0, by omega, rfl, BZ6.out⟩
  case round =>
    obtain ⟨j, hj, rfl, hI⟩ := hrel
    have HI := hid hI
    clear hI
    by_cases hlt : j < S.L
    · obtain ⟨g, off, rfl, hg, hc⟩ := HAV.out (by omega)
      obtain ⟨xa, xcap, hxe, hxc⟩ := (HRV.out _ HI.out.drew).at_
      injection hxe with e1 e2 e3
      subst e1 e3
      obtain ⟨gx, ox, rfl, _, hcx⟩ := hxc (by omega)
      have c1 : wr.drew.cell? ⟨g, off + j, none⟩ = some (.int .u64 (S.v j : Int)) := tcell_self (hc j hlt) HI.out.drew
      have c2 := hcx j hlt
      have c3 := row_c (i := 1) (u := .pointer (some ⟨b, 0, none⟩)) (HBX.out _ HI.out.drew) rfl
      have c4 := HCV.out _ HI.out.drew
      have HI2 := hid HI.out.drew
      have j1 : (0 : Int) ≤ (j : Int) := by omega
      have j2 : (j : Int) < (S.L : Int) := by omega
      have hll := HLL.out
      clear hc hcx hxc hg
      generalize S.v j = z at *
      go_wp2_with fail
      go_region
      go_wp2
      go_roundw
      case rel => exact ⟨j + 1, by omega, by go_num, HI2.out⟩
      case measure => simp [intOf]; omega
    · have hjL : j = S.L := by omega
      subst hjL
      go_wp2
      go_ret
      have hb := HB1.out.trans (HB12.out.mono HB1.out.size)
      exact ⟨rfl, Bz.self hM Z0.out HI.out, hb.trans (HI.out.mono hb.size)⟩
end Go.Proofs.YtinihebnajaejaaDoor

/- Share: words, by the document. -/
namespace Go.Proofs.YtinihebnajaejaaDoor
open Go.RowKit
set_option maxRecDepth 100000
theorem step_load_row {P : Program} {w : World} {ops : Array Oper} {rest : List Oper} {o : Oper} {a : Act} {Q : Exit → Act → World → Prop} (hgd : o.guard = none) (ty : TypeId) (x : Operand) (ho : o.op = .load ty x)
    (b : Nat) (t : TypeId) (cs : Array Value) (d : TypeDesc) (hx : a.eval x = .pointer (some ⟨b, 0, none⟩)) (hA : w.heap[b]? = some (.cells cs t (0, 0))) (hu : P.underlying ty = some d) (hag : (match d with | .struct _ | .array _ _ => true | _ => false) = true) (hi : (P.info? ty).map (·.size) = some cs.size)
    (k : wpList P ops Q rest (a.put o.dst (.agg cs)) w) : wpList P ops Q (o :: rest) a w :=
  wpList_plain hgd fun _ hK => by
    unfold Oper.wp execOp
    simp only [ho, hx, Instr.loadAt, Instr.sureAddr, Sem.run_bind, Sem.run_pure, Result.andThen_ok, run_loadVar_row w b t ty cs (0, 0) d hA hu hag hi]
    exact hK _ _ k
theorem sh_of {S : Ms} (h : S.n = 2 ∨ S.n = 3) : S.n = (S.sh : Int) ∧ 2 ≤ S.sh ∧ S.sh ≤ 3 := by unfold Ms.sh; omega
end Go.Proofs.YtinihebnajaejaaDoor

/- Wire: an act of both machines. -/
namespace Go.Proofs.YtinihebnajaejaaDoor
open Go.RowKit
set_option maxRecDepth 100000
section
variable {Pm : World → Nat → Ms → (Nat → Prop) → Prop} {lo n : Nat} {X : Nat → Prop} {W wx wy : World} {a : Act8} {p b : Nat} {S1 S2 S1' S2' : Ms}
end
end Go.Proofs.YtinihebnajaejaaDoor

/- Wire: an act of both machines: a word is opened; any act. -/
namespace Go.Proofs.YtinihebnajaejaaDoor
open Go.RowKit
set_option maxRecDepth 100000
end Go.Proofs.YtinihebnajaejaaDoor

namespace Go.Proofs.YtinihebnajaejaaDoor
open Go.RowKit

end Go.Proofs.YtinihebnajaejaaDoor

namespace Go.Proofs.YtinihebnajaejaaDoor
open Go.RowKit

/-- At block m lies the document's tape: its words that are left, how many were drawn, how many may be. -/
def ModelAt (w : World) (lo hi m : Nat) (zs : List Int) (u f : Nat) : Prop :=
  ∃ wv, w.heap[m]? = some (.cells #[wv, .int .i64 u, .int .i64 f] 44 (0, 0)) ∧ RdS .u64 w (fun g => lo ≤ g ∧ g < hi ∧ g ≠ m) wv zs ∧ lo ≤ m ∧ m < hi ∧ hi ≤ w.heap.size

theorem ModelAt.lt {w : World} {lo hi b : Nat} {zs : List Int} {d e : Nat} (h : ModelAt w lo hi b zs d e) : lo ≤ b ∧ b < hi ∧ hi ≤ w.heap.size := by
  obtain ⟨_, _, _, h⟩ := h; exact h
theorem ModelAt.only {w w' : World} {lo hi b c : Nat} {zs : List Int} {d e : Nat} (h : ModelAt w lo hi b zs d e) (o : Only c w w') (hn : c < lo ∨ hi ≤ c) : ModelAt w' lo hi b zs d e := by
  obtain ⟨wv, hb, hr, h5, h6, h7⟩ := h
  exact ⟨wv, (o.block b (by omega) (by omega)).trans hb, hr.only o (fun g hg => by omega), h5, h6, Nat.le_trans h7 o.size⟩
theorem ModelAt.below {w w' : World} {lo hi b : Nat} {zs : List Int} {d e : Nat} (h : ModelAt w lo hi b zs d e) (o : Below w.heap.size w w') : ModelAt w' lo hi b zs d e := by
  obtain ⟨wv, hb, hr, h5, h6, h7⟩ := h
  exact ⟨wv, (o.block b (by omega)).trans hb, hr.below o, h5, h6, Nat.le_trans h7 o.size⟩
theorem ModelAt.drew {w : World} {lo hi b : Nat} {zs : List Int} {d e : Nat} (h : ModelAt w lo hi b zs d e) : ModelAt w.drew lo hi b zs d e := h.below ((Below.refl _ _).drew)
theorem ModelAt.drewN {w : World} {lo hi b : Nat} {zs : List Int} {d e : Nat} (h : ModelAt w lo hi b zs d e) (n : Nat) : ModelAt (w.drewN n) lo hi b zs d e := h.below ⟨rfl, rfl, rfl, Nat.le_refl _, fun _ _ => rfl⟩
theorem ModelAt.len {w : World} {lo hi b : Nat} {zs : List Int} {d e : Nat} (h : ModelAt w lo hi b zs d e) : zs.length ≤ 17592186043904 := by
  obtain ⟨_, _, ⟨_, _, _, _, _, h, _⟩, _⟩ := h
  simp [IntKind.bits] at h; omega
/-- What is left of a slice without its first. -/
theorem RdS.tail {k : IntKind} {w : World} {S : Nat → Prop} {g off cap : Nat} {z : Int} {zs : List Int} (h : RdS k w S (.slice (some ⟨g, off, none⟩) (zs.length + 1) cap) (z :: zs)) (b : Option Addr) (hb : 0 < zs.length → b = some ⟨g, off + 1, none⟩) :
    RdS k w S (.slice b zs.length (cap - 1)) zs := by
  obtain ⟨a, c, h1, h2, h3, h4, h5, h7⟩ := h
  injection h1 with e1 e2 e3
  subst e3
  simp only [List.length_cons] at h2 h4
  refine ⟨b, cap - 1, rfl, by omega, by omega, by rw [Nat.add_mul] at h4; omega, fun x hx => h5 x (List.mem_cons_of_mem _ hx), fun hp => ?_⟩
  obtain ⟨g', off', e, hS, hlt, hc⟩ := h7 (by simp)
  rw [← e1] at e
  injection e with e
  injection e with e4 e5 e6
  subst e4; subst e5
  refine ⟨g, off + 1, hb hp, hS, hlt, fun j hj => ?_⟩
  have := hc (j + 1) (by simp; omega)
  rw [show off + 1 + j = off + (j + 1) by omega, this]
  rfl

theorem ModelAt.step {w : World} {lo hi m : Nat} {wv v' x y : Value} {zs : List Int} {u f : Nat} {u' f' : Int} (hb : w.heap[m]? = some (.cells #[wv, x, y] 44 (0, 0)))
    (hr : RdS .u64 w (fun g => lo ≤ g ∧ g < hi ∧ g ≠ m) v' zs) (h5 : lo ≤ m) (h6 : m < hi) (h7 : hi ≤ w.heap.size) (hu : u' = u) (hf : f' = f) :
    ModelAt (((w.setCell ⟨m, 0, none⟩ v').setCell ⟨m, 2, none⟩ (.int .i64 f')).setCell ⟨m, 1, none⟩ (.int .i64 u')) lo hi m zs u f ∧ Only m w (((w.setCell ⟨m, 0, none⟩ v').setCell ⟨m, 2, none⟩ (.int .i64 f')).setCell ⟨m, 1, none⟩ (.int .i64 u')) := by
  subst hu; subst hf
  have o : Only m w (((w.setCell ⟨m, 0, none⟩ v').setCell ⟨m, 2, none⟩ (.int .i64 f)).setCell ⟨m, 1, none⟩ (.int .i64 u)) :=
    ((Only.set (g := m) w (p := ⟨m, 0, none⟩) rfl _).trans (Only.set (g := m) _ (p := ⟨m, 2, none⟩) rfl _)).trans (Only.set (g := m) _ (p := ⟨m, 1, none⟩) rfl _)
  exact ⟨⟨v', set3_1 (set3_2 (set3_0 hb)), hr.only o (fun g hg => hg.2.2), h5, h6, by simpa [World.setCell] using h7⟩, o⟩

end Go.Proofs.YtinihebnajaejaaDoor

namespace Go.Proofs.YtinihebnajaejaaDoor
open Go.RowKit

end Go.Proofs.YtinihebnajaejaaDoor

/- Wire: WirePlays, over what the program's machine tells. -/
namespace Go.Proofs.YtinihebnajaejaaDoor
open Go.RowKit
set_option maxRecDepth 100000
/-- Both machines begin. -/
theorem Bz.begun {Pm : World → Nat → Ms → (Nat → Prop) → Prop} {lo : Nat} {G F : Nat → Prop} {W wx : World} {p b : Nat} {S1 S2 : Ms} {tv : Value} (h1 : Pm wx p S1 F) (h2 : Dm ⟨lo, G⟩ wx b S2 (.slice none 0 0) (.slice none 0 0) (.slice none 0 0) tv) (hF : ∀ k, F k → lo ≤ k ∧ k ≠ b ∧ ¬ G k) (hG : ∀ k, G k → k < wx.heap.size) (h6 : Below lo W wx) (h7 : lo ≤ wx.heap.size) : Bz Pm lo (fun _ => False) W wx p b S1 S2 := by
  refine ⟨F, G, _, _, _, _, h1, h2, fun k hk => ⟨(hF k hk).1, fun e => ?_, (hF k hk).2.2, fun e => e⟩, fun k hk => hk.elim, hG, h6, h7⟩
  rcases e with e | e | e | e
  · exact (hF k hk).2.1 e
  · simp [Value.ownBlock] at e
  · simp [Value.ownBlock] at e
  · simp [Value.ownBlock] at e
/-- What the law's loop holds. -/
structure Wp (Pm : World → Nat → Ms → (Nat → Prop) → Prop) (W wr : World) (p b k : Nat) (S1 S : Ms) : Prop where
  z : Bz Pm W.heap.size (fun _ => False) W wr p b S1 S
  q : Bq k S
theorem Wp.self {Pm : World → Nat → Ms → (Nat → Prop) → Prop} (hM : Mach Pm) {W wr wy : World} {p b k : Nat} {S1 S : Ms} (h : Wp Pm W wr p b k S1 S) (hb : Below wr.heap.size wr wy) : Wp Pm W wy p b k S1 S := ⟨h.z.self hM hb, h.q⟩
end Go.Proofs.YtinihebnajaejaaDoor

/- Share: a pair of machines begins. -/
namespace Go.Proofs.YtinihebnajaejaaDoor
open Go.RowKit
set_option maxRecDepth 100000
set_option maxHeartbeats 6400000 in
theorem lbegins_any {Pm : World → Nat → Ms → (Nat → Prop) → Prop} (hM : Mach Pm) (hN : MachN Pm) (n most : Int) (hn : n = 2 ∨ n = 3) (hm : 0 ≤ most) (hm2 : most ≤ 1048576) (tw : Nat → Nat) (TN : Nat) (mv : Value) (w : World) (h : RdS .u64 w (fun g => g < w.heap.size) mv (wdL tw TN)) :
    Calls Tryd.prog 5 #[.int .i64 n, mv, .int .i64 most] w fun e w' => ∃ p b, e = .returned (.tuple #[.agg (paC p b (.slice none 0 0) (.slice none 0 0)), .bool true]) ∧ Bz Pm w.heap.size (fun _ => False) w w' p b (startD n most tw TN 0 TN) (startD n most tw TN 0 TN) := by
  obtain ⟨ma, mc, rfl, hm0⟩ := id h
  rw [wdL_len] at h
  have HT := hid (fun (w : World) (h : Rd .u64 w (.slice ma TN mc) (wdL tw TN)) => new_any _ _ w h)
  have HR : Hid (∀ lo hi b w, TapeAt w lo hi b (wdL tw TN) 0 0 → Calls Tryd.prog 22 #[.pointer (some ⟨b, 0, none⟩), .int .i64 (TN : Int)] w fun r w' => r = .returned (.int .i64 0) ∧ TapeAt w' lo hi b (wdL tw TN) 0 TN ∧ Only b w w') := hid (fun lo hi b w h => by have := reserve_ok lo hi b _ 0 0 TN w h (by rw [wdL_len]; omega); rw [Nat.zero_add] at this; exact this)
  have HN := hid hN
  have HN23 := hid hn
  have HM0 := hid (And.intro hm hm2)
  obtain ⟨w0, hw0⟩ : ∃ w0, w.alloc (.cells #[.pointer none, .pointer none, .slice none 0 0, .slice none 0 0] 28) = w0 := ⟨_, rfl⟩
  have B0 : Hid (Below w.heap.size w w0) := hid (by rw [← hw0]; exact (Below.refl _ _).alloc (Nat.le_refl _) _)
  have HX0 : Hid (w0.heap[w.heap.size]? = some (.cells #[.pointer none, .pointer none, .slice none 0 0, .slice none 0 0] 28 (0, 0))) := hid (by rw [← hw0]; exact heap_alloc_new _ _)
  have HS0 : Hid (w0.heap.size = w.heap.size + 1) := hid (by rw [← hw0]; simp)
  have HRD : Hid (∀ w', Below w.heap.size w w' → RdS .u64 w' (fun g => g < w.heap.size) (.slice ma TN mc) (wdL tw TN)) := hid (fun w' hb => rds_self h hb)
  have HW0 := hid hw0
  rw [wdL_len]
  clear h hm0 hN hn hm hm2 hw0
  go_enter Tryd.func5, Tryd.ntmps5
  go_upto_region 1 with fail
  rw [HW0.out]
  go_upto_region 4 with (first
    | (go_at_call 21; (with_reducible refine (HT.out _ (HRD.out _ B0.out).rd).mono ?_); rintro e w2 ⟨q, rfl, ht, hb⟩; have B2 := hid (B0.out.trans (hb.mono B0.out.size)); have T2 := hid ht; have HX2 := hid ((hb.block _ (Array.getElem?_eq_some_iff.1 HX0.out).1).trans HX0.out); clear ht hb)
    | (go_at_call 22; (with_reducible refine (HR.out _ _ _ _ T2.out).mono ?_); rintro e w3 ⟨rfl, ht, ho⟩; have B3 := hid (B2.out.trans (ho.below (by have := T2.out.lt; have := B0.out.size; omega) B2.out.size)); have T3 := hid ht; have HX3 := hid ((ho.block _ (Array.getElem?_eq_some_iff.1 HX2.out).1 (by have := T2.out.lt; have := HS0.out; omega)).trans HX2.out); clear ht ho)
    | (go_at_call 23; (with_reducible refine (HN.out.new _ _ _ 0 TN n most tw TN _ T3.out HN23.out HM0.out.1 HM0.out.2).mono ?_); rintro e w4 ⟨p, rfl, hb, F, hp, hF⟩; have B4 := hid (B3.out.trans (hb.mono B3.out.size)); have P4 := hid hp; have HX4 := hid ((hb.block _ (Array.getElem?_eq_some_iff.1 HX3.out).1).trans HX3.out); have F4 : Hid (∀ k, F k → w.heap.size < k) := hid (fun k hk => by have := hF k hk; have := HS0.out; have := B3.out.size; have := (Array.getElem?_eq_some_iff.1 HX3.out).1; omega); clear hp hF hb))
  go_wp2_with (first
    | (go_at_call 24; (with_reducible refine (dnew_any ⟨w.heap.size, fun g => g < w.heap.size⟩ n most tw TN (.slice ma TN mc) _ (HRD.out _ B4.out) B4.out.size).mono ?_); rintro e w5 ⟨rfl, hd, hb⟩; have B5 := hid (B4.out.trans (hb.mono B4.out.size)); have D5 := hid hd; have P5 := hid (hM.stays P4.out hb.size (fun k hk => hb.block k (hM.lt P4.out k hk))); have HX5 := hid ((hb.block _ (Array.getElem?_eq_some_iff.1 HX4.out).1).trans HX4.out); have HL5 := hid hb.size; clear hd hb)
    | (refine step_store_row rfl 28 _ _ rfl w.heap.size 28 _ (paC p w4.heap.size (.slice none 0 0) (.slice none 0 0)) rfl rfl HX5.out (by kernel_rfl) rfl (by kernel_rfl) ?_))
  refine ret_row_tmp rfl rfl (setRow_heap _ _ _ _ _ _ HX5.out) Tryd.underlying28 rfl (by kernel_rfl) rfl ?_
  refine ⟨p, w4.heap.size, rfl, ?_⟩
  have hne : w4.heap.size ≠ w.heap.size := by have := (Array.getElem?_eq_some_iff.1 HX4.out).1; omega
  have hz : ∀ k, k ≠ w.heap.size → (w5.setRow w.heap.size (paC p w4.heap.size (.slice none 0 0) (.slice none 0 0))).heap[k]? = w5.heap[k]? := fun k hk => setRow_other w5 w.heap.size k _ hk
  have hsz : (w5.setRow w.heap.size (paC p w4.heap.size (.slice none 0 0) (.slice none 0 0))).heap.size = w5.heap.size := by simp [World.setRow]
  refine Bz.begun (G := fun g => g < w.heap.size) (F := F) (tv := .slice ma TN mc) (hM.stays P5.out (by rw [hsz]; exact Nat.le_refl _) (fun k hk => hz k (by have := F4.out k hk; omega))) (Dm.stays D5.out (by rw [hsz]; exact Nat.le_refl _) (fun k hk => hz k ?_) (fun k hk _ => hz k (by have hk' : k < w.heap.size := hk; omega))) (fun k hk => ⟨by have := F4.out k hk; omega, by have := hM.lt P4.out k hk; omega, by have := F4.out k hk; show ¬ k < w.heap.size; omega⟩) (fun k hk => by have hk' : k < w.heap.size := hk; have := B5.out.size; rw [hsz]; omega) (below_setRow B5.out (Nat.le_refl _) _) (by rw [hsz]; exact B5.out.size)
  rcases hk with e | e | e | e
  · omega
  · simp [Value.ownBlock] at e
  · simp [Value.ownBlock] at e
  · simp [Value.ownBlock] at e
end Go.Proofs.YtinihebnajaejaaDoor

/- Share: words, by the document: xor, one op, not, add. -/
namespace Go.Proofs.YtinihebnajaejaaDoor
open Go.RowKit
set_option maxRecDepth 100000
end Go.Proofs.YtinihebnajaejaaDoor

/- Share: words, by the document: not, add, encode. -/
namespace Go.Proofs.YtinihebnajaejaaDoor
open Go.RowKit
set_option maxRecDepth 100000
end Go.Proofs.YtinihebnajaejaaDoor

/- Share: words, by the document: encode. -/
namespace Go.Proofs.YtinihebnajaejaaDoor
open Go.RowKit
set_option maxRecDepth 100000
set_option maxHeartbeats 6400000 in
theorem yenc {Pm : World → Nat → Ms → (Nat → Prop) → Prop} (hM : Mach Pm) {lo : Nat} {X : Nat → Prop} {W w : World} {p b k : Nat} {S1 S : Ms} (h : Bz Pm lo X W w p b S1 S) (hq : Bq k S) (hk : k + 10 ≤ 100000) (hn : S.n = 2 ∨ S.n = 3) (x : Nat) (hx : x < 2 ^ 64) :
    Calls Tryd.prog 9 #[.pointer (some ⟨b, 0, none⟩), .int .u64 (x : Int)] w fun e w' => e = .returned (.agg (wdV (encR S))) ∧ Bz Pm lo X W w' p b S1 (encS S x) ∧ ∀ k, X k → w'.heap[k]? = w.heap[k]? := by
  obtain ⟨hsh, hs2, hs3⟩ := sh_of hn
  have HQB : Hid (Bq k (S.beginS 1)) := hid (hq.begins 1)
  have HQ : Hid (∀ m, m ≤ 3 → Bq (k + m) (eaS (S.beginS 1) opRand 1 m)) := hid (fun m hm => eaS_bq HQB.out 1 m (fun j hj => opRand_wf (by omega)))
  have HN : Hid (∀ m, (eaS (S.beginS 1) opRand 1 m).n = (S.sh : Int)) := hid (fun m => (eaS_n _ _ 1 m).trans ((beginS_n S 1).1.trans hsh))
  have HWB : Hid (Wb (enR1 S)) := hid (eaR_wb HQB.out 1 none3_wb _ (fun j hj => opRand_wf (by omega)) (by omega))
  have HQS := hid hq
  have HK := hid hk
  have HX := hid hx
  have Z1 := hid ((Gz.start h).box hM (Nat.le_refl _) #[.int .i64 0, .int .i64 0, .int .i64 0])
  have HSH : Hid (S.sh = S.sh) := hid rfl
  obtain ⟨n, hnn⟩ : ∃ n, S.sh = n := ⟨_, rfl⟩
  rw [hnn] at hs2 hs3 HN
  have HNN := hid hnn
  clear h hq hn hk hsh hx hnn HSH
  have e : encR S = updI (enR1 S) 0 ((enS1 S).doR (opEn S)) := rfl
  have e2 : encS S x = ((enS1 S).doS (opEn S) x).endS := rfl
  rw [e, e2]
  clear e e2
  have HE1 : Hid (enS1 S = eaS (S.beginS 1) opRand 1 (n - 1)) := hid (by unfold enS1; rw [HNN.out])
  have HE2 : Hid (enR1 S = eaR (S.beginS 1) opRand 1 none3 (n - 1)) := hid (by unfold enR1; rw [HNN.out])
  have HOE : Hid (opEn S = ⟨2, 0, enR1 S 1, enR1 S 2, -1, (enS1 S).words⟩) := hid rfl
  rw [HOE.out]
  generalize enR1 S = U at *
  generalize enS1 S = V at *
  clear HOE
  have HQV : Hid (Bq (k + 2) V) := hid (by rw [HE1.out]; exact (HQ.out (n - 1) (by omega)).mono (by omega))
  have HKV : Hid (k + 2 ≤ 100000) := hid (by have := HK.out; omega)
  have HKV2 : Hid (k + 3 ≤ 100000) := hid (by have := HK.out; omega)
  have HOV : Hid (opwf ⟨2, 0, U 1, U 2, -1, V.words⟩) := hid ⟨i64c 2 (by decide) (by decide), i64c 0 (by decide) (by decide), HWB.out 1, HWB.out 2, I64.m1, by show V.words < _; have := HQV.out.words; have := HK.out; omega⟩
  have HWR : Hid (IntKind.u64.wrap (V.words : Int) = (V.words : Int)) := hid (by have := HQV.out.words; have := HK.out; rw [IntKind.wrap_u64]; omega)
  go_enter Tryd.func9, Tryd.ntmps9
  go_wp2_with (first
    | (go_at_call 31; (with_reducible refine (none_any _).mono ?_); rintro e w1 ⟨rfl, hb⟩; have Z2 := hid ((Z1.out.self hM hb).box hM (by have := hb.size; simp at this; omega) (wdV none3)); have HNL : Hid (w.heap.size ≠ w1.heap.size) := hid (by have := hb.size; simp at this; omega); clear hb)
    | (go_at_call 32; (with_reducible refine (ybegin hM 1 Z2.out.z HQS.out (by have := HK.out; omega)).mono ?_); rintro e w2 ⟨rfl, hz, hs⟩; have Z3 := hid (Z2.out.on hz hs); clear hz hs))
  generalize w1.heap.size = lb at *
  go_loopw [6] (fun i wr => ∃ q m : Nat, q = 1 + m ∧ q ≤ n ∧ i = .int .i64 q ∧ Gz Pm lo X W w wr p b S1 (eaS (S.beginS 1) opRand 1 m) [(lb, wdV (eaR (S.beginS 1) opRand 1 none3 m)), (w.heap.size, #[.int .i64 0, .int .i64 0, .int .i64 0])]) (fun i _ => n - (intOf i).toNat)
  case atStart => exact ⟨1, 0, rfl, by omega, rfl, Z3.out⟩
  case round =>
    obtain ⟨q, m, hqm, hm, rfl, hI⟩ := hrel
    have HI := hid hI
    clear hI
    have c0 := HI.out.sh
    rw [HN.out] at c0
    have HQM0 := hid hqm
    by_cases hlt : q < n
    · have j2 : (q : Int) < (n : Int) := by omega
      have j1 : (0 : Int) ≤ (q : Int) := by omega
      have j3 : (q : Int) < 3 := by omega
      have HOM : Hid (opwf ⟨1, (q : Int), -1, -1, -1, 0⟩) := hid (opRand_wf (by omega : q ≤ 100))
      have HQM := hid (HQ.out m (by omega))
      have HKM : Hid (k + m ≤ 100000) := hid (by have := HK.out; omega)
      have HM3 : Hid (q < 3) := hid (by omega)
      clear hqm
      go_wp2_with (first
        | (go_at_call 34; (with_reducible refine (dop0_any 1 (q : Int) (-1) (-1) _).mono ?_); rintro e w5 ⟨rfl, hb⟩; have Y1 := hid (HI.out.self hM hb); clear hb)
        | (go_at_call 33; (with_reducible refine (ydo0 hM ⟨1, (q : Int), -1, -1, -1, 0⟩ Y1.out.z HQM.out HKM.out HOM.out).mono ?_); rintro e w6 ⟨rfl, hz, hs⟩; have Y2 := hid (Y1.out.on hz hs); clear hz hs; have cl : w6.cell? ⟨lb, q, none⟩ = some (.int .i64 (eaR (S.beginS 1) opRand 1 none3 m q)) := row_c (Y2.out.bx _ (List.mem_cons_self ..)).2 (wdV_at _ _ HM3.out); have fl := frozen_of_row w6 _ q _ _ (Y2.out.bx _ (List.mem_cons_self ..)).2))
      go_roundw
      case rel =>
        refine ⟨q + 1, m + 1, by have := HQM0.out; omega, by omega, by go_num, ?_⟩
        have := Y2.out.cell hM (by intro q hq; simp at hq; subst hq; exact HNL.out) q (.int .i64 ((eaS (S.beginS 1) opRand 1 m).doR ⟨1, (q : Int), -1, -1, -1, 0⟩))
        rw [wdV_upd _ _ _ HM3.out] at this
        have hq' := HQM0.out
        subst hq'
        exact this
      case measure => simp [intOf]; omega
    · obtain rfl : q = n := by omega
      have hm1 : m = q - 1 := by omega
      subst hm1
      rw [← HE1.out, ← HE2.out] at HI
      clear hlt c0 hqm
      have c0 := HI.out.sh
      have HNV : Hid (V.n = (q : Int)) := hid (by rw [HE1.out]; exact HN.out _)
      rw [HNV.out] at c0
      go_wp2_with fail
      have Y0 := hid (HI.out.self hM ((Below.refl _ wr).drew))
      refine wp_region_noPanic ?_
      refine wp_region_held_drew (S := fun w' => w'.cell? ⟨lb, 1, none⟩ = some (.int .i64 (U 1)) ∧ w'.cell? ⟨lb, 2, none⟩ = some (.int .i64 (U 2))) (by kernel_rfl) (⟨row_c (i := 1) (u := .int .i64 (U 1)) (Y0.out.bx _ (List.mem_cons_self ..)).2 rfl, row_c (i := 2) (u := .int .i64 (U 2)) (Y0.out.bx _ (List.mem_cons_self ..)).2 rfl⟩) (fun h0 => ?_)
      generalize wr.drew = y1 at *
      refine wpAnyH_take (i := 0) (v := .pointer (some ⟨b, 0, none⟩)) rfl (by kernel_rfl) (by kernel_rfl) (by kernel_rfl) (fun _ _ _ h => h) (.inl ⟨by rfl, fun w hw => by clear hw; go_simp⟩) h0 ?_
      try simp only [Act.put, lay_out]
      refine wpAnyH_take (i := 1) (v := .pointer (some ⟨lb, 0, none⟩)) rfl (by kernel_rfl) (by kernel_rfl) (by kernel_rfl) (fun _ _ _ h => h) (.inl ⟨by rfl, fun w hw => by clear hw; go_simp⟩) h0 ?_
      try simp only [Act.put, lay_out]
      refine wpAnyH_take (i := 2) (v := .pointer (some ⟨lb, 1, none⟩)) rfl (by kernel_rfl) (by kernel_rfl) (by kernel_rfl) (fun _ _ _ h => h) (.inl ⟨by rfl, fun w hw => by clear hw; go_simp⟩) h0 ?_
      try simp only [Act.put, lay_out]
      refine wpAnyH_take (i := 3) (v := .int .i64 (U 1)) rfl (by kernel_rfl) (by kernel_rfl) (by kernel_rfl) (fun _ _ _ h => h) (.inl ⟨by rfl, fun w' hw => by have hc := hw.1; clear hw; go_simp⟩) h0 ?_
      try simp only [Act.put, lay_out]
      refine wpAnyH_take (i := 4) (v := .pointer (some ⟨lb, 0, none⟩)) rfl (by kernel_rfl) (by kernel_rfl) (by kernel_rfl) (fun _ _ _ h => h) (.inl ⟨by rfl, fun w hw => by clear hw; go_simp⟩) h0 ?_
      try simp only [Act.put, lay_out]
      refine wpAnyH_take (i := 5) (v := .pointer (some ⟨lb, 2, none⟩)) rfl (by kernel_rfl) (by kernel_rfl) (by kernel_rfl) (fun _ _ _ h => h) (.inl ⟨by rfl, fun w hw => by clear hw; go_simp⟩) h0 ?_
      try simp only [Act.put, lay_out]
      refine wpAnyH_take (i := 6) (v := .int .i64 (U 2)) rfl (by kernel_rfl) (by kernel_rfl) (by kernel_rfl) (fun _ _ _ h => h) (.inl ⟨by rfl, fun w' hw => by have hc := hw.2; clear hw; go_simp⟩) h0 ?_
      try simp only [Act.put, lay_out]
      refine wpAnyH_take (i := 7) (v := .pointer (some ⟨b, 0, none⟩)) rfl (by kernel_rfl) (by kernel_rfl) (by kernel_rfl) (fun _ _ _ h => h) (.inl ⟨by rfl, fun w hw => by clear hw; go_simp⟩) h0 ?_
      try simp only [Act.put, lay_out]
      refine wpAnyH_take (i := 8) (v := .pointer (some ⟨b, 0, none⟩)) rfl (by kernel_rfl) (by kernel_rfl) (by kernel_rfl) (fun _ _ _ h => h) (.inl ⟨by rfl, fun w hw => by clear hw; go_simp⟩) h0 ?_
      try simp only [Act.put, lay_out]
      refine wpAnyH_take (i := 9) (v := .pointer (some ⟨b, 2, none⟩)) rfl (by kernel_rfl) (by kernel_rfl) (by kernel_rfl) (fun _ _ _ h => h) (.inl ⟨by rfl, fun w hw => by clear hw; go_simp⟩) h0 ?_
      try simp only [Act.put, lay_out]
      refine wpAnyH_take (i := 13) (v := .int .u64 (x : Int)) rfl (by kernel_rfl) (by kernel_rfl) (by kernel_rfl) (fun _ _ _ h => h) (.inl ⟨by rfl, fun w hw => by clear hw; go_simp⟩) h0 ?_
      try simp only [Act.put, lay_out]
      refine wpAnyH_take (i := 15) (v := .pointer (some ⟨lb, 0, none⟩)) rfl (by kernel_rfl) (by kernel_rfl) (by kernel_rfl) (fun _ _ _ h => h) (.inl ⟨by rfl, fun w hw => by clear hw; go_simp⟩) h0 ?_
      try simp only [Act.put, lay_out]
      refine wpAnyH_ready (rs := [10]) (by kernel_rfl) (by simp) (AllReadyH.cons rfl (fun K hK => ?_) AllReadyH.nil)
      rw [if_pos (by rfl)]
      have hc := Y0.out.z.words
      go_simp
      clear hc
      refine hK.out _ _ (⟨row_c (i := 1) (u := .int .i64 (U 1)) (Y0.out.bx _ (List.mem_cons_self ..)).2 rfl, row_c (i := 2) (u := .int .i64 (U 2)) (Y0.out.bx _ (List.mem_cons_self ..)).2 rfl⟩) (fun h1x => ?_)
      clear hK K
      try simp only [Act.put, lay_out]
      refine wpAnyH_take (i := 11) (v := .int .u64 (V.words : Int)) rfl (by kernel_rfl) (by kernel_rfl) (by kernel_rfl) (fun _ _ _ h => h) (.inl ⟨by rfl, fun w' hw => by clear hw; have hwr := HWR.out; go_simp⟩) h1x ?_
      try simp only [Act.put, lay_out]
      refine wpAnyH_ready (rs := [12]) (by kernel_rfl) (by simp) (AllReadyH.cons rfl (fun K hK => ?_) AllReadyH.nil)
      rw [if_pos (by rfl)]
      go_simp
      go_at_call 34
      (with_reducible refine (dopc_any 2 0 (U 1) (U 2) V.words _).mono ?_); rintro e w5 ⟨rfl, hb⟩
      have Y1 := hid (Y0.out.self hM hb)
      clear hb
      refine hK.out _ _ (⟨row_c (i := 1) (u := .int .i64 (U 1)) (Y1.out.bx _ (List.mem_cons_self ..)).2 rfl, row_c (i := 2) (u := .int .i64 (U 2)) (Y1.out.bx _ (List.mem_cons_self ..)).2 rfl⟩) (fun h2x => ?_)
      clear hK K
      try simp only [Act.put, lay_out]
      refine wpAnyH_ready (rs := [14]) (by kernel_rfl) (by simp) (AllReadyH.cons rfl (fun K hK => ?_) AllReadyH.nil)
      rw [if_pos (by rfl)]
      go_simp
      go_at_call 33
      (with_reducible refine (ydo hM ⟨2, 0, U 1, U 2, -1, V.words⟩ x Y1.out.z HQV.out HKV.out HOV.out HX.out).mono ?_); rintro e w6 ⟨rfl, hz, hs⟩
      have Y2 := hid (Y1.out.on hz hs)
      clear hz hs
      refine hK.out _ _ (⟨row_c (i := 1) (u := .int .i64 (U 1)) (Y2.out.bx _ (List.mem_cons_self ..)).2 rfl, row_c (i := 2) (u := .int .i64 (U 2)) (Y2.out.bx _ (List.mem_cons_self ..)).2 rfl⟩) (fun h3x => ?_)
      clear hK K
      try simp only [Act.put, lay_out]
      refine wpAnyH_take (i := 16) (v := .pointer (some ⟨lb, 0, none⟩)) rfl (by kernel_rfl) (by kernel_rfl) (by kernel_rfl) (fun _ _ _ h => h) (.inl ⟨by rfl, fun w hw => by clear hw; go_simp⟩) h3x ?_
      try simp only [Act.put, lay_out]
      refine wpAnyH_ready (rs := [17]) (by kernel_rfl) (by simp) (AllReadyH.cons rfl (fun K hK => ?_) AllReadyH.nil)
      rw [if_pos (by rfl)]
      have cl : w6.cell? ⟨lb, 0, none⟩ = some (.int .i64 (U 0)) := row_c (Y2.out.bx _ (List.mem_cons_self ..)).2 rfl
      have fl := frozen_of_row w6 _ 0 _ _ (Y2.out.bx _ (List.mem_cons_self ..)).2
      go_simp
      have Y3 : Hid (Gz Pm lo X W w (w6.setCell ⟨lb, 0, none⟩ (.int .i64 (V.doR ⟨2, 0, U 1, U 2, -1, V.words⟩))) p b S1 (V.doS ⟨2, 0, U 1, U 2, -1, V.words⟩ x) [(lb, wdV (updI U 0 (V.doR ⟨2, 0, U 1, U 2, -1, V.words⟩))), (w.heap.size, #[.int .i64 0, .int .i64 0, .int .i64 0])]) := hid (by have := Y2.out.cell hM (by intro q hq; simp at hq; subst hq; exact HNL.out) 0 (.int .i64 (V.doR ⟨2, 0, U 1, U 2, -1, V.words⟩)); rw [wdV_upd _ _ _ (by decide)] at this; exact this)
      clear cl fl
      refine hK.out _ _ (⟨row_c (i := 1) (u := .int .i64 (U 1)) (Y3.out.bx _ (List.mem_cons_self ..)).2 rfl, row_c (i := 2) (u := .int .i64 (U 2)) (Y3.out.bx _ (List.mem_cons_self ..)).2 rfl⟩) (fun h4x => ?_)
      clear hK K
      try simp only [Act.put, lay_out]
      refine wpAnyH_done (by kernel_rfl) ?_ _
      refine NoPanic.normal ?_
      clear h0 h1x h2x h3x h4x
      try simp only [Act.put, lay_out]
      go_upto_region 9 with (go_at_call 35; (with_reducible refine (yend hM Y3.out.z (HQV.out.does HOV.out HX.out) HKV2.out).mono ?_); rintro e w8 ⟨rfl, hz, hs⟩; have Y4 := hid (Y3.out.on hz hs); clear hz hs)
      go_wp2_with (first
        | (refine step_load_row rfl 34 _ rfl lb 34 (wdV (updI U 0 (V.doR ⟨2, 0, U 1, U 2, -1, V.words⟩))) _ rfl (Y4.out.bx (lb, wdV (updI U 0 (V.doR ⟨2, 0, U 1, U 2, -1, V.words⟩))) (by simp)).2 Tryd.underlying34 rfl (by kernel_rfl) ?_)
        | (refine step_store_row rfl 34 _ _ rfl w.heap.size 34 _ (wdV (updI U 0 (V.doR ⟨2, 0, U 1, U 2, -1, V.words⟩))) rfl rfl (Y4.out.bx (w.heap.size, #[.int .i64 0, .int .i64 0, .int .i64 0]) (by simp)).2 (by kernel_rfl) rfl (by kernel_rfl) ?_))
      have ZF := hid (((Y4.out.swap (bs' := [(w.heap.size, #[.int .i64 0, .int .i64 0, .int .i64 0]), (lb, wdV (updI U 0 (V.doR ⟨2, 0, U 1, U 2, -1, V.words⟩)))]) (by intro q hq; simp at hq ⊢; exact hq.symm)).row hM (by intro q hq; simp at hq; subst hq; exact HNL.out.symm) (wdV (updI U 0 (V.doR ⟨2, 0, U 1, U 2, -1, V.words⟩)))))
      exact bodyPost_ret (results_cell_row (by rfl) _ _ w.heap.size 34 (wdV (updI U 0 (V.doR ⟨2, 0, U 1, U 2, -1, V.words⟩))) (0, 0) _ rfl (ZF.out.bx _ (List.mem_cons_self ..)).2 Tryd.underlying34 rfl (by kernel_rfl)) rfl ⟨rfl, ZF.out.fin⟩
end Go.Proofs.YtinihebnajaejaaDoor
