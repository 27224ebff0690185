import Derived.Test.YtdgkofnboeepbaaMgac
import Derived.Test.YtdgkofnboeepbaaProg
import Derived.Test.YtdgkofnboeepbaaMgaf
import Derived.Test.YtdgkofnboeepbaaMgaa
import Derived.Laws.Rows
import Derived.Laws.Tables
import Derived.Laws.StructEq
import Derived.ChangeKeysEq
import Derived.Deep.WholeRow
import Derived.Test.YtdgkofnboeepbaaMgab
import Derived.Test.YtdgkofnboeepbaaMgad
import Derived.Deep.CutRange
import Derived.Deep.CutBlock
import Derived.Deep.MidRow
/- General: words as shares, as numbers: registers that are made share by share. No program is named. -/
namespace Go.Proofs.Ytdgkofnboeepbaa

def updI (W : Nat → Int) (j : Nat) (z : Int) : Nat → Int := fun i => if i = j then z else W i
theorem updI_at (W : Nat → Int) (j : Nat) (z : Int) : updI W j z j = z := by simp [updI]
theorem updI_no (W : Nat → Int) {j i : Nat} (z : Int) (h : i ≠ j) : updI W j z i = W i := by simp [updI, h]
/-- A number that an int holds. -/
def I64 (z : Int) : Prop := -9223372036854775808 ≤ z ∧ z ≤ 9223372036854775807
def Wb (W : Nat → Int) : Prop := ∀ i, I64 (W i)
theorem I64.m1 : I64 (-1) := by unfold I64; omega
theorem Wb.upd {W : Nat → Int} (h : Wb W) {j : Nat} {z : Int} (hz : I64 z) : Wb (updI W j z) := fun i => by
  by_cases e : i = j
  · subst e; rw [updI_at]; exact hz
  · rw [updI_no _ _ e]; exact h i
theorem doR_bd {k : Nat} {S : Ms} (h : Bq k S) (hk : k ≤ 1000000) (o : Op6) : I64 (S.doR o) := by
  have := h.len
  unfold Ms.doR I64
  split <;> omega
/-- The machine behind m ops, op (lo) .. op (lo + m - 1), without outside words. -/
def eaS (S : Ms) (op : Nat → Op6) (lo : Nat) : Nat → Ms
  | 0 => S
  | m + 1 => (eaS S op lo m).doS (op (lo + m)) 0
/-- The registers that they make. -/
def eaR (S : Ms) (op : Nat → Op6) (lo : Nat) (W : Nat → Int) : Nat → Nat → Int
  | 0 => W
  | m + 1 => updI (eaR S op lo W m) (lo + m) ((eaS S op lo m).doR (op (lo + m)))
theorem eaS_bq {k : Nat} {S : Ms} (h : Bq k S) {op : Nat → Op6} (lo : Nat) : ∀ m, (∀ j, j < m → opwf (op (lo + j))) → Bq (k + m) (eaS S op lo m)
  | 0, _ => h
  | m + 1, ho => (eaS_bq h lo m (fun j hj => ho j (by omega))).does (ho m (by omega)) (by decide)
theorem eaS_n (S : Ms) (op : Nat → Op6) (lo : Nat) : ∀ m, (eaS S op lo m).n = S.n
  | 0 => rfl
  | m + 1 => by rw [eaS, doS_n, eaS_n S op lo m]
theorem eaR_wb {k : Nat} {S : Ms} (h : Bq k S) {op : Nat → Op6} (lo : Nat) {W : Nat → Int} (hW : Wb W) : ∀ m, (∀ j, j < m → opwf (op (lo + j))) → k + m ≤ 1000000 → Wb (eaR S op lo W m)
  | 0, _, _ => hW
  | m + 1, ho, hk => (eaR_wb h lo hW m (fun j hj => ho j (by omega)) (by omega)).upd (doR_bd (eaS_bq h lo m (fun j hj => ho j (by omega))) (by omega) _)
/-- How many shares. -/
def Ms.sh (S : Ms) : Nat := S.n.toNat
def none3 : Nat → Int := fun _ => -1
theorem none3_wb : Wb none3 := fun _ => I64.m1
/-! ### the gadgets of words -/
def opRand (i : Nat) : Op6 := ⟨1, (i : Int), -1, -1, -1, 0⟩
def opCst (K : Int) (c : Nat) (i : Nat) : Op6 := if i = 0 then ⟨K, 0, -1, -1, -1, c⟩ else ⟨3, (i : Int), -1, -1, -1, 0⟩
def opXor (A B : Nat → Int) (i : Nat) : Op6 := ⟨5, (i : Int), A i, B i, -1, 0⟩
def opOne (K : Int) (A : Nat → Int) (c : Nat) (i : Nat) : Op6 := ⟨K, (i : Int), A i, -1, -1, c⟩
def opNot (A : Nat → Int) : Op6 := ⟨6, 0, A 0, -1, -1, 0⟩
def cstS (S : Ms) (K : Int) (c : Nat) : Ms := eaS S (opCst K c) 0 S.sh
def cstR (S : Ms) (K : Int) (c : Nat) : Nat → Int := eaR S (opCst K c) 0 none3 S.sh
def xorS (S : Ms) (A B : Nat → Int) : Ms := eaS S (opXor A B) 0 S.sh
def xorR (S : Ms) (A B : Nat → Int) : Nat → Int := eaR S (opXor A B) 0 none3 S.sh
def oneS (S : Ms) (K : Int) (A : Nat → Int) (c : Nat) : Ms := eaS S (opOne K A c) 0 S.sh
def oneR (S : Ms) (K : Int) (A : Nat → Int) (c : Nat) : Nat → Int := eaR S (opOne K A c) 0 none3 S.sh
def notS (S : Ms) (A : Nat → Int) : Ms := S.doS (opNot A) 0
def notR (S : Ms) (A : Nat → Int) : Nat → Int := updI A 0 (S.doR (opNot A))
def opAd1 (K : Int) (c : Nat) : Op6 := ⟨K, 0, -1, -1, -1, c⟩
def opAd2 (A : Nat → Int) (r : Int) : Op6 := ⟨5, 0, A 0, r, -1, 0⟩
def addS (S : Ms) (K : Int) (A : Nat → Int) (c : Nat) : Ms := (S.doS (opAd1 K c) 0).doS (opAd2 A (S.doR (opAd1 K c))) 0
def addR (S : Ms) (K : Int) (A : Nat → Int) (c : Nat) : Nat → Int := updI A 0 ((S.doS (opAd1 K c) 0).doR (opAd2 A (S.doR (opAd1 K c))))
/-- Encode: the machine behind its masks, and their registers. -/
def enS1 (S : Ms) : Ms := eaS (S.beginS 1) opRand 1 (S.sh - 1)
def enR1 (S : Ms) : Nat → Int := eaR (S.beginS 1) opRand 1 none3 (S.sh - 1)
def opEn (S : Ms) : Op6 := ⟨2, 0, enR1 S 1, enR1 S 2, -1, (enS1 S).words⟩
def encS (S : Ms) (x : Nat) : Ms := ((enS1 S).doS (opEn S) x).endS
def encR (S : Ms) : Nat → Int := updI (enR1 S) 0 ((enS1 S).doR (opEn S))
theorem i64c (z : Int) (h : 0 ≤ z) (h2 : z ≤ 1000) : -9223372036854775808 ≤ z ∧ z ≤ 9223372036854775807 := by omega
theorem opRand_wf {i : Nat} (hi : i ≤ 100) : opwf (opRand i) := ⟨i64c 1 (by decide) (by decide), by show _ ≤ (i : Int) ∧ (i : Int) ≤ _; omega, I64.m1, I64.m1, I64.m1, by show 0 < _; omega⟩
theorem opCst_wf {K : Int} (hK : I64 K) {c i : Nat} (hc : c < 2 ^ 64) (hi : i ≤ 100) : opwf (opCst K c i) := by
  unfold opCst
  split
  · exact ⟨hK, i64c 0 (by decide) (by decide), I64.m1, I64.m1, I64.m1, by show c < _; omega⟩
  · exact ⟨i64c 3 (by decide) (by decide), by show _ ≤ (i : Int) ∧ (i : Int) ≤ _; omega, I64.m1, I64.m1, I64.m1, by show 0 < _; omega⟩
theorem opXor_wf {A B : Nat → Int} (hA : Wb A) (hB : Wb B) {i : Nat} (hi : i ≤ 100) : opwf (opXor A B i) := ⟨i64c 5 (by decide) (by decide), by show _ ≤ (i : Int) ∧ (i : Int) ≤ _; omega, hA i, hB i, I64.m1, by show 0 < _; omega⟩
theorem opOne_wf {K : Int} (hK : I64 K) {A : Nat → Int} (hA : Wb A) {c i : Nat} (hc : c < 2 ^ 64) (hi : i ≤ 100) : opwf (opOne K A c i) := ⟨hK, by show _ ≤ (i : Int) ∧ (i : Int) ≤ _; omega, hA i, I64.m1, I64.m1, by show c < _; omega⟩
theorem opNot_wf {A : Nat → Int} (hA : Wb A) : opwf (opNot A) := ⟨i64c 6 (by decide) (by decide), i64c 0 (by decide) (by decide), hA 0, I64.m1, I64.m1, by show 0 < _; omega⟩
theorem opAd1_wf {K : Int} (hK : I64 K) {c : Nat} (hc : c < 2 ^ 64) : opwf (opAd1 K c) := ⟨hK, i64c 0 (by decide) (by decide), I64.m1, I64.m1, I64.m1, by show c < _; omega⟩
theorem opAd2_wf {A : Nat → Int} (hA : Wb A) {r : Int} (hr : I64 r) : opwf (opAd2 A r) := ⟨i64c 5 (by decide) (by decide), i64c 0 (by decide) (by decide), hA 0, hr, I64.m1, by show 0 < _; omega⟩
end Go.Proofs.Ytdgkofnboeepbaa

/- Share: words, by the document: boxes beside two machines. -/
namespace Go.Proofs.Ytdgkofnboeepbaa
open Go.RowKit
set_option maxRecDepth 100000
abbrev wdV (W : Nat → Int) : Array Value := #[.int .i64 (W 0), .int .i64 (W 1), .int .i64 (W 2)]
theorem wdV_upd (W : Nat → Int) (j : Nat) (z : Int) (hj : j < 3) : (wdV W).setIfInBounds j (.int .i64 z) = wdV (updI W j z) := by
  rcases (by omega : j = 0 ∨ j = 1 ∨ j = 2) with rfl | rfl | rfl <;> simp [wdV, updI]
theorem wdV_at (W : Nat → Int) (j : Nat) (hj : j < 3) : (wdV W)[j]? = some (.int .i64 (W j)) := by
  rcases (by omega : j = 0 ∨ j = 1 ∨ j = 2) with rfl | rfl | rfl <;> rfl
/-- Both machines, and boxes of words (new since w0) beside them; X0: what is left alone. -/
structure Gz (Pm : World → Nat → Ms → (Nat → Prop) → Prop) (lo : Nat) (X0 : Nat → Prop) (W w0 wx : World) (p b : Nat) (S1 S2 : Ms) (bs : List (Nat × Array Value)) : Prop where
  z : Bz Pm lo (fun k => X0 k ∨ ∃ q ∈ bs, q.1 = k) W wx p b S1 S2
  bx : ∀ q ∈ bs, w0.heap.size ≤ q.1 ∧ wx.heap[q.1]? = some (.cells q.2 33 (0, 0))
  st : ∀ k, X0 k → k < w0.heap.size ∧ wx.heap[k]? = w0.heap[k]?
  lo : lo ≤ w0.heap.size
section
variable {Pm : World → Nat → Ms → (Nat → Prop) → Prop} {lo : Nat} {X0 : Nat → Prop} {W w0 wx wy : World} {p b : Nat} {S1 S2 S1' S2' : Ms} {bs : List (Nat × Array Value)}
theorem Gz.start (h : Bz Pm lo X0 W w0 p b S1 S2) : Gz Pm lo X0 W w0 w0 p b S1 S2 [] := by
  have hX : ∀ k, X0 k → k < w0.heap.size := by
    obtain ⟨F, G, ov, bv, vv, tv, h1, h2, h3, h4, h5, h6, h7⟩ := h
    exact fun k hk => (h4 k hk).1
  refine ⟨h.less (fun k hk => ?_), fun q hq => (List.not_mem_nil hq).elim, fun k hk => ⟨hX k hk, rfl⟩, h.los⟩
  rcases hk with e | ⟨q, hq, _⟩
  · exact e
  · exact (List.not_mem_nil hq).elim
theorem Gz.self (hM : Mach Pm) (h : Gz Pm lo X0 W w0 wx p b S1 S2 bs) (hb : Below wx.heap.size wx wy) : Gz Pm lo X0 W w0 wy p b S1 S2 bs :=
  ⟨h.z.self hM hb, fun q hq => ⟨(h.bx q hq).1, (hb.block _ (Array.getElem?_eq_some_iff.1 (h.bx q hq).2).1).trans (h.bx q hq).2⟩, fun k hk => ⟨(h.st k hk).1, (hb.block k (by
    obtain ⟨F, G, ov, bv, vv, tv, h1, h2, h3, h4, h5, h6, h7⟩ := h.z
    exact (h4 k (.inl hk)).1)).trans (h.st k hk).2⟩, h.lo⟩
/-- One box more. -/
theorem Gz.box (hM : Mach Pm) (h : Gz Pm lo X0 W w0 wx p b S1 S2 bs) (hs : w0.heap.size ≤ wx.heap.size) (cs : Array Value) : Gz Pm lo X0 W w0 (wx.alloc (.cells cs 33)) p b S1 S2 ((wx.heap.size, cs) :: bs) := by
  have hb := (Below.refl wx.heap.size wx).alloc (Nat.le_refl _) (.cells cs 33)
  have h' := h.self hM hb
  refine ⟨(h.z.more hM hb).less (fun k hk => ?_), fun q hq => ?_, h'.st, h.lo⟩
  · rcases hk with e | ⟨q, hq, rfl⟩
    · exact .inl (.inl e)
    · rcases List.mem_cons.1 hq with rfl | hq
      · exact .inr ⟨Nat.le_refl _, by simp⟩
      · exact .inl (.inr ⟨q, hq, rfl⟩)
  · rcases List.mem_cons.1 hq with rfl | hq
    · exact ⟨hs, heap_alloc_new _ _⟩
    · exact h'.bx q hq
/-- A machine goes on. -/
theorem Gz.on {p' : Nat} (h : Gz Pm lo X0 W w0 wx p b S1 S2 bs) (hz : Bz Pm lo (fun k => X0 k ∨ ∃ q ∈ bs, q.1 = k) W wy p' b S1' S2') (hs : ∀ k, (X0 k ∨ ∃ q ∈ bs, q.1 = k) → wy.heap[k]? = wx.heap[k]?) : Gz Pm lo X0 W w0 wy p' b S1' S2' bs :=
  ⟨hz, fun q hq => ⟨(h.bx q hq).1, (hs _ (.inr ⟨q, hq, rfl⟩)).trans (h.bx q hq).2⟩, fun k hk => ⟨(h.st k hk).1, (hs k (.inl hk)).trans (h.st k hk).2⟩, h.lo⟩
/-- The first box is turned. -/
theorem Gz.cell (hM : Mach Pm) {n : Nat} {cs : Array Value} (h : Gz Pm lo X0 W w0 wx p b S1 S2 ((n, cs) :: bs)) (hn : ∀ q ∈ bs, q.1 ≠ n) (i : Nat) (v : Value) : Gz Pm lo X0 W w0 (wx.setCell ⟨n, i, none⟩ v) p b S1 S2 ((n, cs.setIfInBounds i v) :: bs) := by
  have hnb := h.bx (n, cs) (List.mem_cons_self ..)
  have hT : Tch (fun k => k = n) wx (wx.setCell ⟨n, i, none⟩ v) := Tch.set wx v rfl
  refine ⟨(h.z.apart hM hT (fun k hk => ?_)).less (fun k hk => ?_), fun q hq => ?_, fun k hk => ⟨(h.st k hk).1, (heap_setCell_other wx ⟨n, i, none⟩ k v (by have := (h.st k hk).1; have := hnb.1; show k ≠ n; omega)).trans (h.st k hk).2⟩, h.lo⟩
  · subst hk
    exact ⟨.inr ⟨(k, cs), List.mem_cons_self .., rfl⟩, Nat.le_trans h.lo hnb.1⟩
  · rcases hk with e | ⟨q, hq, rfl⟩
    · exact .inl e
    · rcases List.mem_cons.1 hq with rfl | hq
      · exact .inr ⟨(n, cs), List.mem_cons_self .., rfl⟩
      · exact .inr ⟨q, List.mem_cons_of_mem _ hq, rfl⟩
  · rcases List.mem_cons.1 hq with rfl | hq
    · exact ⟨hnb.1, heap_setCell_same wx n i cs 33 v hnb.2⟩
    · exact ⟨(h.bx q (List.mem_cons_of_mem _ hq)).1, (heap_setCell_other wx ⟨n, i, none⟩ q.1 v (hn q hq)).trans (h.bx q (List.mem_cons_of_mem _ hq)).2⟩
/-- A box is turned whole. -/
theorem Gz.row (hM : Mach Pm) {n : Nat} {cs : Array Value} (h : Gz Pm lo X0 W w0 wx p b S1 S2 ((n, cs) :: bs)) (hn : ∀ q ∈ bs, q.1 ≠ n) (cs' : Array Value) : Gz Pm lo X0 W w0 (wx.setRow n cs') p b S1 S2 ((n, cs') :: bs) := by
  have hnb := h.bx (n, cs) (List.mem_cons_self ..)
  have hT : Tch (fun k => k = n) wx (wx.setRow n cs') := ⟨rfl, rfl, rfl, by simp [World.setRow], fun k hk hF => setRow_other wx n k cs' hF⟩
  refine ⟨(h.z.apart hM hT (fun k hk => ?_)).less (fun k hk => ?_), fun q hq => ?_, fun k hk => ⟨(h.st k hk).1, (setRow_other wx n k cs' (by have := (h.st k hk).1; have := hnb.1; omega)).trans (h.st k hk).2⟩, h.lo⟩
  · subst hk
    exact ⟨.inr ⟨(k, cs), List.mem_cons_self .., rfl⟩, Nat.le_trans h.lo hnb.1⟩
  · rcases hk with e | ⟨q, hq, rfl⟩
    · exact .inl e
    · rcases List.mem_cons.1 hq with rfl | hq
      · exact .inr ⟨(n, cs), List.mem_cons_self .., rfl⟩
      · exact .inr ⟨q, List.mem_cons_of_mem _ hq, rfl⟩
  · rcases List.mem_cons.1 hq with rfl | hq
    · exact ⟨hnb.1, setRow_heap wx n cs cs' 33 _ hnb.2⟩
    · exact ⟨(h.bx q (List.mem_cons_of_mem _ hq)).1, (setRow_other wx n q.1 cs' (hn q hq)).trans (h.bx q (List.mem_cons_of_mem _ hq)).2⟩
/-- The boxes in another order, or fewer. -/
theorem Gz.swap {bs' : List (Nat × Array Value)} (h : Gz Pm lo X0 W w0 wx p b S1 S2 bs) (hs : ∀ q ∈ bs', q ∈ bs) : Gz Pm lo X0 W w0 wx p b S1 S2 bs' :=
  ⟨h.z.less (fun _ hk => hk.imp id (fun ⟨q, hq, e⟩ => ⟨q, hs q hq, e⟩)), fun q hq => h.bx q (hs q hq), h.st, h.lo⟩
theorem Gz.fin (h : Gz Pm lo X0 W w0 wx p b S1 S2 bs) : Bz Pm lo X0 W wx p b S1 S2 ∧ ∀ k, X0 k → wx.heap[k]? = w0.heap[k]? := ⟨h.z.less (fun _ hk => .inl hk), fun k hk => (h.st k hk).2⟩
theorem Gz.sh (h : Gz Pm lo X0 W w0 wx p b S1 S2 bs) : wx.cell? ⟨b, 0, none⟩ = some (.int .i64 S2.n) := h.z.c0.1
end
end Go.Proofs.Ytdgkofnboeepbaa

/- General: what words stand for. No program is named. -/
namespace Go.Proofs.Ytdgkofnboeepbaa

def vlP (v : Nat → Nat) (L : Nat) (A : Nat → Int) : Nat → Nat
  | 0 => 0
  | m + 1 => vlP v L A m ^^^ wordAt v L (A m)
/-- What a word stands for. -/
abbrev vlN (v : Nat → Nat) (L : Nat) (A : Nat → Int) : Nat := vlP v L A 3
theorem vlP_lt {v : Nat → Nat} {L : Nat} (h : ∀ i, i < L → v i < 2 ^ 64) (A : Nat → Int) : ∀ m, vlP v L A m < 2 ^ 64
  | 0 => by show 0 < _; decide
  | m + 1 => xr_lt (vlP_lt h A m) (wordAt_lt h _)
/-- A machine that went on: the words that there were are as they were. -/
structure Ext (S S' : Ms) : Prop where
  L : S.L ≤ S'.L
  v : ∀ i, i < S.L → S'.v i = S.v i
  n : S'.n = S.n
  dry : S'.dry = S.dry
  skip : S'.skip = S.skip
theorem Ext.refl (S : Ms) : Ext S S := ⟨Nat.le_refl _, fun _ _ => rfl, rfl, rfl, rfl⟩
theorem Ext.trans {S S' S2 : Ms} (h : Ext S S') (k : Ext S' S2) : Ext S S2 :=
  ⟨Nat.le_trans h.L k.L, fun i hi => (k.v i (Nat.lt_of_lt_of_le hi h.L)).trans (h.v i hi), k.n.trans h.n, k.dry.trans h.dry, k.skip.trans h.skip⟩
/-- A word whose registers there are; of two shares the third is none. -/
structure Gw (S : Ms) (A : Nat → Int) : Prop where
  lt : ∀ i, i < 3 → A i < (S.L : Int)
  no : ∀ i, S.sh ≤ i → i < 3 → A i < 0
theorem Gw.ext {S S' : Ms} {A : Nat → Int} (h : Gw S A) (k : Ext S S') : Gw S' A :=
  ⟨fun i hi => by have := h.lt i hi; have := k.L; omega, fun i hi hj => h.no i (by unfold Ms.sh at hi ⊢; rw [k.n] at hi; exact hi) hj⟩
end Go.Proofs.Ytdgkofnboeepbaa

/- General: what the gadgets of words make, as what words stand for. No program is named. -/
namespace Go.Proofs.Ytdgkofnboeepbaa

end Go.Proofs.Ytdgkofnboeepbaa

/- General: arrays of ints that are not negative, by value and in a block (Arw's, for i64). No program is named. -/
namespace Go.Proofs.Ytdgkofnboeepbaa
open Go.ChangeShapes Go.WideShapes Go.ChangeAt Go.RowKit

/-- The n cells of an array of words. -/
def ia (n : Nat) (f : Nat → Nat) : Array Value := ((List.range n).map fun i => Value.int .i64 (f i : Int)).toArray

theorem ia_size (n : Nat) (f : Nat → Nat) : (ia n f).size = n := by simp [ia]
theorem ia_get {n : Nat} (f : Nat → Nat) {j : Nat} (h : j < n) : (ia n f)[j]? = some (.int .i64 (f j : Int)) := by simp [ia, h]
theorem ia_ext {n : Nat} {f g : Nat → Nat} (h : ∀ i, i < n → f i = g i) : ia n f = ia n g := by
  unfold ia
  congr 1
  refine List.map_congr_left fun i hi => ?_
  rw [h i (List.mem_range.1 hi)]
theorem ia_set {n : Nat} (f : Nat → Nat) (j z : Nat) : (ia n f).setIfInBounds j (.int .i64 (z : Int)) = ia n (upd f j z) := by
  apply Array.ext_getElem?
  intro i
  rw [Array.getElem?_setIfInBounds, ia_size]
  by_cases hi : i < n
  · rw [ia_get _ hi, ia_get _ hi]
    by_cases e : j = i
    · subst e; rw [if_pos rfl, if_pos hi, upd_same]
    · rw [if_neg e, upd_other _ _ _ _ (fun h => e h.symm)]
  · have h1 : (ia n f)[i]? = none := by simp [ia_size]; omega
    have h2 : (ia n (upd f j z))[i]? = none := by simp [ia_size]; omega
    rw [h1, h2]
    by_cases e : j = i
    · rw [if_pos e, if_neg (by omega)]
    · rw [if_neg e]
theorem ia_one (n : Nat) (f : Nat → Nat) : (ia n f).all (·.oneCell') = true := by
  refine Array.all_eq_true_iff_forall_mem.2 (fun v hv => ?_)
  simp [ia] at hv
  obtain ⟨i, _, rfl⟩ := hv
  rfl

section prog
variable {P : Program}

end prog
/-! ### an array in a block of its own -/
/-- Block b holds, whole, the n words of f, as a variable of type t. -/
def Ai (w : World) (b n : Nat) (t : TypeId) (f : Nat → Nat) : Prop := w.heap[b]? = some (.cells (ia n f) t (0, 0))
theorem Ai.lt {w : World} {b n : Nat} {t : TypeId} {f : Nat → Nat} (h : Ai w b n t f) : b < w.heap.size := (Array.getElem?_eq_some_iff.1 h).1
theorem Ai.cell {w : World} {b n : Nat} {t : TypeId} {f : Nat → Nat} (h : Ai w b n t f) {j : Nat} (hj : j < n) : w.cell? ⟨b, j, none⟩ = some (.int .i64 (f j : Int)) := by
  rw [cell_of_row w b j _ t (0, 0) h, ia_get f hj]
theorem Ai.free {w : World} {b n : Nat} {t : TypeId} {f : Nat → Nat} (h : Ai w b n t f) (o : Nat) : w.frozen? ⟨b, o, none⟩ = false := frozen_of_row w b o _ t h
theorem Ai.set {w : World} {b n : Nat} {t : TypeId} {f : Nat → Nat} (h : Ai w b n t f) (j z : Nat) : Ai (w.setCell ⟨b, j, none⟩ (.int .i64 (z : Int))) b n t (upd f j z) := by
  unfold Ai
  rw [heap_setCell_same w b j _ t _ h, ia_set]
theorem Ai.apart {w : World} {b n : Nat} {t : TypeId} {f : Nat → Nat} (h : Ai w b n t f) {a : Addr} (ha : b ≠ a.block) (v : Value) : Ai (w.setCell a v) b n t f := (heap_setCell_other w a b v ha).trans h
theorem Ai.row {w : World} {b n : Nat} {t : TypeId} {f : Nat → Nat} (h : Ai w b n t f) (g : Nat → Nat) : Ai (w.setRow b (ia n g)) b n t g := setRow_heap w b _ _ t _ h
theorem Ai.alloc {w : World} {b n : Nat} {t : TypeId} {f : Nat → Nat} (h : Ai w b n t f) (o : Obj) : Ai (w.alloc o) b n t f := (heap_alloc_old w o h.lt).trans h
theorem Ai.new (w : World) (n : Nat) (t : TypeId) (f : Nat → Nat) : Ai (w.alloc (.cells (ia n f) t)) w.heap.size n t f := heap_alloc_new w _
theorem Ai.drew {w : World} {b n : Nat} {t : TypeId} {f : Nat → Nat} (h : Ai w b n t f) : Ai w.drew b n t f := h
theorem Ai.below {w w' : World} {b n B : Nat} {t : TypeId} {f : Nat → Nat} (h : Ai w b n t f) (hb : Below B w w') (hB : b < B) : Ai w' b n t f := (hb.block b hB).trans h
theorem Ai.self {w w' : World} {b n : Nat} {t : TypeId} {f : Nat → Nat} (h : Ai w b n t f) (hb : Below w.heap.size w w') : Ai w' b n t f := h.below hb h.lt
theorem Ai.ext {w : World} {b n : Nat} {t : TypeId} {f g : Nat → Nat} (h : Ai w b n t f) (e : ∀ i, i < n → f i = g i) : Ai w b n t g := by
  unfold Ai at h ⊢; rw [h, ia_ext e]

section prog2
variable {P : Program}
theorem Ai.load {w : World} {b n : Nat} {t : TypeId} {f : Nat → Nat} {e : TypeId} (h : Ai w b n t f) (ty : TypeId) (hu : P.underlying ty = some (.array n e)) (hi : (P.info? ty).map (·.size) = some n) :
    (loadVar ty ⟨b, 0, none⟩).run P w = .ok (.agg (ia n f)) w :=
  run_loadVar_row w b t ty _ (0, 0) _ h hu rfl (by rw [ia_size]; exact hi)
theorem Ai.store {w : World} {b n : Nat} {t : TypeId} {f : Nat → Nat} (h : Ai w b n t f) (ty : TypeId) (g : Nat → Nat) (hi : (P.info? ty).map (·.size) = some n) :
    (storeVar ty ⟨b, 0, none⟩ (.agg (ia n g))).run P w = .ok () (w.setRow b (ia n g)) :=
  run_storeVar_row w b t ty _ _ h (by rw [ia_size]; exact hi) (by rw [ia_size, ia_size]) (ia_one n g)
end prog2

/-! ### returns of arrays -/
/-! ### whole loads and stores, as arms of a walk -/
end Go.Proofs.Ytdgkofnboeepbaa

/- Trace: tallies, and what is opened, by the document. -/
namespace Go.Proofs.Ytdgkofnboeepbaa
open Go.RowKit
set_option maxRecDepth 100000

/-- What stands in a trace's box. -/
structure Tb (w : World) (b : Nat) (N : Int) (v0 v1 : Value) : Prop where
  n : w.cell? ⟨b, 0, none⟩ = some (.int .i64 N)
  o : w.cell? ⟨b, 1, none⟩ = some v0
  s : w.cell? ⟨b, 2, none⟩ = some v1
end Go.Proofs.Ytdgkofnboeepbaa

/- Trace: what is opened, by the document. -/
namespace Go.Proofs.Ytdgkofnboeepbaa
open Go.RowKit
set_option maxRecDepth 100000

structure OI (w1 wr : World) (v : Value) (f : Nat → Op6) (j : Nat) : Prop where
  own : Own .i64 w1.heap.size 3 wr v (opL f j)
  low : Below w1.heap.size w1 wr
end Go.Proofs.Ytdgkofnboeepbaa

/- Trace: are two rows of numbers alike, by the document. -/
namespace Go.Proofs.Ytdgkofnboeepbaa
open Go.RowKit
set_option maxRecDepth 100000
end Go.Proofs.Ytdgkofnboeepbaa

/- Trace: whether it may be, by the document. -/
namespace Go.Proofs.Ytdgkofnboeepbaa
open Go.RowKit
set_option maxRecDepth 100000
structure RI (w1 wr : World) (N : Int) (f : Nat → Op6) (j : Nat) : Prop where
  ok : allB (okO N f) j = true
  low : Below w1.heap.size w1 wr
structure RJ (w1 wr : World) (L : Nat) (g : Nat → Sp3) (j : Nat) : Prop where
  ok : allB (okS L g) j = true
  low : Below w1.heap.size w1 wr
end Go.Proofs.Ytdgkofnboeepbaa

/- Wire: are a trace's words what its ops make? -/
namespace Go.Proofs.Ytdgkofnboeepbaa
open Go.RowKit
set_option maxRecDepth 100000
/-- A row of words that is read, whatever is new. -/
structure Wr (w : World) (v : Value) (L : Nat) (f : Nat → Nat) : Prop where
  at_ : ∃ a cap, v = .slice a L cap ∧ (0 < L → ∃ g off, a = some ⟨g, off, none⟩ ∧ g < w.heap.size ∧ ∀ i, i < L → w.cell? ⟨g, off + i, none⟩ = some (.int .u64 (f i : Int)))
theorem rd_wr {w : World} {v : Value} {L : Nat} {f : Nat → Nat} (h : Rd .u64 w v (wdL f L)) : Wr w v L f := by
  obtain ⟨a, cap, e, _, _, hc⟩ := h
  rw [wdL_len] at e hc
  refine ⟨a, cap, e, fun h0 => ?_⟩
  obtain ⟨g, off, e1, e2, e3⟩ := hc h0
  exact ⟨g, off, e1, e2, fun i hi => by rw [e3 i hi, wdL_nth f hi]⟩
/-- What the law's loop holds: the trace's box, the machine's box. -/
structure Hb (W wr : World) (n bm : Nat) (A B : Array Value) : Prop where
  one : wr.heap[n]? = some (.cells A 73 (0, 0))
  two : wr.heap[bm]? = some (.cells B 46 (0, 0))
  low : Below W.heap.size W wr
theorem Hb.self {W wr wy : World} {n bm : Nat} {A B : Array Value} (h : Hb W wr n bm A B) (hb : Below wr.heap.size wr wy) : Hb W wy n bm A B :=
  ⟨(hb.block _ (Array.getElem?_eq_some_iff.1 h.one).1).trans h.one, (hb.block _ (Array.getElem?_eq_some_iff.1 h.two).1).trans h.two, h.low.trans (hb.mono h.low.size)⟩
abbrev hmC (v : Value) : Array Value := #[.int .i64 0, .int .i64 0, .int .i64 0, .int .i64 0, .int .i64 0, .int .i64 0, .int .i64 0, .int .i64 0, .slice none 0 0, .slice none 0 0, v, .slice none 0 0, .int .i64 0, .int .i64 0, .bool false]
/-- What a round holds. -/
structure Hr (W wr : World) (n bm : Nat) (A : Array Value) (v : Value) (bo : Nat) (o : Op6) (gv ov L : Nat) (vv : Nat → Nat) : Prop where
  b : Hb W wr n bm A (hmC v)
  op : wr.heap[bo]? = some (.cells (opCs o) 95 (0, 0))
  word : ∀ i, i < L → wr.cell? ⟨gv, ov + i, none⟩ = some (.int .u64 (vv i : Int))
theorem Hr.self {W wr wy : World} {n bm : Nat} {A : Array Value} {v : Value} {bo : Nat} {o : Op6} {gv ov L : Nat} {vv : Nat → Nat} (h : Hr W wr n bm A v bo o gv ov L vv) (hb : Below wr.heap.size wr wy) : Hr W wy n bm A v bo o gv ov L vv :=
  ⟨h.b.self hb, (hb.block _ (Array.getElem?_eq_some_iff.1 h.op).1).trans h.op, fun i hi => tcell_self (h.word i hi) hb⟩
theorem Hr.drew {W wr : World} {n bm : Nat} {A : Array Value} {v : Value} {bo : Nat} {o : Op6} {gv ov L : Nat} {vv : Nat → Nat} (h : Hr W wr n bm A v bo o gv ov L vv) : Hr W wr.drew n bm A v bo o gv ov L vv := h.self ((Below.refl _ _).drew)
end Go.Proofs.Ytdgkofnboeepbaa

/- Share: what a word stands for, by the document; words that are picked. -/
namespace Go.Proofs.Ytdgkofnboeepbaa
open Go.RowKit
set_option maxRecDepth 100000
set_option maxHeartbeats 3200000 in
theorem rvalue_any (v : Value) (vv : Nat → Nat) (L : Nat) (A : Nat → Int) (w : World) (h : Rd .u64 w v (wdL vv L)) (hv : ∀ i, i < L → vv i < 2 ^ 64) :
    Calls Try.prog 12 #[v, .agg (wdV A)] w fun e w' => e = .returned (.int .u64 (vlN vv L A : Nat)) ∧ Below w.heap.size w w' := by
  obtain ⟨a, cap, rfl, hp⟩ := (rd_wr h).at_
  obtain ⟨w1, hw1⟩ : ∃ w1, w.alloc (.cells (wdV A) 33) = w1 := ⟨_, rfl⟩
  have HB1 : Hid (Below w.heap.size w w1) := hid (by rw [← hw1]; exact (Below.refl _ _).alloc (Nat.le_refl _) _)
  have HX1 : Hid (w1.heap[w.heap.size]? = some (.cells (wdV A) 33 (0, 0))) := hid (by rw [← hw1]; exact heap_alloc_new _ _)
  have HW1 := hid hw1
  have HP := hid hp
  have HV := hid (vlP_lt hv A)
  have HV2 := hid hv
  clear h hp hw1 hv
  go_enter Try.func12, Try.ntmps12
  go_upto_region 1 with fail
  rw [HW1.out]
  go_wp2
  go_loopw [5, 6] (fun x i wr => ∃ m : Nat, m ≤ 3 ∧ i = .int .i64 m ∧ x = .int .u64 (vlP vv L A m : Nat) ∧ Below w1.heap.size w1 wr) (fun _ i _ => 3 - (intOf i).toNat)
  case atStart => exact ⟨0, by omega, rfl, rfl, Below.refl _ _⟩
  case round =>
    obtain ⟨m, hm, rfl, rfl, hI⟩ := hrel
    have HI := hid hI
    clear hI
    by_cases hlt : m < 3
    · have j1 : (0 : Int) ≤ (m : Int) := by omega
      have j2 : (m : Int) < 3 := by omega
      have ca : wr.cell? ⟨w.heap.size, m, none⟩ = some (.int .i64 (A m)) := tcell_self (row_c HX1.out (wdV_at A m hlt)) HI.out
      have HS : Hid (vlP vv L A (m + 1) = vlP vv L A m ^^^ wordAt vv L (A m)) := hid rfl
      have hxl := HV.out m
      by_cases h0 : A m < 0
      · have q1 : decide (0 ≤ A m) = false := decide_eq_false (by omega)
        have hz : wordAt vv L (A m) = 0 := if_neg (by omega)
        have HE : Hid (vlP vv L A (m + 1) = vlP vv L A m) := hid (by rw [HS.out, hz, Nat.xor_zero])
        clear hz h0
        generalize A m = z at *
        go_wp2
        go_roundw
        case rel => exact ⟨m + 1, by omega, by go_num, by rw [HE.out], HI.out⟩
        case measure => simp [intOf]; omega
      · have q1 : decide (0 ≤ A m) = true := decide_eq_true (by omega)
        by_cases h1 : A m < (L : Int)
        · obtain ⟨z, hz⟩ := Int.eq_ofNat_of_zero_le (by omega : 0 ≤ A m)
          have hzL : z < L := by omega
          obtain ⟨g, off, rfl, hg, hc⟩ := HP.out (by omega)
          have cz : wr.cell? ⟨g, off + z, none⟩ = some (.int .u64 (vv z : Int)) := tcell_self (hc z hzL) (HB1.out.trans (HI.out.mono HB1.out.size))
          have hw : wordAt vv L (A m) = vv z := by unfold wordAt; rw [if_pos ⟨by omega, h1⟩, hz]; simp
          have hvz := HV2.out z hzL
          have hx := wx64 hxl hvz
          have HE : Hid (vlP vv L A (m + 1) = vlP vv L A m ^^^ vv z) := hid (by rw [HS.out, hw])
          rw [hz] at ca q1 h1
          clear hw hc hz h0 HS
          have c1 : (0 : Int) ≤ (z : Int) := by omega
          have c2 : (z : Int) < (L : Int) := by omega
          generalize vlP vv L A m ^^^ vv z = r at *
          generalize vlP vv L A m = y at *
          generalize vv z = u at *
          go_wp2
          go_roundw
          case rel => exact ⟨m + 1, by omega, by go_num, by rw [HE.out], HI.out⟩
          case measure => simp [intOf]; omega
        · have q2 : decide (A m < (L : Int)) = false := decide_eq_false h1
          have hz : wordAt vv L (A m) = 0 := if_neg (by omega)
          have HE : Hid (vlP vv L A (m + 1) = vlP vv L A m) := hid (by rw [HS.out, hz, Nat.xor_zero])
          clear hz h0 h1
          generalize A m = z at *
          go_wp2
          go_roundw
          case rel => exact ⟨m + 1, by omega, by go_num, by rw [HE.out], HI.out⟩
          case measure => simp [intOf]; omega
    · obtain rfl : m = 3 := by omega
      go_wp2
      go_ret
      exact ⟨rfl, HB1.out.trans (HI.out.mono HB1.out.size)⟩
end Go.Proofs.Ytdgkofnboeepbaa

/- Share: are both machines alike? -/
namespace Go.Proofs.Ytdgkofnboeepbaa
open Go.RowKit
set_option maxRecDepth 100000
/-- A pair's cells. -/
abbrev paC (p b : Nat) (lv vv : Value) : Array Value := #[.pointer (some ⟨p, 0, none⟩), .pointer (some ⟨b, 0, none⟩), lv, vv]
end Go.Proofs.Ytdgkofnboeepbaa

/- Share: words, by the document. -/
namespace Go.Proofs.Ytdgkofnboeepbaa
open Go.RowKit
set_option maxRecDepth 100000
theorem step_load_row {P : Program} {w : World} {ops : Array Oper} {rest : List Oper} {o : Oper} {a : Act} {Q : Exit → Act → World → Prop} (hgd : o.guard = none) (ty : TypeId) (x : Operand) (ho : o.op = .load ty x)
    (b : Nat) (t : TypeId) (cs : Array Value) (d : TypeDesc) (hx : a.eval x = .pointer (some ⟨b, 0, none⟩)) (hA : w.heap[b]? = some (.cells cs t (0, 0))) (hu : P.underlying ty = some d) (hag : (match d with | .struct _ | .array _ _ => true | _ => false) = true) (hi : (P.info? ty).map (·.size) = some cs.size)
    (k : wpList P ops Q rest (a.put o.dst (.agg cs)) w) : wpList P ops Q (o :: rest) a w :=
  wpList_plain hgd fun _ hK => by
    unfold Oper.wp execOp
    simp only [ho, hx, Instr.loadAt, Instr.sureAddr, Sem.run_bind, Sem.run_pure, Result.andThen_ok, run_loadVar_row w b t ty cs (0, 0) d hA hu hag hi]
    exact hK _ _ k
theorem eaS_0 (S : Ms) (op : Nat → Op6) (m : Nat) : eaS S op 0 (m + 1) = (eaS S op 0 m).doS (op m) 0 := by rw [eaS, Nat.zero_add]
theorem eaR_0 (S : Ms) (op : Nat → Op6) (W : Nat → Int) (m : Nat) : eaR S op 0 W (m + 1) = updI (eaR S op 0 W m) m ((eaS S op 0 m).doR (op m)) := by rw [eaR, Nat.zero_add]
end Go.Proofs.Ytdgkofnboeepbaa

/- Wire: an act of both machines. -/
namespace Go.Proofs.Ytdgkofnboeepbaa
open Go.RowKit
set_option maxRecDepth 100000
section
variable {Pm : World → Nat → Ms → (Nat → Prop) → Prop} {lo n : Nat} {X : Nat → Prop} {W wx wy : World} {a : Act8} {p b : Nat} {S1 S2 S1' S2' : Ms}
end
end Go.Proofs.Ytdgkofnboeepbaa

/- Wire: an act of both machines: a word is opened; any act. -/
namespace Go.Proofs.Ytdgkofnboeepbaa
open Go.RowKit
set_option maxRecDepth 100000
end Go.Proofs.Ytdgkofnboeepbaa

/- Wire: WirePlays, over what the program's machine tells. -/
namespace Go.Proofs.Ytdgkofnboeepbaa
open Go.RowKit
set_option maxRecDepth 100000
/-- Both machines begin. -/
theorem Bz.begun {Pm : World → Nat → Ms → (Nat → Prop) → Prop} {lo : Nat} {G F : Nat → Prop} {W wx : World} {p b : Nat} {S1 S2 : Ms} {tv : Value} (h1 : Pm wx p S1 F) (h2 : Dm ⟨lo, G⟩ wx b S2 (.slice none 0 0) (.slice none 0 0) (.slice none 0 0) tv) (hF : ∀ k, F k → lo ≤ k ∧ k ≠ b ∧ ¬ G k) (hG : ∀ k, G k → k < wx.heap.size) (h6 : Below lo W wx) (h7 : lo ≤ wx.heap.size) : Bz Pm lo (fun _ => False) W wx p b S1 S2 := by
  refine ⟨F, G, _, _, _, _, h1, h2, fun k hk => ⟨(hF k hk).1, fun e => ?_, (hF k hk).2.2, fun e => e⟩, fun k hk => hk.elim, hG, h6, h7⟩
  rcases e with e | e | e | e
  · exact (hF k hk).2.1 e
  · simp [Value.ownBlock] at e
  · simp [Value.ownBlock] at e
  · simp [Value.ownBlock] at e
/-- What the law's loop holds. -/
structure Wp (Pm : World → Nat → Ms → (Nat → Prop) → Prop) (W wr : World) (p b k : Nat) (S1 S : Ms) : Prop where
  z : Bz Pm W.heap.size (fun _ => False) W wr p b S1 S
  q : Bq k S
theorem Wp.self {Pm : World → Nat → Ms → (Nat → Prop) → Prop} (hM : Mach Pm) {W wr wy : World} {p b k : Nat} {S1 S : Ms} (h : Wp Pm W wr p b k S1 S) (hb : Below wr.heap.size wr wy) : Wp Pm W wy p b k S1 S := ⟨h.z.self hM hb, h.q⟩
end Go.Proofs.Ytdgkofnboeepbaa

/- Share: a pair of machines begins. -/
namespace Go.Proofs.Ytdgkofnboeepbaa
open Go.RowKit
set_option maxRecDepth 100000
set_option maxHeartbeats 6400000 in
theorem lbegins_any {Pm : World → Nat → Ms → (Nat → Prop) → Prop} (hM : Mach Pm) (hN : MachN Pm) (n most : Int) (hn : n = 2 ∨ n = 3) (hm : 0 ≤ most) (hm2 : most ≤ 1048576) (tw : Nat → Nat) (TN : Nat) (mv : Value) (w : World) (h : RdS .u64 w (fun g => g < w.heap.size) mv (wdL tw TN)) :
    Calls Try.prog 6 #[.int .i64 n, mv, .int .i64 most] w fun e w' => ∃ p b, e = .returned (.tuple #[.agg (paC p b (.slice none 0 0) (.slice none 0 0)), .bool true]) ∧ Bz Pm w.heap.size (fun _ => False) w w' p b (startD n most tw TN 0 TN) (startD n most tw TN 0 TN) := by
  obtain ⟨ma, mc, rfl, hm0⟩ := id h
  rw [wdL_len] at h
  have HT := hid (fun (w : World) (h : Rd .u64 w (.slice ma TN mc) (wdL tw TN)) => new_any _ _ w h)
  have HR : Hid (∀ lo hi b w, TapeAt w lo hi b (wdL tw TN) 0 0 → Calls Try.prog 15 #[.pointer (some ⟨b, 0, none⟩), .int .i64 (TN : Int)] w fun r w' => r = .returned (.int .i64 0) ∧ TapeAt w' lo hi b (wdL tw TN) 0 TN ∧ Only b w w') := hid (fun lo hi b w h => by have := reserve_ok lo hi b _ 0 0 TN w h (by rw [wdL_len]; omega); rw [Nat.zero_add] at this; exact this)
  have HN := hid hN
  have HN23 := hid hn
  have HM0 := hid (And.intro hm hm2)
  obtain ⟨w0, hw0⟩ : ∃ w0, w.alloc (.cells #[.pointer none, .pointer none, .slice none 0 0, .slice none 0 0] 28) = w0 := ⟨_, rfl⟩
  have B0 : Hid (Below w.heap.size w w0) := hid (by rw [← hw0]; exact (Below.refl _ _).alloc (Nat.le_refl _) _)
  have HX0 : Hid (w0.heap[w.heap.size]? = some (.cells #[.pointer none, .pointer none, .slice none 0 0, .slice none 0 0] 28 (0, 0))) := hid (by rw [← hw0]; exact heap_alloc_new _ _)
  have HS0 : Hid (w0.heap.size = w.heap.size + 1) := hid (by rw [← hw0]; simp)
  have HRD : Hid (∀ w', Below w.heap.size w w' → RdS .u64 w' (fun g => g < w.heap.size) (.slice ma TN mc) (wdL tw TN)) := hid (fun w' hb => rds_self h hb)
  have HW0 := hid hw0
  rw [wdL_len]
  clear h hm0 hN hn hm hm2 hw0
  go_enter Try.func6, Try.ntmps6
  go_upto_region 1 with fail
  rw [HW0.out]
  go_upto_region 4 with (first
    | (go_at_call 14; (with_reducible refine (HT.out _ (HRD.out _ B0.out).rd).mono ?_); rintro e w2 ⟨q, rfl, ht, hb⟩; have B2 := hid (B0.out.trans (hb.mono B0.out.size)); have T2 := hid ht; have HX2 := hid ((hb.block _ (Array.getElem?_eq_some_iff.1 HX0.out).1).trans HX0.out); clear ht hb)
    | (go_at_call 15; (with_reducible refine (HR.out _ _ _ _ T2.out).mono ?_); rintro e w3 ⟨rfl, ht, ho⟩; have B3 := hid (B2.out.trans (ho.below (by have := T2.out.lt; have := B0.out.size; omega) B2.out.size)); have T3 := hid ht; have HX3 := hid ((ho.block _ (Array.getElem?_eq_some_iff.1 HX2.out).1 (by have := T2.out.lt; have := HS0.out; omega)).trans HX2.out); clear ht ho)
    | (go_at_call 16; (with_reducible refine (HN.out.new _ _ _ 0 TN n most tw TN _ T3.out HN23.out HM0.out.1 HM0.out.2).mono ?_); rintro e w4 ⟨p, rfl, hb, F, hp, hF⟩; have B4 := hid (B3.out.trans (hb.mono B3.out.size)); have P4 := hid hp; have HX4 := hid ((hb.block _ (Array.getElem?_eq_some_iff.1 HX3.out).1).trans HX3.out); have F4 : Hid (∀ k, F k → w.heap.size < k) := hid (fun k hk => by have := hF k hk; have := HS0.out; have := B3.out.size; have := (Array.getElem?_eq_some_iff.1 HX3.out).1; omega); clear hp hF hb))
  go_wp2_with (first
    | (go_at_call 17; (with_reducible refine (dnew_any ⟨w.heap.size, fun g => g < w.heap.size⟩ n most tw TN (.slice ma TN mc) _ (HRD.out _ B4.out) B4.out.size).mono ?_); rintro e w5 ⟨rfl, hd, hb⟩; have B5 := hid (B4.out.trans (hb.mono B4.out.size)); have D5 := hid hd; have P5 := hid (hM.stays P4.out hb.size (fun k hk => hb.block k (hM.lt P4.out k hk))); have HX5 := hid ((hb.block _ (Array.getElem?_eq_some_iff.1 HX4.out).1).trans HX4.out); have HL5 := hid hb.size; clear hd hb)
    | (refine step_store_row rfl 28 _ _ rfl w.heap.size 28 _ (paC p w4.heap.size (.slice none 0 0) (.slice none 0 0)) rfl rfl HX5.out (by kernel_rfl) rfl (by kernel_rfl) ?_))
  refine ret_row_tmp rfl rfl (setRow_heap _ _ _ _ _ _ HX5.out) Try.underlying28 rfl (by kernel_rfl) rfl ?_
  refine ⟨p, w4.heap.size, rfl, ?_⟩
  have hne : w4.heap.size ≠ w.heap.size := by have := (Array.getElem?_eq_some_iff.1 HX4.out).1; omega
  have hz : ∀ k, k ≠ w.heap.size → (w5.setRow w.heap.size (paC p w4.heap.size (.slice none 0 0) (.slice none 0 0))).heap[k]? = w5.heap[k]? := fun k hk => setRow_other w5 w.heap.size k _ hk
  have hsz : (w5.setRow w.heap.size (paC p w4.heap.size (.slice none 0 0) (.slice none 0 0))).heap.size = w5.heap.size := by simp [World.setRow]
  refine Bz.begun (G := fun g => g < w.heap.size) (F := F) (tv := .slice ma TN mc) (hM.stays P5.out (by rw [hsz]; exact Nat.le_refl _) (fun k hk => hz k (by have := F4.out k hk; omega))) (Dm.stays D5.out (by rw [hsz]; exact Nat.le_refl _) (fun k hk => hz k ?_) (fun k hk _ => hz k (by have hk' : k < w.heap.size := hk; omega))) (fun k hk => ⟨by have := F4.out k hk; omega, by have := hM.lt P4.out k hk; omega, by have := F4.out k hk; show ¬ k < w.heap.size; omega⟩) (fun k hk => by have hk' : k < w.heap.size := hk; have := B5.out.size; rw [hsz]; omega) (below_setRow B5.out (Nat.le_refl _) _) (by rw [hsz]; exact B5.out.size)
  rcases hk with e | e | e | e
  · omega
  · simp [Value.ownBlock] at e
  · simp [Value.ownBlock] at e
  · simp [Value.ownBlock] at e
end Go.Proofs.Ytdgkofnboeepbaa

/- Share: words, by the document: xor, one op, not, add. -/
namespace Go.Proofs.Ytdgkofnboeepbaa
open Go.RowKit
set_option maxRecDepth 100000
end Go.Proofs.Ytdgkofnboeepbaa

/- Share: words, by the document: not, add, encode. -/
namespace Go.Proofs.Ytdgkofnboeepbaa
open Go.RowKit
set_option maxRecDepth 100000
end Go.Proofs.Ytdgkofnboeepbaa

/- Share: words, by the document: encode. -/
namespace Go.Proofs.Ytdgkofnboeepbaa
open Go.RowKit
set_option maxRecDepth 100000
end Go.Proofs.Ytdgkofnboeepbaa

/- Share: the law's picks and moves. -/
namespace Go.Proofs.Ytdgkofnboeepbaa
open Go.RowKit
set_option maxRecDepth 100000
end Go.Proofs.Ytdgkofnboeepbaa

/- Share: what the program's functions of words must tell, over any machine. -/
namespace Go.Proofs.Ytdgkofnboeepbaa
open Go.RowKit
set_option maxRecDepth 100000
/-- The program's gadgets of words, whatever its machine is made of. -/
structure ShI (Pm : World → Nat → Ms → (Nat → Prop) → Prop) : Prop where
  enc : ∀ (b k : Nat) (S : Ms) (F : Nat → Prop) (x : Nat) (w : World), Pm w b S F → Bq k S → k + 10 ≤ 100000 → (S.n = 2 ∨ S.n = 3) → x < 2 ^ 64 → Calls Try.prog 13 #[.pointer (some ⟨b, 0, none⟩), .int .u64 (x : Int)] w fun e w' => e = .returned (.agg (wdV (encR S))) ∧ PmR Pm b (encS S x) F w w'
  pub : ∀ (b k : Nat) (S : Ms) (F : Nat → Prop) (c : Nat) (w : World), Pm w b S F → Bq k S → k + 10 ≤ 100000 → (S.n = 2 ∨ S.n = 3) → c < 2 ^ 64 → Calls Try.prog 21 #[.pointer (some ⟨b, 0, none⟩), .int .u64 (c : Int)] w fun e w' => e = .returned (.agg (wdV (cstR S 3 c))) ∧ PmR Pm b (cstS S 3 c) F w w'
  told : ∀ (b k : Nat) (S : Ms) (F : Nat → Prop) (c : Nat) (w : World), Pm w b S F → Bq k S → k + 10 ≤ 100000 → (S.n = 2 ∨ S.n = 3) → c < 2 ^ 64 → Calls Try.prog 19 #[.pointer (some ⟨b, 0, none⟩), .int .u64 (c : Int)] w fun e w' => e = .returned (.agg (wdV (cstR S 4 c))) ∧ PmR Pm b (cstS S 4 c) F w w'
  xor : ∀ (b k : Nat) (S : Ms) (F : Nat → Prop) (A B : Nat → Int) (w : World), Pm w b S F → Bq k S → k + 10 ≤ 100000 → (S.n = 2 ∨ S.n = 3) → Wb A → Wb B → Calls Try.prog 23 #[.pointer (some ⟨b, 0, none⟩), .agg (wdV A), .agg (wdV B)] w fun e w' => e = .returned (.agg (wdV (xorR S A B))) ∧ PmR Pm b (xorS S A B) F w w'
  not : ∀ (b k : Nat) (S : Ms) (F : Nat → Prop) (A : Nat → Int) (w : World), Pm w b S F → Bq k S → k + 10 ≤ 100000 → (S.n = 2 ∨ S.n = 3) → Wb A → Calls Try.prog 25 #[.pointer (some ⟨b, 0, none⟩), .agg (wdV A)] w fun e w' => e = .returned (.agg (wdV (notR S A))) ∧ PmR Pm b (notS S A) F w w'
  one : ∀ (b k : Nat) (S : Ms) (F : Nat → Prop) (K : Int) (A : Nat → Int) (c : Nat) (w : World), Pm w b S F → Bq k S → k + 10 ≤ 100000 → (S.n = 2 ∨ S.n = 3) → I64 K → Wb A → c < 2 ^ 64 → Calls Try.prog 27 #[.pointer (some ⟨b, 0, none⟩), .int .i64 K, .agg (wdV A), .int .u64 (c : Int)] w fun e w' => e = .returned (.agg (wdV (oneR S K A c))) ∧ PmR Pm b (oneS S K A c) F w w'
  add : ∀ (b k : Nat) (S : Ms) (F : Nat → Prop) (A : Nat → Int) (c : Nat) (w : World), Pm w b S F → Bq k S → k + 10 ≤ 100000 → (S.n = 2 ∨ S.n = 3) → Wb A → c < 2 ^ 64 → Calls Try.prog 30 #[.pointer (some ⟨b, 0, none⟩), .agg (wdV A), .int .u64 (c : Int)] w fun e w' => e = .returned (.agg (wdV (addR S 3 A c))) ∧ PmR Pm b (addS S 3 A c) F w w'
  addTold : ∀ (b k : Nat) (S : Ms) (F : Nat → Prop) (A : Nat → Int) (c : Nat) (w : World), Pm w b S F → Bq k S → k + 10 ≤ 100000 → (S.n = 2 ∨ S.n = 3) → Wb A → c < 2 ^ 64 → Calls Try.prog 32 #[.pointer (some ⟨b, 0, none⟩), .agg (wdV A), .int .u64 (c : Int)] w fun e w' => e = .returned (.agg (wdV (addR S 4 A c))) ∧ PmR Pm b (addS S 4 A c) F w w'
  value : ∀ (v : Value) (vv : Nat → Nat) (L : Nat) (A : Nat → Int) (w : World), Rd .u64 w v (wdL vv L) → (∀ i, i < L → vv i < 2 ^ 64) → Calls Try.prog 10 #[v, .agg (wdV A)] w fun e w' => e = .returned (.int .u64 (vlN vv L A : Nat)) ∧ Below w.heap.size w w'
section
variable {Pm : World → Nat → Ms → (Nat → Prop) → Prop} (hM : Mach Pm) (hS : ShI Pm) {lo : Nat} {X : Nat → Prop} {W w : World} {b bd k : Nat} {S S2 : Ms}
include hM hS
theorem qpub (c : Nat) (h : Bz Pm lo X W w b bd S S2) (hq : Bq k S) (hk : k + 10 ≤ 100000) (hn : S.n = 2 ∨ S.n = 3) (g0 : c < 2 ^ 64) :
    Calls Try.prog 21 #[.pointer (some ⟨b, 0, none⟩), .int .u64 (c : Int)] w fun e w' => e = .returned (.agg (wdV (cstR S 3 c))) ∧ Bz Pm lo X W w' b bd (cstS S 3 c) S2 ∧ ∀ k, X k → w'.heap[k]? = w.heap[k]? := by
  obtain ⟨F, G, ov, bv, vv, tv, h1, h2, h3, h4, h5, h6, h7⟩ := h
  exact (hS.pub b k S F c w h1 hq hk hn g0).mono fun e w' hr => ⟨hr.1, Bz.prog hM h1 h2 h3 h4 h5 h6 h7 hr.2⟩
end
end Go.Proofs.Ytdgkofnboeepbaa

/- General: a slice of acts (four ints, a word) that comes in. No program is named. -/
namespace Go.Proofs.Ytdgkofnboeepbaa
open Go.ChangeShapes Go.WideShapes Go.ChangeAt Go.RowKit Go.Deep

/-- An act: its kind, three numbers, a word. -/
structure Ac5 where
  K : Int
  A : Int
  B : Int
  D : Int
  C : Nat
abbrev ac5 (a : Ac5) : Array Value := #[.int .i64 a.K, .int .i64 a.A, .int .i64 a.B, .int .i64 a.D, .int .u64 (a.C : Int)]
/-- v reads as the L acts f. -/
structure RA5 (w : World) (v : Value) (L : Nat) (f : Nat → Ac5) : Prop where
  lim : L ≤ 3600000000000
  wf : ∀ i, i < L → (f i).C < 2 ^ 64
  at_ : ∃ a cap, v = .slice a L cap ∧ L ≤ cap ∧ cap ≤ maxLen ∧ (0 < L → ∃ b off, a = some ⟨b, off, none⟩ ∧ b < w.heap.size ∧ ∀ i, i < L → w.rangeAt b (off + i * 5) (ac5 (f i)).toList)
theorem rng_self {w w' : World} {b o : Nat} {cs : List Value} (h : w.rangeAt b o cs) (hlt : b < w.heap.size) (hb : Below w.heap.size w w') : w'.rangeAt b o cs := fun j v hv => by
  rw [World.cell?_of_block (a := ⟨b, o + j, none⟩) (hb.block b hlt)]; exact h j v hv
theorem RA5.self {w w' : World} {v : Value} {L : Nat} {f : Nat → Ac5} (h : RA5 w v L f) (hb : Below w.heap.size w w') : RA5 w' v L f := by
  obtain ⟨a, cap, h1, h2, h3, h4⟩ := h.at_
  refine ⟨h.lim, h.wf, a, cap, h1, h2, h3, fun h0 => ?_⟩
  obtain ⟨b, off, e1, e2, e3⟩ := h4 h0
  exact ⟨b, off, e1, Nat.lt_of_lt_of_le e2 hb.size, fun i hi => rng_self (e3 i hi) e2 hb⟩
end Go.Proofs.Ytdgkofnboeepbaa
