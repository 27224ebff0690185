import Derived.Test.YtflfnaiklnbaiaaWdc
import Derived.Test.YtflfnaiklnbaiaaProg
import Derived.Test.YtflfnaiklnbaiaaWif
import Derived.Test.YtflfnaiklnbaiaaGen
import Derived.Laws.Rows
import Derived.Laws.Tables
import Derived.Laws.StructEq
import Derived.ChangeKeysEq
import Derived.Deep.WholeRow
import Derived.Test.YtflfnaiklnbaiaaWdf
import Derived.Test.YtflfnaiklnbaiaaTrm
import Derived.Deep.CutRange
import Derived.Deep.CutBlock
/- General: words as shares, as numbers: registers that are made share by share. No program is named. -/
namespace Go.Proofs.Ytflfnaiklnbaiaa

def updI (W : Nat → Int) (j : Nat) (z : Int) : Nat → Int := fun i => if i = j then z else W i
theorem updI_at (W : Nat → Int) (j : Nat) (z : Int) : updI W j z j = z := by simp [updI]
theorem updI_no (W : Nat → Int) {j i : Nat} (z : Int) (h : i ≠ j) : updI W j z i = W i := by simp [updI, h]
/-- A number that an int holds. -/
def I64 (z : Int) : Prop := -9223372036854775808 ≤ z ∧ z ≤ 9223372036854775807
def Wb (W : Nat → Int) : Prop := ∀ i, I64 (W i)
theorem I64.m1 : I64 (-1) := by unfold I64; omega
theorem Wb.upd {W : Nat → Int} (h : Wb W) {j : Nat} {z : Int} (hz : I64 z) : Wb (updI W j z) := fun i => by
  by_cases e : i = j
  · subst e; rw [updI_at]; exact hz
  · rw [updI_no _ _ e]; exact h i
theorem doR_bd {k : Nat} {S : Ms} (h : Bq k S) (hk : k ≤ 1000000) (o : Op6) : I64 (S.doR o) := by
  have := h.len
  unfold Ms.doR I64
  split <;> omega
/-- The machine behind m ops, op (lo) .. op (lo + m - 1), without outside words. -/
def eaS (S : Ms) (op : Nat → Op6) (lo : Nat) : Nat → Ms
  | 0 => S
  | m + 1 => (eaS S op lo m).doS (op (lo + m)) 0
/-- The registers that they make. -/
def eaR (S : Ms) (op : Nat → Op6) (lo : Nat) (W : Nat → Int) : Nat → Nat → Int
  | 0 => W
  | m + 1 => updI (eaR S op lo W m) (lo + m) ((eaS S op lo m).doR (op (lo + m)))
theorem eaS_bq {k : Nat} {S : Ms} (h : Bq k S) {op : Nat → Op6} (lo : Nat) : ∀ m, (∀ j, j < m → opwf (op (lo + j))) → Bq (k + m) (eaS S op lo m)
  | 0, _ => h
  | m + 1, ho => (eaS_bq h lo m (fun j hj => ho j (by omega))).does (ho m (by omega)) (by decide)
theorem eaS_n (S : Ms) (op : Nat → Op6) (lo : Nat) : ∀ m, (eaS S op lo m).n = S.n
  | 0 => rfl
  | m + 1 => by rw [eaS, doS_n, eaS_n S op lo m]
theorem eaR_wb {k : Nat} {S : Ms} (h : Bq k S) {op : Nat → Op6} (lo : Nat) {W : Nat → Int} (hW : Wb W) : ∀ m, (∀ j, j < m → opwf (op (lo + j))) → k + m ≤ 1000000 → Wb (eaR S op lo W m)
  | 0, _, _ => hW
  | m + 1, ho, hk => (eaR_wb h lo hW m (fun j hj => ho j (by omega)) (by omega)).upd (doR_bd (eaS_bq h lo m (fun j hj => ho j (by omega))) (by omega) _)
/-- How many shares. -/
def Ms.sh (S : Ms) : Nat := S.n.toNat
def none3 : Nat → Int := fun _ => -1
theorem none3_wb : Wb none3 := fun _ => I64.m1
/-! ### the gadgets of words -/
theorem i64c (z : Int) (h : 0 ≤ z) (h2 : z ≤ 1000) : -9223372036854775808 ≤ z ∧ z ≤ 9223372036854775807 := by omega
end Go.Proofs.Ytflfnaiklnbaiaa

/- Share: words, by the document: boxes beside two machines. -/
namespace Go.Proofs.Ytflfnaiklnbaiaa
open Go.RowKit
set_option maxRecDepth 100000
abbrev wdV (W : Nat → Int) : Array Value := #[.int .i64 (W 0), .int .i64 (W 1), .int .i64 (W 2)]
theorem wdV_upd (W : Nat → Int) (j : Nat) (z : Int) (hj : j < 3) : (wdV W).setIfInBounds j (.int .i64 z) = wdV (updI W j z) := by
  rcases (by omega : j = 0 ∨ j = 1 ∨ j = 2) with rfl | rfl | rfl <;> simp [wdV, updI]
theorem wdV_at (W : Nat → Int) (j : Nat) (hj : j < 3) : (wdV W)[j]? = some (.int .i64 (W j)) := by
  rcases (by omega : j = 0 ∨ j = 1 ∨ j = 2) with rfl | rfl | rfl <;> rfl
/-- Both machines, and boxes of words (new since w0) beside them; X0: what is left alone. -/
structure Gz (Pm : World → Nat → Ms → (Nat → Prop) → Prop) (lo : Nat) (X0 : Nat → Prop) (W w0 wx : World) (p b : Nat) (S1 S2 : Ms) (bs : List (Nat × Array Value)) : Prop where
  z : Bz Pm lo (fun k => X0 k ∨ ∃ q ∈ bs, q.1 = k) W wx p b S1 S2
  bx : ∀ q ∈ bs, w0.heap.size ≤ q.1 ∧ wx.heap[q.1]? = some (.cells q.2 39 (0, 0))
  st : ∀ k, X0 k → k < w0.heap.size ∧ wx.heap[k]? = w0.heap[k]?
  lo : lo ≤ w0.heap.size
section
variable {Pm : World → Nat → Ms → (Nat → Prop) → Prop} {lo : Nat} {X0 : Nat → Prop} {W w0 wx wy : World} {p b : Nat} {S1 S2 S1' S2' : Ms} {bs : List (Nat × Array Value)}
theorem Gz.start (h : Bz Pm lo X0 W w0 p b S1 S2) : Gz Pm lo X0 W w0 w0 p b S1 S2 [] := by
  have hX : ∀ k, X0 k → k < w0.heap.size := by
    obtain ⟨F, G, ov, bv, vv, tv, h1, h2, h3, h4, h5, h6, h7⟩ := h
    exact fun k hk => (h4 k hk).1
  refine ⟨h.less (fun k hk => ?_), fun q hq => (List.not_mem_nil hq).elim, fun k hk => ⟨hX k hk, rfl⟩, h.los⟩
  rcases hk with e | ⟨q, hq, _⟩
  · exact e
  · exact (List.not_mem_nil hq).elim
theorem Gz.self (hM : Mach Pm) (h : Gz Pm lo X0 W w0 wx p b S1 S2 bs) (hb : Below wx.heap.size wx wy) : Gz Pm lo X0 W w0 wy p b S1 S2 bs :=
  ⟨h.z.self hM hb, fun q hq => ⟨(h.bx q hq).1, (hb.block _ (Array.getElem?_eq_some_iff.1 (h.bx q hq).2).1).trans (h.bx q hq).2⟩, fun k hk => ⟨(h.st k hk).1, (hb.block k (by
    obtain ⟨F, G, ov, bv, vv, tv, h1, h2, h3, h4, h5, h6, h7⟩ := h.z
    exact (h4 k (.inl hk)).1)).trans (h.st k hk).2⟩, h.lo⟩
/-- A machine goes on. -/
theorem Gz.on {p' : Nat} (h : Gz Pm lo X0 W w0 wx p b S1 S2 bs) (hz : Bz Pm lo (fun k => X0 k ∨ ∃ q ∈ bs, q.1 = k) W wy p' b S1' S2') (hs : ∀ k, (X0 k ∨ ∃ q ∈ bs, q.1 = k) → wy.heap[k]? = wx.heap[k]?) : Gz Pm lo X0 W w0 wy p' b S1' S2' bs :=
  ⟨hz, fun q hq => ⟨(h.bx q hq).1, (hs _ (.inr ⟨q, hq, rfl⟩)).trans (h.bx q hq).2⟩, fun k hk => ⟨(h.st k hk).1, (hs k (.inl hk)).trans (h.st k hk).2⟩, h.lo⟩
/-- The first box is turned. -/
theorem Gz.cell (hM : Mach Pm) {n : Nat} {cs : Array Value} (h : Gz Pm lo X0 W w0 wx p b S1 S2 ((n, cs) :: bs)) (hn : ∀ q ∈ bs, q.1 ≠ n) (i : Nat) (v : Value) : Gz Pm lo X0 W w0 (wx.setCell ⟨n, i, none⟩ v) p b S1 S2 ((n, cs.setIfInBounds i v) :: bs) := by
  have hnb := h.bx (n, cs) (List.mem_cons_self ..)
  have hT : Tch (fun k => k = n) wx (wx.setCell ⟨n, i, none⟩ v) := Tch.set wx v rfl
  refine ⟨(h.z.apart hM hT (fun k hk => ?_)).less (fun k hk => ?_), fun q hq => ?_, fun k hk => ⟨(h.st k hk).1, (heap_setCell_other wx ⟨n, i, none⟩ k v (by have := (h.st k hk).1; have := hnb.1; show k ≠ n; omega)).trans (h.st k hk).2⟩, h.lo⟩
  · subst hk
    exact ⟨.inr ⟨(k, cs), List.mem_cons_self .., rfl⟩, Nat.le_trans h.lo hnb.1⟩
  · rcases hk with e | ⟨q, hq, rfl⟩
    · exact .inl e
    · rcases List.mem_cons.1 hq with rfl | hq
      · exact .inr ⟨(n, cs), List.mem_cons_self .., rfl⟩
      · exact .inr ⟨q, List.mem_cons_of_mem _ hq, rfl⟩
  · rcases List.mem_cons.1 hq with rfl | hq
    · exact ⟨hnb.1, heap_setCell_same wx n i cs 39 v hnb.2⟩
    · exact ⟨(h.bx q (List.mem_cons_of_mem _ hq)).1, (heap_setCell_other wx ⟨n, i, none⟩ q.1 v (hn q hq)).trans (h.bx q (List.mem_cons_of_mem _ hq)).2⟩
/-- A box is turned whole. -/
theorem Gz.row (hM : Mach Pm) {n : Nat} {cs : Array Value} (h : Gz Pm lo X0 W w0 wx p b S1 S2 ((n, cs) :: bs)) (hn : ∀ q ∈ bs, q.1 ≠ n) (cs' : Array Value) : Gz Pm lo X0 W w0 (wx.setRow n cs') p b S1 S2 ((n, cs') :: bs) := by
  have hnb := h.bx (n, cs) (List.mem_cons_self ..)
  have hT : Tch (fun k => k = n) wx (wx.setRow n cs') := ⟨rfl, rfl, rfl, by simp [World.setRow], fun k hk hF => setRow_other wx n k cs' hF⟩
  refine ⟨(h.z.apart hM hT (fun k hk => ?_)).less (fun k hk => ?_), fun q hq => ?_, fun k hk => ⟨(h.st k hk).1, (setRow_other wx n k cs' (by have := (h.st k hk).1; have := hnb.1; omega)).trans (h.st k hk).2⟩, h.lo⟩
  · subst hk
    exact ⟨.inr ⟨(k, cs), List.mem_cons_self .., rfl⟩, Nat.le_trans h.lo hnb.1⟩
  · rcases hk with e | ⟨q, hq, rfl⟩
    · exact .inl e
    · rcases List.mem_cons.1 hq with rfl | hq
      · exact .inr ⟨(n, cs), List.mem_cons_self .., rfl⟩
      · exact .inr ⟨q, List.mem_cons_of_mem _ hq, rfl⟩
  · rcases List.mem_cons.1 hq with rfl | hq
    · exact ⟨hnb.1, setRow_heap wx n cs cs' 39 _ hnb.2⟩
    · exact ⟨(h.bx q (List.mem_cons_of_mem _ hq)).1, (setRow_other wx n q.1 cs' (hn q hq)).trans (h.bx q (List.mem_cons_of_mem _ hq)).2⟩
/-- The boxes in another order, or fewer. -/
theorem Gz.swap {bs' : List (Nat × Array Value)} (h : Gz Pm lo X0 W w0 wx p b S1 S2 bs) (hs : ∀ q ∈ bs', q ∈ bs) : Gz Pm lo X0 W w0 wx p b S1 S2 bs' :=
  ⟨h.z.less (fun _ hk => hk.imp id (fun ⟨q, hq, e⟩ => ⟨q, hs q hq, e⟩)), fun q hq => h.bx q (hs q hq), h.st, h.lo⟩
theorem Gz.fin (h : Gz Pm lo X0 W w0 wx p b S1 S2 bs) : Bz Pm lo X0 W wx p b S1 S2 ∧ ∀ k, X0 k → wx.heap[k]? = w0.heap[k]? := ⟨h.z.less (fun _ hk => .inl hk), fun k hk => (h.st k hk).2⟩
theorem Gz.sh (h : Gz Pm lo X0 W w0 wx p b S1 S2 bs) : wx.cell? ⟨b, 0, none⟩ = some (.int .i64 S2.n) := h.z.c0.1
end
theorem none_any (w : World) : Calls Try.prog 28 #[] w fun e w' => e = .returned (.agg (wdV none3)) ∧ Below w.heap.size w w' := by
  go_enter Try.func28, Try.ntmps28
  go_wp2
  exact bodyPost_ret (results_cell_row (by rfl) _ _ w.heap.size 39 #[.int .i64 (-1), .int .i64 (-1), .int .i64 (-1)] (0, 0) _ rfl (heap_alloc_new _ _) Try.underlying39 rfl (by kernel_rfl)) rfl ⟨rfl, (Below.refl _ _).alloc (Nat.le_refl _) _⟩
end Go.Proofs.Ytflfnaiklnbaiaa

/- General: what words stand for. No program is named. -/
namespace Go.Proofs.Ytflfnaiklnbaiaa

def vlP (v : Nat → Nat) (L : Nat) (A : Nat → Int) : Nat → Nat
  | 0 => 0
  | m + 1 => vlP v L A m ^^^ wordAt v L (A m)
/-- What a word stands for. -/
abbrev vlN (v : Nat → Nat) (L : Nat) (A : Nat → Int) : Nat := vlP v L A 3
theorem vlP_lt {v : Nat → Nat} {L : Nat} (h : ∀ i, i < L → v i < 2 ^ 64) (A : Nat → Int) : ∀ m, vlP v L A m < 2 ^ 64
  | 0 => by show 0 < _; decide
  | m + 1 => xr_lt (vlP_lt h A m) (wordAt_lt h _)
theorem vl_three (v : Nat → Nat) (L : Nat) (A : Nat → Int) : vlN v L A = wordAt v L (A 0) ^^^ wordAt v L (A 1) ^^^ wordAt v L (A 2) := by
  show ((0 ^^^ wordAt v L (A 0)) ^^^ wordAt v L (A 1)) ^^^ wordAt v L (A 2) = _
  rw [Nat.zero_xor]
/-- A machine that went on: the words that there were are as they were. -/
structure Ext (S S' : Ms) : Prop where
  L : S.L ≤ S'.L
  v : ∀ i, i < S.L → S'.v i = S.v i
  n : S'.n = S.n
  dry : S'.dry = S.dry
  skip : S'.skip = S.skip
theorem Ext.refl (S : Ms) : Ext S S := ⟨Nat.le_refl _, fun _ _ => rfl, rfl, rfl, rfl⟩
theorem Ext.trans {S S' S2 : Ms} (h : Ext S S') (k : Ext S' S2) : Ext S S2 :=
  ⟨Nat.le_trans h.L k.L, fun i hi => (k.v i (Nat.lt_of_lt_of_le hi h.L)).trans (h.v i hi), k.n.trans h.n, k.dry.trans h.dry, k.skip.trans h.skip⟩
theorem doS_ext (S : Ms) (o : Op6) (x : Nat) : Ext S (S.doS o x) := by
  unfold Ms.doS
  repeat' split
  · exact Ext.refl S
  · exact ⟨Nat.le_refl _, fun _ _ => rfl, rfl, rfl, rfl⟩
  · exact ⟨Nat.le_refl _, fun _ _ => rfl, rfl, rfl, rfl⟩
  · exact ⟨Nat.le_refl _, fun _ _ => rfl, rfl, rfl, rfl⟩
  · exact ⟨Nat.le_succ _, fun i hi => updN_no _ _ (by omega), rfl, rfl, rfl⟩
theorem beginS_ext (S : Ms) (k : Int) : Ext S (S.beginS k) := by
  unfold Ms.beginS
  repeat' split
  all_goals exact ⟨Nat.le_refl _, fun _ _ => rfl, rfl, rfl, rfl⟩
theorem endS_ext (S : Ms) : Ext S S.endS := by
  unfold Ms.endS
  repeat' split
  all_goals exact ⟨Nat.le_refl _, fun _ _ => rfl, rfl, rfl, rfl⟩
theorem eaS_ext (S : Ms) (op : Nat → Op6) (lo : Nat) : ∀ m, Ext S (eaS S op lo m)
  | 0 => Ext.refl S
  | m + 1 => (eaS_ext S op lo m).trans (doS_ext _ _ _)
theorem wordAt_ext {S S' : Ms} (h : Ext S S') {r : Int} (hr : r < (S.L : Int)) : wordAt S'.v S'.L r = wordAt S.v S.L r := by
  have hL := h.L
  unfold wordAt
  by_cases h0 : 0 ≤ r
  · rw [if_pos ⟨h0, by omega⟩, if_pos ⟨h0, hr⟩, h.v _ (by omega)]
  · rw [if_neg (fun e => h0 e.1), if_neg (fun e => h0 e.1)]
/-- An op that is done. -/
theorem do_ok {S : Ms} {o : Op6} {x : Nat} (h : (S.doS o x).e = 0) : S.e = 0 ∧ S.doS o x = S.put o x ∧ S.doR o = (S.len : Int) ∧ S.bad o = false := by
  have he : S.e = 0 := by
    by_cases e : S.e = 0
    · exact e
    · unfold Ms.doS at h; rw [if_pos e] at h; exact absurd h e
  have hb : ¬ S.bad o = true := fun e => by unfold Ms.doS at h; rw [if_neg (by omega), if_pos e] at h; simp at h
  have hf : ¬ S.full = true := fun e => by unfold Ms.doS at h; rw [if_neg (by omega), if_neg hb, if_pos e] at h; simp at h
  have ho : ¬ S.out o = true := fun e => by unfold Ms.doS at h; rw [if_neg (by omega), if_neg hb, if_neg hf, if_pos e] at h; simp at h
  refine ⟨he, ?_, ?_, by simpa using hb⟩
  · unfold Ms.doS
    rw [if_neg (by omega), if_neg hb, if_neg hf, if_neg ho]
  · unfold Ms.doR
    rw [if_neg (by rintro (q | q | q | q) <;> contradiction)]
/-- A wet machine's op: the word that it makes. -/
theorem do_word {S : Ms} {o : Op6} {x : Nat} (h : (S.doS o x).e = 0) (hs : S.skip = 0) : S.doR o = (S.L : Int) ∧ (S.doS o x).L = S.L + 1 ∧ wordAt (S.doS o x).v (S.doS o x).L (S.doR o) = S.makes o x := by
  obtain ⟨_, h2, h3, _⟩ := do_ok h
  have hl : S.len = S.L := by unfold Ms.len; rw [hs, Nat.zero_add]
  rw [hl] at h3
  refine ⟨h3, by rw [h2]; rfl, ?_⟩
  rw [h2, h3]
  show wordAt (updN S.v S.L (S.makes o x)) (S.L + 1) (S.L : Int) = _
  unfold wordAt
  rw [if_pos ⟨by omega, by omega⟩, show ((S.L : Int)).toNat = S.L by omega, updN_at]
/-- A word whose registers there are; of two shares the third is none. -/
structure Gw (S : Ms) (A : Nat → Int) : Prop where
  lt : ∀ i, i < 3 → A i < (S.L : Int)
  no : ∀ i, S.sh ≤ i → i < 3 → A i < 0
theorem Gw.ext {S S' : Ms} {A : Nat → Int} (h : Gw S A) (k : Ext S S') : Gw S' A :=
  ⟨fun i hi => by have := h.lt i hi; have := k.L; omega, fun i hi hj => h.no i (by unfold Ms.sh at hi ⊢; rw [k.n] at hi; exact hi) hj⟩
theorem wordAt_neg {v : Nat → Nat} {L : Nat} {r : Int} (h : r < 0) : wordAt v L r = 0 := if_neg (by omega)
end Go.Proofs.Ytflfnaiklnbaiaa

/- General: arrays of ints that are not negative, by value and in a block (Arw's, for i64). No program is named. -/
namespace Go.Proofs.Ytflfnaiklnbaiaa
open Go.ChangeShapes Go.WideShapes Go.ChangeAt Go.RowKit

/-- The n cells of an array of words. -/
def ia (n : Nat) (f : Nat → Nat) : Array Value := ((List.range n).map fun i => Value.int .i64 (f i : Int)).toArray

theorem ia_size (n : Nat) (f : Nat → Nat) : (ia n f).size = n := by simp [ia]
theorem ia_get {n : Nat} (f : Nat → Nat) {j : Nat} (h : j < n) : (ia n f)[j]? = some (.int .i64 (f j : Int)) := by simp [ia, h]
theorem ia_ext {n : Nat} {f g : Nat → Nat} (h : ∀ i, i < n → f i = g i) : ia n f = ia n g := by
  unfold ia
  congr 1
  refine List.map_congr_left fun i hi => ?_
  rw [h i (List.mem_range.1 hi)]
theorem ia_set {n : Nat} (f : Nat → Nat) (j z : Nat) : (ia n f).setIfInBounds j (.int .i64 (z : Int)) = ia n (upd f j z) := by
  apply Array.ext_getElem?
  intro i
  rw [Array.getElem?_setIfInBounds, ia_size]
  by_cases hi : i < n
  · rw [ia_get _ hi, ia_get _ hi]
    by_cases e : j = i
    · subst e; rw [if_pos rfl, if_pos hi, upd_same]
    · rw [if_neg e, upd_other _ _ _ _ (fun h => e h.symm)]
  · have h1 : (ia n f)[i]? = none := by simp [ia_size]; omega
    have h2 : (ia n (upd f j z))[i]? = none := by simp [ia_size]; omega
    rw [h1, h2]
    by_cases e : j = i
    · rw [if_pos e, if_neg (by omega)]
    · rw [if_neg e]
theorem ia_one (n : Nat) (f : Nat → Nat) : (ia n f).all (·.oneCell') = true := by
  refine Array.all_eq_true_iff_forall_mem.2 (fun v hv => ?_)
  simp [ia] at hv
  obtain ⟨i, _, rfl⟩ := hv
  rfl

section prog
variable {P : Program}

end prog
/-! ### an array in a block of its own -/
/-- Block b holds, whole, the n words of f, as a variable of type t. -/
def Ai (w : World) (b n : Nat) (t : TypeId) (f : Nat → Nat) : Prop := w.heap[b]? = some (.cells (ia n f) t (0, 0))
theorem Ai.lt {w : World} {b n : Nat} {t : TypeId} {f : Nat → Nat} (h : Ai w b n t f) : b < w.heap.size := (Array.getElem?_eq_some_iff.1 h).1
theorem Ai.cell {w : World} {b n : Nat} {t : TypeId} {f : Nat → Nat} (h : Ai w b n t f) {j : Nat} (hj : j < n) : w.cell? ⟨b, j, none⟩ = some (.int .i64 (f j : Int)) := by
  rw [cell_of_row w b j _ t (0, 0) h, ia_get f hj]
theorem Ai.free {w : World} {b n : Nat} {t : TypeId} {f : Nat → Nat} (h : Ai w b n t f) (o : Nat) : w.frozen? ⟨b, o, none⟩ = false := frozen_of_row w b o _ t h
theorem Ai.set {w : World} {b n : Nat} {t : TypeId} {f : Nat → Nat} (h : Ai w b n t f) (j z : Nat) : Ai (w.setCell ⟨b, j, none⟩ (.int .i64 (z : Int))) b n t (upd f j z) := by
  unfold Ai
  rw [heap_setCell_same w b j _ t _ h, ia_set]
theorem Ai.apart {w : World} {b n : Nat} {t : TypeId} {f : Nat → Nat} (h : Ai w b n t f) {a : Addr} (ha : b ≠ a.block) (v : Value) : Ai (w.setCell a v) b n t f := (heap_setCell_other w a b v ha).trans h
theorem Ai.row {w : World} {b n : Nat} {t : TypeId} {f : Nat → Nat} (h : Ai w b n t f) (g : Nat → Nat) : Ai (w.setRow b (ia n g)) b n t g := setRow_heap w b _ _ t _ h
theorem Ai.alloc {w : World} {b n : Nat} {t : TypeId} {f : Nat → Nat} (h : Ai w b n t f) (o : Obj) : Ai (w.alloc o) b n t f := (heap_alloc_old w o h.lt).trans h
theorem Ai.new (w : World) (n : Nat) (t : TypeId) (f : Nat → Nat) : Ai (w.alloc (.cells (ia n f) t)) w.heap.size n t f := heap_alloc_new w _
theorem Ai.drew {w : World} {b n : Nat} {t : TypeId} {f : Nat → Nat} (h : Ai w b n t f) : Ai w.drew b n t f := h
theorem Ai.below {w w' : World} {b n B : Nat} {t : TypeId} {f : Nat → Nat} (h : Ai w b n t f) (hb : Below B w w') (hB : b < B) : Ai w' b n t f := (hb.block b hB).trans h
theorem Ai.self {w w' : World} {b n : Nat} {t : TypeId} {f : Nat → Nat} (h : Ai w b n t f) (hb : Below w.heap.size w w') : Ai w' b n t f := h.below hb h.lt
theorem Ai.ext {w : World} {b n : Nat} {t : TypeId} {f g : Nat → Nat} (h : Ai w b n t f) (e : ∀ i, i < n → f i = g i) : Ai w b n t g := by
  unfold Ai at h ⊢; rw [h, ia_ext e]

section prog2
variable {P : Program}
theorem Ai.load {w : World} {b n : Nat} {t : TypeId} {f : Nat → Nat} {e : TypeId} (h : Ai w b n t f) (ty : TypeId) (hu : P.underlying ty = some (.array n e)) (hi : (P.info? ty).map (·.size) = some n) :
    (loadVar ty ⟨b, 0, none⟩).run P w = .ok (.agg (ia n f)) w :=
  run_loadVar_row w b t ty _ (0, 0) _ h hu rfl (by rw [ia_size]; exact hi)
theorem Ai.store {w : World} {b n : Nat} {t : TypeId} {f : Nat → Nat} (h : Ai w b n t f) (ty : TypeId) (g : Nat → Nat) (hi : (P.info? ty).map (·.size) = some n) :
    (storeVar ty ⟨b, 0, none⟩ (.agg (ia n g))).run P w = .ok () (w.setRow b (ia n g)) :=
  run_storeVar_row w b t ty _ _ h (by rw [ia_size]; exact hi) (by rw [ia_size, ia_size]) (ia_one n g)
end prog2

/-! ### returns of arrays -/
/-! ### whole loads and stores, as arms of a walk -/
end Go.Proofs.Ytflfnaiklnbaiaa

/- Wire: are a trace's words what its ops make? -/
namespace Go.Proofs.Ytflfnaiklnbaiaa
open Go.RowKit
set_option maxRecDepth 100000
/-- A row of words that is read, whatever is new. -/
structure Wr (w : World) (v : Value) (L : Nat) (f : Nat → Nat) : Prop where
  at_ : ∃ a cap, v = .slice a L cap ∧ (0 < L → ∃ g off, a = some ⟨g, off, none⟩ ∧ g < w.heap.size ∧ ∀ i, i < L → w.cell? ⟨g, off + i, none⟩ = some (.int .u64 (f i : Int)))
theorem rd_wr {w : World} {v : Value} {L : Nat} {f : Nat → Nat} (h : Rd .u64 w v (wdL f L)) : Wr w v L f := by
  obtain ⟨a, cap, e, _, _, hc⟩ := h
  rw [wdL_len] at e hc
  refine ⟨a, cap, e, fun h0 => ?_⟩
  obtain ⟨g, off, e1, e2, e3⟩ := hc h0
  exact ⟨g, off, e1, e2, fun i hi => by rw [e3 i hi, wdL_nth f hi]⟩
/-- What the law's loop holds: the trace's box, the machine's box. -/
structure Hb (W wr : World) (n bm : Nat) (A B : Array Value) : Prop where
  one : wr.heap[n]? = some (.cells A 86 (0, 0))
  two : wr.heap[bm]? = some (.cells B 53 (0, 0))
  low : Below W.heap.size W wr
theorem Hb.self {W wr wy : World} {n bm : Nat} {A B : Array Value} (h : Hb W wr n bm A B) (hb : Below wr.heap.size wr wy) : Hb W wy n bm A B :=
  ⟨(hb.block _ (Array.getElem?_eq_some_iff.1 h.one).1).trans h.one, (hb.block _ (Array.getElem?_eq_some_iff.1 h.two).1).trans h.two, h.low.trans (hb.mono h.low.size)⟩
abbrev hmC (v : Value) : Array Value := #[.int .i64 0, .int .i64 0, .int .i64 0, .int .i64 0, .int .i64 0, .int .i64 0, .int .i64 0, .int .i64 0, .slice none 0 0, .slice none 0 0, v, .slice none 0 0, .int .i64 0, .int .i64 0, .bool false]
/-- What a round holds. -/
structure Hr (W wr : World) (n bm : Nat) (A : Array Value) (v : Value) (bo : Nat) (o : Op6) (gv ov L : Nat) (vv : Nat → Nat) : Prop where
  b : Hb W wr n bm A (hmC v)
  op : wr.heap[bo]? = some (.cells (opCs o) 43 (0, 0))
  word : ∀ i, i < L → wr.cell? ⟨gv, ov + i, none⟩ = some (.int .u64 (vv i : Int))
theorem Hr.self {W wr wy : World} {n bm : Nat} {A : Array Value} {v : Value} {bo : Nat} {o : Op6} {gv ov L : Nat} {vv : Nat → Nat} (h : Hr W wr n bm A v bo o gv ov L vv) (hb : Below wr.heap.size wr wy) : Hr W wy n bm A v bo o gv ov L vv :=
  ⟨h.b.self hb, (hb.block _ (Array.getElem?_eq_some_iff.1 h.op).1).trans h.op, fun i hi => tcell_self (h.word i hi) hb⟩
theorem Hr.drew {W wr : World} {n bm : Nat} {A : Array Value} {v : Value} {bo : Nat} {o : Op6} {gv ov L : Nat} {vv : Nat → Nat} (h : Hr W wr n bm A v bo o gv ov L vv) : Hr W wr.drew n bm A v bo o gv ov L vv := h.self ((Below.refl _ _).drew)
end Go.Proofs.Ytflfnaiklnbaiaa

/- Share: are both machines alike? -/
namespace Go.Proofs.Ytflfnaiklnbaiaa
open Go.RowKit
set_option maxRecDepth 100000
/-- A pair's cells. -/
abbrev paC (p b : Nat) (lv vv : Value) : Array Value := #[.pointer (some ⟨p, 0, none⟩), .pointer (some ⟨b, 0, none⟩), lv, vv]
set_option maxHeartbeats 12800000 in
theorem llike_any {Pm : World → Nat → Ms → (Nat → Prop) → Prop} (hM : Mach Pm) {lo : Nat} {X : Nat → Prop} {W w : World} {p b k : Nat} {S : Ms} (h : Bz Pm lo X W w p b S S) (hq : Bq k S) (hk : k ≤ 100000) (hw : S.dry = false) (la ba : Option Addr) (ln bn lc bc : Nat) :
    Calls Try.prog 16 #[.agg (paC p b (.slice la ln lc) (.slice ba bn bc))] w fun e w' => e = .returned (.bool true) ∧ Bz Pm lo X W w' p b S S ∧ Below w.heap.size w w' := by
  have HQ := hid hq
  have HK2 := hid hk
  have HK : Hid (k ≤ 1000000) := hid (by omega)
  have HKP : Hid (∀ n, S.keep n = n) := hid (fun n => by unfold Ms.keep; rw [hw]; rfl)
  obtain ⟨w1, hw1⟩ : ∃ w1, w.alloc (.cells (paC p b (.slice la ln lc) (.slice ba bn bc)) 32) = w1 := ⟨_, rfl⟩
  have HB1 : Hid (Below w.heap.size w w1) := hid (by rw [← hw1]; exact (Below.refl _ _).alloc (Nat.le_refl _) _)
  have hbx : w1.heap[w.heap.size]? = some (.cells (paC p b (.slice la ln lc) (.slice ba bn bc)) 32 (0, 0)) := by rw [← hw1]; exact heap_alloc_new _ _
  have HBX : Hid (∀ w', Below w1.heap.size w1 w' → w'.heap[w.heap.size]? = some (.cells (paC p b (.slice la ln lc) (.slice ba bn bc)) 32 (0, 0))) := hid (fun w' hb => (hb.block _ (Array.getElem?_eq_some_iff.1 hbx).1).trans hbx)
  have ZA := hid (h.self hM HB1.out)
  have HC : Hid (∀ w', Below w1.heap.size w1 w' → w'.cell? ⟨b, 0, none⟩ = some (.int .i64 S.n) ∧ w'.cell? ⟨b, 3, none⟩ = some (.int .i64 (S.draws : Int)) ∧ w'.cell? ⟨b, 7, none⟩ = some (.int .i64 (S.e : Int)) ∧ w'.cell? ⟨b, 14, none⟩ = some (.bool S.dry)) := hid (fun w' hb => (ZA.out.self hM hb).c0)
  obtain ⟨xv, xc, hcv, hrv⟩ := ZA.out.vv hq hk
  have HCV : Hid (∀ w', Below w1.heap.size w1 w' → w'.cell? ⟨b, 10, none⟩ = some (.slice xv S.L xc)) := hid (fun w' hw => tcell_self hcv hw)
  have HRV : Hid (∀ w', Below w1.heap.size w1 w' → Wr w' (.slice xv S.L xc) S.L S.v) := hid (fun w' hw => rd_wr (hrv.self hw))
  have HLL : Hid (S.L ≤ 1000000) := hid (by have := hq.len; unfold Ms.len at this; omega)
  have c0 := row_c (i := 0) (u := .pointer (some ⟨p, 0, none⟩)) hbx rfl
  have HW1 := hid hw1
  clear h hq hk hw hw1 hbx hcv hrv
  go_enter Try.func16, Try.ntmps16
  go_upto_region 1 with fail
  rw [HW1.out]
  go_wp2_with (go_at_call 19; (with_reducible refine (zvalues hM ZA.out HQ.out HK.out).mono ?_); rintro e w2 ⟨v, rfl, hv, hb⟩; rw [HKP.out] at hv; have HVW := hid (rd_wr hv); have Z0 := hid (ZA.out.self hM hb); have HB12 := hid hb; clear hv hb)
  obtain ⟨av, cv, rfl, hav⟩ := HVW.out.at_
  have HAV := hid hav
  have BZ0 : Hid (Below w2.heap.size w2 w2) := hid (Below.refl _ _)
  have HBX := hid (fun w' (hb : Below w2.heap.size w2 w') => HBX.out w' (HB12.out.trans (hb.mono HB12.out.size)))
  have HC := hid (fun w' (hb : Below w2.heap.size w2 w') => HC.out w' (HB12.out.trans (hb.mono HB12.out.size)))
  have HCV := hid (fun w' (hb : Below w2.heap.size w2 w') => HCV.out w' (HB12.out.trans (hb.mono HB12.out.size)))
  have HRV := hid (fun w' (hb : Below w2.heap.size w2 w') => HRV.out w' (HB12.out.trans (hb.mono HB12.out.size)))
  clear hav c0
  go_wp2_with fail
  have Z1 := hid (Z0.out.self hM ((Below.refl _ w2).drew))
  have BZ1 := hid (BZ0.out.drew)
  refine wp_region_noPanic ?_
  refine wp_region_held_drew (S := fun w' => Below w2.heap.size w2 w') (by kernel_rfl) (BZ1.out) (fun h0 => ?_)
  generalize w2.drew = y1 at *
  refine wpAnyH_take (i := 0) (v := .slice av S.L cv) rfl (by kernel_rfl) (by kernel_rfl) (by kernel_rfl) (fun _ _ _ h => h) (.inl ⟨by rfl, fun w hw => by clear hw; go_simp⟩) h0 ?_
  try simp only [Act.put, lay_out]
  refine wpAnyH_take (i := 1) (v := .int .i64 (S.L : Int)) rfl (by kernel_rfl) (by kernel_rfl) (by kernel_rfl) (fun _ _ _ h => h) (.inl ⟨by rfl, fun w hw => by clear hw; go_simp⟩) h0 ?_
  try simp only [Act.put, lay_out]
  refine wpAnyH_take (i := 2) (v := .pointer (some ⟨w.heap.size, 1, none⟩)) rfl (by kernel_rfl) (by kernel_rfl) (by kernel_rfl) (fun _ _ _ h => h) (.inl ⟨by rfl, fun w hw => by clear hw; go_simp⟩) h0 ?_
  try simp only [Act.put, lay_out]
  refine wpAnyH_take (i := 3) (v := .pointer (some ⟨b, 0, none⟩)) rfl (by kernel_rfl) (by kernel_rfl) (by kernel_rfl) (fun _ _ _ h => h) (.inl ⟨by rfl, fun w' hw => by have hc := row_c (i := 1) (u := .pointer (some ⟨b, 0, none⟩)) (HBX.out w' hw) rfl; clear hw; go_simp⟩) h0 ?_
  try simp only [Act.put, lay_out]
  refine wpAnyH_take (i := 4) (v := .pointer (some ⟨b, 0, none⟩)) rfl (by kernel_rfl) (by kernel_rfl) (by kernel_rfl) (fun _ _ _ h => h) (.inl ⟨by rfl, fun w hw => by clear hw; go_simp⟩) h0 ?_
  try simp only [Act.put, lay_out]
  refine wpAnyH_take (i := 5) (v := .pointer (some ⟨b, 10, none⟩)) rfl (by kernel_rfl) (by kernel_rfl) (by kernel_rfl) (fun _ _ _ h => h) (.inl ⟨by rfl, fun w hw => by clear hw; go_simp⟩) h0 ?_
  try simp only [Act.put, lay_out]
  refine wpAnyH_take (i := 6) (v := .slice xv S.L xc) rfl (by kernel_rfl) (by kernel_rfl) (by kernel_rfl) (fun _ _ _ h => h) (.inl ⟨by rfl, fun w' hw => by have hc := HCV.out w' hw; clear hw; go_simp⟩) h0 ?_
  try simp only [Act.put, lay_out]
  refine wpAnyH_take (i := 7) (v := .int .i64 (S.L : Int)) rfl (by kernel_rfl) (by kernel_rfl) (by kernel_rfl) (fun _ _ _ h => h) (.inl ⟨by rfl, fun w hw => by clear hw; go_simp⟩) h0 ?_
  try simp only [Act.put, lay_out]
  refine wpAnyH_take (i := 8) (v := .bool false) rfl (by kernel_rfl) (by kernel_rfl) (by kernel_rfl) (fun _ _ _ h => h) (.inl ⟨by rfl, fun w hw => by clear hw; go_simp⟩) h0 ?_
  try simp only [Act.put, lay_out]
  refine wpAnyH_take (i := 9) (v := .bool false) rfl (by kernel_rfl) (by kernel_rfl) (by kernel_rfl) (fun _ _ _ h => h) (.inl ⟨by rfl, fun w hw => by clear hw; go_simp⟩) h0 ?_
  try simp only [Act.put, lay_out]
  refine wpAnyH_take (i := 10) (v := .pointer (some ⟨w.heap.size, 0, none⟩)) rfl (by kernel_rfl) (by kernel_rfl) (by kernel_rfl) (fun _ _ _ h => h) (.inl ⟨by rfl, fun w hw => by clear hw; go_simp⟩) h0 ?_
  try simp only [Act.put, lay_out]
  refine wpAnyH_take (i := 11) (v := .pointer (some ⟨p, 0, none⟩)) rfl (by kernel_rfl) (by kernel_rfl) (by kernel_rfl) (fun _ _ _ h => h) (.inl ⟨by rfl, fun w' hw => by have hc := row_c (i := 0) (u := .pointer (some ⟨p, 0, none⟩)) (HBX.out w' hw) rfl; clear hw; go_simp⟩) h0 ?_
  try simp only [Act.put, lay_out]
  refine wpAnyH_take (i := 13) (v := .pointer (some ⟨w.heap.size, 1, none⟩)) rfl (by kernel_rfl) (by kernel_rfl) (by kernel_rfl) (fun _ _ _ h => h) (.inl ⟨by rfl, fun w hw => by clear hw; go_simp⟩) h0 ?_
  try simp only [Act.put, lay_out]
  refine wpAnyH_take (i := 14) (v := .pointer (some ⟨b, 0, none⟩)) rfl (by kernel_rfl) (by kernel_rfl) (by kernel_rfl) (fun _ _ _ h => h) (.inl ⟨by rfl, fun w' hw => by have hc := row_c (i := 1) (u := .pointer (some ⟨b, 0, none⟩)) (HBX.out w' hw) rfl; clear hw; go_simp⟩) h0 ?_
  try simp only [Act.put, lay_out]
  refine wpAnyH_take (i := 15) (v := .pointer (some ⟨b, 0, none⟩)) rfl (by kernel_rfl) (by kernel_rfl) (by kernel_rfl) (fun _ _ _ h => h) (.inl ⟨by rfl, fun w hw => by clear hw; go_simp⟩) h0 ?_
  try simp only [Act.put, lay_out]
  refine wpAnyH_take (i := 16) (v := .pointer (some ⟨b, 7, none⟩)) rfl (by kernel_rfl) (by kernel_rfl) (by kernel_rfl) (fun _ _ _ h => h) (.inl ⟨by rfl, fun w hw => by clear hw; go_simp⟩) h0 ?_
  try simp only [Act.put, lay_out]
  refine wpAnyH_take (i := 17) (v := .int .i64 (S.e : Int)) rfl (by kernel_rfl) (by kernel_rfl) (by kernel_rfl) (fun _ _ _ h => h) (.inl ⟨by rfl, fun w' hw => by have hc := (HC.out w' hw).2.2.1; clear hw; go_simp⟩) h0 ?_
  try simp only [Act.put, lay_out]
  refine wpAnyH_ready (rs := [12]) (by kernel_rfl) (by simp) (AllReadyH.cons rfl (fun K hK => ?_) AllReadyH.nil)
  rw [if_pos (by rfl)]
  go_simp
  go_at_call 23
  (with_reducible refine (zerr hM Z1.out HQ.out HK.out).mono ?_); rintro e w3 ⟨rfl, hb⟩
  have Z3 := hid (Z1.out.self hM hb)
  have BZ3 := hid (BZ1.out.trans (hb.mono BZ1.out.size))
  clear hb
  refine hK.out _ _ (BZ3.out) (fun h1x => ?_)
  clear hK K
  try simp only [Act.put, lay_out]
  refine wpAnyH_take (i := 18) (v := .bool false) rfl (by kernel_rfl) (by kernel_rfl) (by kernel_rfl) (fun _ _ _ h => h) (.inl ⟨by rfl, fun w hw => by clear hw; go_simp⟩) h1x ?_
  try simp only [Act.put, lay_out]
  refine wpAnyH_take (i := 19) (v := .bool false) rfl (by kernel_rfl) (by kernel_rfl) (by kernel_rfl) (fun _ _ _ h => h) (.inl ⟨by rfl, fun w hw => by clear hw; go_simp⟩) h1x ?_
  try simp only [Act.put, lay_out]
  refine wpAnyH_take (i := 20) (v := .bool false) rfl (by kernel_rfl) (by kernel_rfl) (by kernel_rfl) (fun _ _ _ h => h) (.inl ⟨by rfl, fun w hw => by clear hw; go_simp⟩) h1x ?_
  try simp only [Act.put, lay_out]
  refine wpAnyH_take (i := 21) (v := .pointer (some ⟨w.heap.size, 0, none⟩)) rfl (by kernel_rfl) (by kernel_rfl) (by kernel_rfl) (fun _ _ _ h => h) (.inl ⟨by rfl, fun w hw => by clear hw; go_simp⟩) h1x ?_
  try simp only [Act.put, lay_out]
  refine wpAnyH_take (i := 22) (v := .pointer (some ⟨p, 0, none⟩)) rfl (by kernel_rfl) (by kernel_rfl) (by kernel_rfl) (fun _ _ _ h => h) (.inl ⟨by rfl, fun w' hw => by have hc := row_c (i := 0) (u := .pointer (some ⟨p, 0, none⟩)) (HBX.out w' hw) rfl; clear hw; go_simp⟩) h1x ?_
  try simp only [Act.put, lay_out]
  refine wpAnyH_take (i := 24) (v := .pointer (some ⟨w.heap.size, 1, none⟩)) rfl (by kernel_rfl) (by kernel_rfl) (by kernel_rfl) (fun _ _ _ h => h) (.inl ⟨by rfl, fun w hw => by clear hw; go_simp⟩) h1x ?_
  try simp only [Act.put, lay_out]
  refine wpAnyH_take (i := 25) (v := .pointer (some ⟨b, 0, none⟩)) rfl (by kernel_rfl) (by kernel_rfl) (by kernel_rfl) (fun _ _ _ h => h) (.inl ⟨by rfl, fun w' hw => by have hc := row_c (i := 1) (u := .pointer (some ⟨b, 0, none⟩)) (HBX.out w' hw) rfl; clear hw; go_simp⟩) h1x ?_
  try simp only [Act.put, lay_out]
  refine wpAnyH_ready (rs := [23]) (by kernel_rfl) (by simp) (AllReadyH.cons rfl (fun K hK => ?_) AllReadyH.nil)
  rw [if_pos (by rfl)]
  go_simp
  go_at_call 40
  (with_reducible refine (ztrace hM Z3.out HQ.out HK.out).mono ?_); rintro e w4 ⟨v0, v1, rfl, hv0, hv1, hb⟩
  have Z4 := hid (Z3.out.self hM hb)
  have BZ4 := hid (BZ3.out.trans (hb.mono BZ3.out.size))
  rw [HKP.out] at hv0
  rw [HKP.out] at hv1
  have HV0 := hid hv0
  have HV1 := hid hv1
  clear hv0 hv1
  clear hb
  refine hK.out _ _ (BZ4.out) (fun h2x => ?_)
  clear hK K
  try simp only [Act.put, lay_out]
  refine wpAnyH_ready (rs := [26]) (by kernel_rfl) (by simp) (AllReadyH.cons rfl (fun K hK => ?_) AllReadyH.nil)
  rw [if_pos (by rfl)]
  go_simp
  go_at_call 41
  (with_reducible refine (ytrace Z4.out HQ.out HK2.out).mono ?_); rintro e w5 ⟨v0', v1', rfl, hv0, hv1, hb⟩
  have Z5 := hid (Z4.out.self hM hb)
  have BZ5 := hid (BZ4.out.trans (hb.mono BZ4.out.size))
  have HV2 := hid hv0
  have HV3 := hid hv1
  have HV0' := hid (HV0.out.self hb)
  have HV1' := hid (HV1.out.self hb)
  clear hv0 hv1
  clear hb
  refine hK.out _ _ (BZ5.out) (fun h3x => ?_)
  clear hK K
  try simp only [Act.put, lay_out]
  refine wpAnyH_ready (rs := [27]) (by kernel_rfl) (by simp) (AllReadyH.cons rfl (fun K hK => ?_) AllReadyH.nil)
  rw [if_pos (by rfl)]
  go_simp
  go_at_call 39
  (with_reducible refine (refsame_eq S.n v0 v1 v0' v1' S.L S.M S.f S.g _ HV0'.out HV1'.out HV2.out HV3.out).mono ?_); rintro e w6 ⟨rfl, hb⟩
  have Z6 := hid (Z5.out.self hM hb)
  have BZ6 := hid (BZ5.out.trans (hb.mono BZ5.out.size))
  clear hb
  refine hK.out _ _ (BZ6.out) (fun h4x => ?_)
  clear hK K
  try simp only [Act.put, lay_out]
  refine wpAnyH_take (i := 28) (v := .bool false) rfl (by kernel_rfl) (by kernel_rfl) (by kernel_rfl) (fun _ _ _ h => h) (.inl ⟨by rfl, fun w hw => by clear hw; go_simp⟩) h4x ?_
  try simp only [Act.put, lay_out]
  refine wpAnyH_take (i := 29) (v := .bool false) rfl (by kernel_rfl) (by kernel_rfl) (by kernel_rfl) (fun _ _ _ h => h) (.inl ⟨by rfl, fun w hw => by clear hw; go_simp⟩) h4x ?_
  try simp only [Act.put, lay_out]
  refine wpAnyH_done (by kernel_rfl) ?_ _
  refine NoPanic.normal ?_
  clear h0 h1x h2x h3x h4x
  try simp only [Act.put, lay_out]
  go_wp2
  have HZL := hid Z6.out
  go_loopw [4] (fun i wr => ∃ j : Nat, j ≤ S.L ∧ i = .int .i64 j ∧ Below w2.heap.size w2 wr) (fun i _ => S.L - (intOf i).toNat)
  case atStart => exact ⟨0, by omega, rfl, BZ6.out⟩
  case round =>
    obtain ⟨j, hj, rfl, hI⟩ := hrel
    have HI := hid hI
    clear hI
    by_cases hlt : j < S.L
    · obtain ⟨g, off, rfl, hg, hc⟩ := HAV.out (by omega)
      obtain ⟨xa, xcap, hxe, hxc⟩ := (HRV.out _ HI.out.drew).at_
      injection hxe with e1 e2 e3
      subst e1 e3
      obtain ⟨gx, ox, rfl, _, hcx⟩ := hxc (by omega)
      have c1 : wr.drew.cell? ⟨g, off + j, none⟩ = some (.int .u64 (S.v j : Int)) := tcell_self (hc j hlt) HI.out.drew
      have c2 := hcx j hlt
      have c3 := row_c (i := 1) (u := .pointer (some ⟨b, 0, none⟩)) (HBX.out _ HI.out.drew) rfl
      have c4 := HCV.out _ HI.out.drew
      have HI2 := hid HI.out.drew
      have j1 : (0 : Int) ≤ (j : Int) := by omega
      have j2 : (j : Int) < (S.L : Int) := by omega
      have hll := HLL.out
      clear hc hcx hxc hg
      generalize S.v j = z at *
      go_wp2_with fail
      go_region
      go_wp2
      go_roundw
      case rel => exact ⟨j + 1, by omega, by go_num, HI2.out⟩
      case measure => simp [intOf]; omega
    · have hjL : j = S.L := by omega
      subst hjL
      go_wp2
      go_ret
      have hb := HB1.out.trans (HB12.out.mono HB1.out.size)
      exact ⟨rfl, Bz.self hM Z0.out HI.out, hb.trans (HI.out.mono hb.size)⟩
end Go.Proofs.Ytflfnaiklnbaiaa

/- Share: words, by the document. -/
namespace Go.Proofs.Ytflfnaiklnbaiaa
open Go.RowKit
set_option maxRecDepth 100000
theorem step_load_row {P : Program} {w : World} {ops : Array Oper} {rest : List Oper} {o : Oper} {a : Act} {Q : Exit → Act → World → Prop} (hgd : o.guard = none) (ty : TypeId) (x : Operand) (ho : o.op = .load ty x)
    (b : Nat) (t : TypeId) (cs : Array Value) (d : TypeDesc) (hx : a.eval x = .pointer (some ⟨b, 0, none⟩)) (hA : w.heap[b]? = some (.cells cs t (0, 0))) (hu : P.underlying ty = some d) (hag : (match d with | .struct _ | .array _ _ => true | _ => false) = true) (hi : (P.info? ty).map (·.size) = some cs.size)
    (k : wpList P ops Q rest (a.put o.dst (.agg cs)) w) : wpList P ops Q (o :: rest) a w :=
  wpList_plain hgd fun _ hK => by
    unfold Oper.wp execOp
    simp only [ho, hx, Instr.loadAt, Instr.sureAddr, Sem.run_bind, Sem.run_pure, Result.andThen_ok, run_loadVar_row w b t ty cs (0, 0) d hA hu hag hi]
    exact hK _ _ k
end Go.Proofs.Ytflfnaiklnbaiaa

/- Wire: WirePlays, over what the program's machine tells. -/
namespace Go.Proofs.Ytflfnaiklnbaiaa
open Go.RowKit
set_option maxRecDepth 100000
/-- Both machines begin. -/
theorem Bz.begun {Pm : World → Nat → Ms → (Nat → Prop) → Prop} {lo : Nat} {G F : Nat → Prop} {W wx : World} {p b : Nat} {S1 S2 : Ms} {tv : Value} (h1 : Pm wx p S1 F) (h2 : Dm ⟨lo, G⟩ wx b S2 (.slice none 0 0) (.slice none 0 0) (.slice none 0 0) tv) (hF : ∀ k, F k → lo ≤ k ∧ k ≠ b ∧ ¬ G k) (hG : ∀ k, G k → k < wx.heap.size) (h6 : Below lo W wx) (h7 : lo ≤ wx.heap.size) : Bz Pm lo (fun _ => False) W wx p b S1 S2 := by
  refine ⟨F, G, _, _, _, _, h1, h2, fun k hk => ⟨(hF k hk).1, fun e => ?_, (hF k hk).2.2, fun e => e⟩, fun k hk => hk.elim, hG, h6, h7⟩
  rcases e with e | e | e | e
  · exact (hF k hk).2.1 e
  · simp [Value.ownBlock] at e
  · simp [Value.ownBlock] at e
  · simp [Value.ownBlock] at e
/-- What the law's loop holds. -/
structure Wp (Pm : World → Nat → Ms → (Nat → Prop) → Prop) (W wr : World) (p b k : Nat) (S1 S : Ms) : Prop where
  z : Bz Pm W.heap.size (fun _ => False) W wr p b S1 S
  q : Bq k S
theorem Wp.self {Pm : World → Nat → Ms → (Nat → Prop) → Prop} (hM : Mach Pm) {W wr wy : World} {p b k : Nat} {S1 S : Ms} (h : Wp Pm W wr p b k S1 S) (hb : Below wr.heap.size wr wy) : Wp Pm W wy p b k S1 S := ⟨h.z.self hM hb, h.q⟩
end Go.Proofs.Ytflfnaiklnbaiaa

/- Share: a pair of machines begins. -/
namespace Go.Proofs.Ytflfnaiklnbaiaa
open Go.RowKit
set_option maxRecDepth 100000
set_option maxHeartbeats 6400000 in
theorem lbegins_any {Pm : World → Nat → Ms → (Nat → Prop) → Prop} (hM : Mach Pm) (hN : MachN Pm) (n most : Int) (hn : n = 2 ∨ n = 3) (hm : 0 ≤ most) (hm2 : most ≤ 1048576) (tw : Nat → Nat) (TN : Nat) (mv : Value) (w : World) (h : RdS .u64 w (fun g => g < w.heap.size) mv (wdL tw TN)) :
    Calls Try.prog 6 #[.int .i64 n, mv, .int .i64 most] w fun e w' => ∃ p b, e = .returned (.tuple #[.agg (paC p b (.slice none 0 0) (.slice none 0 0)), .bool true]) ∧ Bz Pm w.heap.size (fun _ => False) w w' p b (startD n most tw TN 0 TN) (startD n most tw TN 0 TN) := by
  obtain ⟨ma, mc, rfl, hm0⟩ := id h
  rw [wdL_len] at h
  have HT := hid (fun (w : World) (h : Rd .u64 w (.slice ma TN mc) (wdL tw TN)) => new_any _ _ w h)
  have HR : Hid (∀ lo hi b w, TapeAt w lo hi b (wdL tw TN) 0 0 → Calls Try.prog 25 #[.pointer (some ⟨b, 0, none⟩), .int .i64 (TN : Int)] w fun r w' => r = .returned (.int .i64 0) ∧ TapeAt w' lo hi b (wdL tw TN) 0 TN ∧ Only b w w') := hid (fun lo hi b w h => by have := reserve_ok lo hi b _ 0 0 TN w h (by rw [wdL_len]; omega); rw [Nat.zero_add] at this; exact this)
  have HN := hid hN
  have HN23 := hid hn
  have HM0 := hid (And.intro hm hm2)
  obtain ⟨w0, hw0⟩ : ∃ w0, w.alloc (.cells #[.pointer none, .pointer none, .slice none 0 0, .slice none 0 0] 32) = w0 := ⟨_, rfl⟩
  have B0 : Hid (Below w.heap.size w w0) := hid (by rw [← hw0]; exact (Below.refl _ _).alloc (Nat.le_refl _) _)
  have HX0 : Hid (w0.heap[w.heap.size]? = some (.cells #[.pointer none, .pointer none, .slice none 0 0, .slice none 0 0] 32 (0, 0))) := hid (by rw [← hw0]; exact heap_alloc_new _ _)
  have HS0 : Hid (w0.heap.size = w.heap.size + 1) := hid (by rw [← hw0]; simp)
  have HRD : Hid (∀ w', Below w.heap.size w w' → RdS .u64 w' (fun g => g < w.heap.size) (.slice ma TN mc) (wdL tw TN)) := hid (fun w' hb => rds_self h hb)
  have HW0 := hid hw0
  rw [wdL_len]
  clear h hm0 hN hn hm hm2 hw0
  go_enter Try.func6, Try.ntmps6
  go_upto_region 1 with fail
  rw [HW0.out]
  go_upto_region 4 with (first
    | (go_at_call 24; (with_reducible refine (HT.out _ (HRD.out _ B0.out).rd).mono ?_); rintro e w2 ⟨q, rfl, ht, hb⟩; have B2 := hid (B0.out.trans (hb.mono B0.out.size)); have T2 := hid ht; have HX2 := hid ((hb.block _ (Array.getElem?_eq_some_iff.1 HX0.out).1).trans HX0.out); clear ht hb)
    | (go_at_call 25; (with_reducible refine (HR.out _ _ _ _ T2.out).mono ?_); rintro e w3 ⟨rfl, ht, ho⟩; have B3 := hid (B2.out.trans (ho.below (by have := T2.out.lt; have := B0.out.size; omega) B2.out.size)); have T3 := hid ht; have HX3 := hid ((ho.block _ (Array.getElem?_eq_some_iff.1 HX2.out).1 (by have := T2.out.lt; have := HS0.out; omega)).trans HX2.out); clear ht ho)
    | (go_at_call 26; (with_reducible refine (HN.out.new _ _ _ 0 TN n most tw TN _ T3.out HN23.out HM0.out.1 HM0.out.2).mono ?_); rintro e w4 ⟨p, rfl, hb, F, hp, hF⟩; have B4 := hid (B3.out.trans (hb.mono B3.out.size)); have P4 := hid hp; have HX4 := hid ((hb.block _ (Array.getElem?_eq_some_iff.1 HX3.out).1).trans HX3.out); have F4 : Hid (∀ k, F k → w.heap.size < k) := hid (fun k hk => by have := hF k hk; have := HS0.out; have := B3.out.size; have := (Array.getElem?_eq_some_iff.1 HX3.out).1; omega); clear hp hF hb))
  go_wp2_with (first
    | (go_at_call 27; (with_reducible refine (dnew_any ⟨w.heap.size, fun g => g < w.heap.size⟩ n most tw TN (.slice ma TN mc) _ (HRD.out _ B4.out) B4.out.size).mono ?_); rintro e w5 ⟨rfl, hd, hb⟩; have B5 := hid (B4.out.trans (hb.mono B4.out.size)); have D5 := hid hd; have P5 := hid (hM.stays P4.out hb.size (fun k hk => hb.block k (hM.lt P4.out k hk))); have HX5 := hid ((hb.block _ (Array.getElem?_eq_some_iff.1 HX4.out).1).trans HX4.out); have HL5 := hid hb.size; clear hd hb)
    | (refine step_store_row rfl 32 _ _ rfl w.heap.size 32 _ (paC p w4.heap.size (.slice none 0 0) (.slice none 0 0)) rfl rfl HX5.out (by kernel_rfl) rfl (by kernel_rfl) ?_))
  refine ret_row_tmp rfl rfl (setRow_heap _ _ _ _ _ _ HX5.out) Try.underlying32 rfl (by kernel_rfl) rfl ?_
  refine ⟨p, w4.heap.size, rfl, ?_⟩
  have hne : w4.heap.size ≠ w.heap.size := by have := (Array.getElem?_eq_some_iff.1 HX4.out).1; omega
  have hz : ∀ k, k ≠ w.heap.size → (w5.setRow w.heap.size (paC p w4.heap.size (.slice none 0 0) (.slice none 0 0))).heap[k]? = w5.heap[k]? := fun k hk => setRow_other w5 w.heap.size k _ hk
  have hsz : (w5.setRow w.heap.size (paC p w4.heap.size (.slice none 0 0) (.slice none 0 0))).heap.size = w5.heap.size := by simp [World.setRow]
  refine Bz.begun (G := fun g => g < w.heap.size) (F := F) (tv := .slice ma TN mc) (hM.stays P5.out (by rw [hsz]; exact Nat.le_refl _) (fun k hk => hz k (by have := F4.out k hk; omega))) (Dm.stays D5.out (by rw [hsz]; exact Nat.le_refl _) (fun k hk => hz k ?_) (fun k hk _ => hz k (by have hk' : k < w.heap.size := hk; omega))) (fun k hk => ⟨by have := F4.out k hk; omega, by have := hM.lt P4.out k hk; omega, by have := F4.out k hk; show ¬ k < w.heap.size; omega⟩) (fun k hk => by have hk' : k < w.heap.size := hk; have := B5.out.size; rw [hsz]; omega) (below_setRow B5.out (Nat.le_refl _) _) (by rw [hsz]; exact B5.out.size)
  rcases hk with e | e | e | e
  · omega
  · simp [Value.ownBlock] at e
  · simp [Value.ownBlock] at e
  · simp [Value.ownBlock] at e
end Go.Proofs.Ytflfnaiklnbaiaa

/- Share: what the program's functions of words must tell, over any machine. -/
namespace Go.Proofs.Ytflfnaiklnbaiaa
open Go.RowKit
set_option maxRecDepth 100000
/-- The program's gadgets of words, whatever its machine is made of. -/
structure ShI (Pm : World → Nat → Ms → (Nat → Prop) → Prop) : Prop where
  value : ∀ (v : Value) (vv : Nat → Nat) (L : Nat) (A : Nat → Int) (w : World), Rd .u64 w v (wdL vv L) → (∀ i, i < L → vv i < 2 ^ 64) → Calls Try.prog 18 #[v, .agg (wdV A)] w fun e w' => e = .returned (.int .u64 (vlN vv L A : Nat)) ∧ Below w.heap.size w w'
section
variable {Pm : World → Nat → Ms → (Nat → Prop) → Prop} (hM : Mach Pm) (hS : ShI Pm) {lo : Nat} {X : Nat → Prop} {W w : World} {b bd k : Nat} {S S2 : Ms}
include hM hS
end
theorem fields33 : Try.prog.underlying 39 = some (.struct (Try.prog.fieldsOf 39)) := by kernel_rfl
theorem run_eqItems_wd (w : World) (d : Nat) (W U : Nat → Int) : ∀ (is : List Nat), (∀ i ∈ is, i < 3) →
    (Op.eqItems (d + 1) 3 1 (wdV W) (wdV U) is).run Try.prog w = .ok (decide (∀ i ∈ is, W i = U i)) w
  | [], _ => by simp [Op.eqItems]
  | i :: is, h => by
    have hf := wdV_at W i (h i (by simp))
    have hg := wdV_at U i (h i (by simp))
    have ih := run_eqItems_wd w d W U is (fun j hj => h j (by simp [hj]))
    have p1 : (part 3 (wdV W) (i * 1)).run Try.prog w = .ok (.int .i64 (W i)) w := by simp only [Nat.mul_one]; simp [part, hf, run_underlying Try.underlying3, isAgg, go_sem]
    have p2 : (part 3 (wdV U) (i * 1)).run Try.prog w = .ok (.int .i64 (U i)) w := by simp only [Nat.mul_one]; simp [part, hg, run_underlying Try.underlying3, isAgg, go_sem]
    simp only [Op.eqItems, Sem.run_bind, p1, p2, Result.andThen_ok, run_equalIn_int w d 3 .i64 .i64 _ _ Try.underlying3]
    by_cases hh : W i = U i
    · simp [hh, ih]
    · have : (W i == U i) = false := by simp [hh]
      simp [this, hh]
theorem eqWd (W U : Nat → Int) (w : World) : (Op.equalIn 10000 39 (.agg (wdV W)) (.agg (wdV U))).run Try.prog w = .ok (decide (W 0 = U 0 ∧ W 1 = U 1 ∧ W 2 = U 2)) w := by
  have ha : (Op.equalIn 9999 37 (.agg (wdV W)) (.agg (wdV U))).run Try.prog w = .ok (decide (W 0 = U 0 ∧ W 1 = U 1 ∧ W 2 = U 2)) w := by
    obtain ⟨k, hk, h1⟩ : ∃ i, Try.prog.info? 3 = some i ∧ i.size = 1 := ⟨_, rfl, rfl⟩
    have hc : Try.prog.cellsOf 3 = 1 := by kernel_rfl
    rw [run_equalIn_array w 9998 _ _ Try.underlying37 hk, hc, run_eqItems_wd w 9997 W U _ (fun i hi => List.mem_range.1 hi)]
    congr 1
    simp [List.range, List.range.loop]
  rw [run_equalIn_struct w 9999 39 _ _ fields33 (by kernel_rfl)]
  simp only [Program.fieldsOf, Try.underlying39]
  generalize decide (W 0 = U 0 ∧ W 1 = U 1 ∧ W 2 = U 2) = q at *
  go_simp
  cases q <;> rfl
end Go.Proofs.Ytflfnaiklnbaiaa

/- Share: the program's functions of words, over any machine: one machine, and boxes beside it. -/
namespace Go.Proofs.Ytflfnaiklnbaiaa
open Go.RowKit
set_option maxRecDepth 100000
/-- From w0, with the blocks F0, a machine has come to S at w; bs: boxes that were made since. -/
structure Ow (Pm : World → Nat → Ms → (Nat → Prop) → Prop) (F0 : Nat → Prop) (w0 w : World) (b : Nat) (S : Ms) (bs : List (Nat × Obj)) : Prop where
  ex : ∃ F, Pm w b S F ∧ (∀ k, F k → F0 k ∨ w0.heap.size ≤ k) ∧ ∀ q ∈ bs, ¬ F q.1
  tch : Tch F0 w0 w
  bx : ∀ q ∈ bs, w0.heap.size ≤ q.1 ∧ w.heap[q.1]? = some q.2
  nd : (bs.map (·.1)).Nodup
section
variable {Pm : World → Nat → Ms → (Nat → Prop) → Prop} {F0 : Nat → Prop} {w0 w w' : World} {b : Nat} {S S' : Ms} {bs : List (Nat × Obj)}
theorem Ow.start {F : Nat → Prop} (h : Pm w b S F) : Ow Pm F w w b S [] := ⟨⟨F, h, fun _ q => .inl q, fun q hq => (List.not_mem_nil hq).elim⟩, Tch.refl _ _, fun q hq => (List.not_mem_nil hq).elim, by simp⟩
theorem Ow.lt (h : Ow Pm F0 w0 w b S bs) {q : Nat × Obj} (hq : q ∈ bs) : q.1 < w.heap.size := (Array.getElem?_eq_some_iff.1 (h.bx q hq).2).1
theorem Ow.self (hM : Mach Pm) (h : Ow Pm F0 w0 w b S bs) (hb : Below w.heap.size w w') : Ow Pm F0 w0 w' b S bs := by
  obtain ⟨F, h1, h2, h3⟩ := h.ex
  exact ⟨⟨F, hM.stays h1 hb.size (fun k hk => hb.block k (hM.lt h1 k hk)), h2, h3⟩, h.tch.trans (Tch.of_below (F := F0) hb) (fun _ _ f => f), fun q hq => ⟨(h.bx q hq).1, (hb.block _ (h.lt hq)).trans (h.bx q hq).2⟩, h.nd⟩
theorem Ow.new (hM : Mach Pm) (h : Ow Pm F0 w0 w b S bs) (cs : Array Value) (T : TypeId) : Ow Pm F0 w0 (w.alloc (.cells cs T)) b S ((w.heap.size, .cells cs T (0, 0)) :: bs) := by
  have h' := h.self hM ((Below.refl w.heap.size w).alloc (Nat.le_refl _) (.cells cs T))
  obtain ⟨F, h1, h2, h3⟩ := h.ex
  refine ⟨⟨F, hM.stays h1 (by rw [sz_al]; omega) (fun k hk => Below.heap_alloc w _ k (hM.lt h1 k hk)), h2, fun q hq => ?_⟩, h'.tch, fun q hq => ?_, ?_⟩
  · rcases List.mem_cons.1 hq with rfl | hq
    · exact fun e => by have := hM.lt h1 _ e; omega
    · exact h3 q hq
  · rcases List.mem_cons.1 hq with rfl | hq
    · exact ⟨h.tch.size, heap_alloc_new _ _⟩
    · exact h'.bx q hq
  · rw [List.map_cons, List.nodup_cons]
    refine ⟨fun e => ?_, h.nd⟩
    obtain ⟨q, hq, e⟩ := List.mem_map.1 e
    have := h.lt hq
    have e' : q.1 = w.heap.size := e
    omega
/-- Boxes are forgotten, or stand in another order. -/
theorem Ow.sub {bs' : List (Nat × Obj)} (h : Ow Pm F0 w0 w b S bs) (hs : ∀ q ∈ bs', q ∈ bs) (hn : (bs'.map (·.1)).Nodup) : Ow Pm F0 w0 w b S bs' := by
  obtain ⟨F, h1, h2, h3⟩ := h.ex
  exact ⟨⟨F, h1, h2, fun q hq => h3 q (hs q hq)⟩, h.tch, fun q hq => h.bx q (hs q hq), hn⟩
theorem Ow.drop {q : Nat × Obj} (h : Ow Pm F0 w0 w b S (q :: bs)) : Ow Pm F0 w0 w b S bs := h.sub (fun _ hz => List.mem_cons_of_mem _ hz) (by have := h.nd; rw [List.map_cons, List.nodup_cons] at this; exact this.2)
theorem Ow.swap {q r : Nat × Obj} (h : Ow Pm F0 w0 w b S (q :: r :: bs)) : Ow Pm F0 w0 w b S (r :: q :: bs) := h.sub (fun z hz => by simp at hz ⊢; rcases hz with e | e | e <;> simp [e]) (by
  have := h.nd
  simp only [List.map_cons, List.nodup_cons, List.mem_cons, not_or] at this ⊢
  exact ⟨⟨fun e => this.1.1 e.symm, this.2.1⟩, this.1.2, this.2.2⟩)
/-- The first box is turned. -/
theorem Ow.turn (hM : Mach Pm) {n : Nat} {o o' : Obj} (h : Ow Pm F0 w0 w b S ((n, o) :: bs)) (hn : w'.heap[n]? = some o') (ho : ∀ k, k ≠ n → w'.heap[k]? = w.heap[k]?) (hs : w.heap.size ≤ w'.heap.size) (hos : w'.os = w.os ∧ w'.tape = w.tape ∧ w'.output = w.output) : Ow Pm F0 w0 w' b S ((n, o') :: bs) := by
  have hb := h.bx _ (List.mem_cons_self ..)
  have hnd := h.nd
  rw [List.map_cons, List.nodup_cons] at hnd
  obtain ⟨F, h1, h2, h3⟩ := h.ex
  have hne : ∀ k, F k → k ≠ n := fun k hk e => h3 _ (List.mem_cons_self ..) (by show F n; rw [← e]; exact hk)
  refine ⟨⟨F, hM.stays h1 hs (fun k hk => ho k (hne k hk)), h2, fun q hq => ?_⟩, ?_, fun q hq => ?_, ?_⟩
  · rcases List.mem_cons.1 hq with rfl | hq
    · exact h3 (n, o) (List.mem_cons_self ..)
    · exact h3 q (List.mem_cons_of_mem _ hq)
  · have hn0 : w0.heap.size ≤ n := hb.1
    exact h.tch.trans ⟨hos.1, hos.2.1, hos.2.2, hs, fun k hk hF => ho k (fun e => hF (by show n = k; exact e.symm))⟩ (G := fun k => n = k) (fun j hj e => by have e' : n = j := e; omega)
  · rcases List.mem_cons.1 hq with rfl | hq
    · exact ⟨hb.1, hn⟩
    · exact ⟨(h.bx q (List.mem_cons_of_mem _ hq)).1, (ho q.1 (fun e => hnd.1 (List.mem_map.2 ⟨q, hq, e⟩))).trans (h.bx q (List.mem_cons_of_mem _ hq)).2⟩
  · rw [List.map_cons, List.nodup_cons]; exact hnd
theorem Ow.row (hM : Mach Pm) {n : Nat} {cs : Array Value} {T : TypeId} (h : Ow Pm F0 w0 w b S ((n, .cells cs T (0, 0)) :: bs)) (cs' : Array Value) : Ow Pm F0 w0 (w.setRow n cs') b S ((n, .cells cs' T (0, 0)) :: bs) :=
  h.turn hM (setRow_heap w n cs cs' T _ (h.bx _ (List.mem_cons_self ..)).2) (fun k hk => setRow_other w n k cs' hk) (by simp [World.setRow]) ⟨rfl, rfl, rfl⟩
theorem Ow.cell (hM : Mach Pm) {n : Nat} {cs : Array Value} {T : TypeId} (h : Ow Pm F0 w0 w b S ((n, .cells cs T (0, 0)) :: bs)) (i : Nat) (v : Value) : Ow Pm F0 w0 (w.setCell ⟨n, i, none⟩ v) b S ((n, .cells (cs.setIfInBounds i v) T (0, 0)) :: bs) :=
  h.turn hM (heap_setCell_same w n i cs T v (h.bx _ (List.mem_cons_self ..)).2) (fun k hk => heap_setCell_other w ⟨n, i, none⟩ k v hk) (by simp [World.setCell]) ⟨rfl, rfl, rfl⟩
theorem Ow.bl (h : Ow Pm F0 w0 w b S bs) (i : Nat) {n : Nat} {u : Obj} (hi : bs[i]? = some (n, u)) : w.heap[n]? = some u := (h.bx (n, u) (List.mem_of_getElem? hi)).2
/-- A method's contract. -/
theorem Ow.lift (_ : Mach Pm) (h : Ow Pm F0 w0 w b S bs) {f : FuncId} {args : Array Value} {E : Ending → Prop} (hc : ∀ F, Pm w b S F → Calls Try.prog f args w fun e w' => E e ∧ PmR Pm b S' F w w') : Calls Try.prog f args w fun e w' => E e ∧ Ow Pm F0 w0 w' b S' bs := by
  obtain ⟨F, h1, h2, h3⟩ := h.ex
  refine (hc F h1).mono fun e w' hr => ⟨hr.1, ?_⟩
  obtain ⟨F', g1, g2, g3⟩ := hr.2
  refine ⟨⟨F', g1, fun k hk => ?_, fun q hq e => ?_⟩, h.tch.trans g2 (fun j hj f => (h2 j f).resolve_right (by omega)), fun q hq => ⟨(h.bx q hq).1, (g2.block q.1 (h.lt hq) (h3 q hq)).trans (h.bx q hq).2⟩, h.nd⟩
  · rcases g3 k hk with f | f
    · exact h2 k f
    · exact .inr (Nat.le_trans h.tch.size f)
  · rcases g3 _ e with f | f
    · exact h3 q hq f
    · have := h.lt hq; omega
theorem Ow.fin (h : Ow Pm F0 w0 w b S bs) : PmR Pm b S F0 w0 w := by
  obtain ⟨F, h1, h2, _⟩ := h.ex
  exact ⟨F, h1, h.tch, h2⟩
/-- A contract that makes memory alone. -/
theorem Ow.asks (h : Ow Pm F0 w0 w b S bs) {f : FuncId} {args : Array Value} {E : Ending → World → Prop} (hc : ∀ F, Pm w b S F → Calls Try.prog f args w E) : Calls Try.prog f args w E := by
  obtain ⟨F, h1, _, _⟩ := h.ex
  exact hc F h1
end
end Go.Proofs.Ytflfnaiklnbaiaa

/- Two machines in one world, and boxes of any kind beside them; the document's machine alone, and boxes. -/
namespace Go.Proofs.Ytflfnaiklnbaiaa
open Go.RowKit
set_option maxRecDepth 100000
/-- Both machines, and boxes (new since w0) beside them; X0: what is left alone. -/
structure Gy (Pm : World → Nat → Ms → (Nat → Prop) → Prop) (lo : Nat) (X0 : Nat → Prop) (W w0 wx : World) (p b : Nat) (S1 S2 : Ms) (bs : List (Nat × Obj)) : Prop where
  z : Bz Pm lo (fun k => X0 k ∨ ∃ q ∈ bs, q.1 = k) W wx p b S1 S2
  bx : ∀ q ∈ bs, w0.heap.size ≤ q.1 ∧ wx.heap[q.1]? = some q.2
  st : ∀ k, X0 k → k < w0.heap.size ∧ wx.heap[k]? = w0.heap[k]?
  lo : lo ≤ w0.heap.size
  le : w0.heap.size ≤ wx.heap.size
  nd : (bs.map (·.1)).Nodup
section
variable {Pm : World → Nat → Ms → (Nat → Prop) → Prop} {lo : Nat} {X0 : Nat → Prop} {W w0 wx wy : World} {p b : Nat} {S1 S2 S1' S2' : Ms} {bs : List (Nat × Obj)}
theorem Gy.start (h : Bz Pm lo X0 W w0 p b S1 S2) : Gy Pm lo X0 W w0 w0 p b S1 S2 [] := by
  have hX : ∀ k, X0 k → k < w0.heap.size := by
    obtain ⟨F, G, ov, bv, vv, tv, h1, h2, h3, h4, h5, h6, h7⟩ := h
    exact fun k hk => (h4 k hk).1
  refine ⟨h.less (fun k hk => ?_), fun q hq => (List.not_mem_nil hq).elim, fun k hk => ⟨hX k hk, rfl⟩, h.los, Nat.le_refl _, by simp⟩
  rcases hk with e | ⟨q, hq, _⟩
  · exact e
  · exact (List.not_mem_nil hq).elim
theorem Gy.lt (h : Gy Pm lo X0 W w0 wx p b S1 S2 bs) {q : Nat × Obj} (hq : q ∈ bs) : q.1 < wx.heap.size := (Array.getElem?_eq_some_iff.1 (h.bx q hq).2).1
theorem Gy.self (hM : Mach Pm) (h : Gy Pm lo X0 W w0 wx p b S1 S2 bs) (hb : Below wx.heap.size wx wy) : Gy Pm lo X0 W w0 wy p b S1 S2 bs :=
  ⟨h.z.self hM hb, fun q hq => ⟨(h.bx q hq).1, (hb.block _ (h.lt hq)).trans (h.bx q hq).2⟩, fun k hk => ⟨(h.st k hk).1, (hb.block k (Nat.lt_of_lt_of_le (h.st k hk).1 h.le)).trans (h.st k hk).2⟩, h.lo, Nat.le_trans h.le hb.size, h.nd⟩
theorem Gy.new (hM : Mach Pm) (h : Gy Pm lo X0 W w0 wx p b S1 S2 bs) (cs : Array Value) (T : TypeId) : Gy Pm lo X0 W w0 (wx.alloc (.cells cs T)) p b S1 S2 ((wx.heap.size, .cells cs T (0, 0)) :: bs) := by
  have hb := (Below.refl wx.heap.size wx).alloc (Nat.le_refl _) (.cells cs T)
  have h' := h.self hM hb
  refine ⟨(h.z.more hM hb).less (fun k hk => ?_), fun q hq => ?_, h'.st, h.lo, h'.le, ?_⟩
  · rcases hk with e | ⟨q, hq, rfl⟩
    · exact .inl (.inl e)
    · rcases List.mem_cons.1 hq with rfl | hq
      · exact .inr ⟨Nat.le_refl _, by simp⟩
      · exact .inl (.inr ⟨q, hq, rfl⟩)
  · rcases List.mem_cons.1 hq with rfl | hq
    · exact ⟨h.le, heap_alloc_new _ _⟩
    · exact h'.bx q hq
  · rw [List.map_cons, List.nodup_cons]
    refine ⟨fun e => ?_, h.nd⟩
    obtain ⟨q, hq, e⟩ := List.mem_map.1 e
    have := h.lt hq
    have e' : q.1 = wx.heap.size := e
    omega
theorem Gy.sub {bs' : List (Nat × Obj)} (h : Gy Pm lo X0 W w0 wx p b S1 S2 bs) (hs : ∀ q ∈ bs', q ∈ bs) (hn : (bs'.map (·.1)).Nodup) : Gy Pm lo X0 W w0 wx p b S1 S2 bs' :=
  ⟨h.z.less (fun _ hk => hk.imp id (fun ⟨q, hq, e⟩ => ⟨q, hs q hq, e⟩)), fun q hq => h.bx q (hs q hq), h.st, h.lo, h.le, hn⟩
theorem Gy.drop {q : Nat × Obj} (h : Gy Pm lo X0 W w0 wx p b S1 S2 (q :: bs)) : Gy Pm lo X0 W w0 wx p b S1 S2 bs := h.sub (fun _ hz => List.mem_cons_of_mem _ hz) (by have := h.nd; rw [List.map_cons, List.nodup_cons] at this; exact this.2)
theorem Gy.swap {q r : Nat × Obj} (h : Gy Pm lo X0 W w0 wx p b S1 S2 (q :: r :: bs)) : Gy Pm lo X0 W w0 wx p b S1 S2 (r :: q :: bs) := h.sub (fun z hz => by simp at hz ⊢; rcases hz with e | e | e <;> simp [e]) (by
  have := h.nd
  simp only [List.map_cons, List.nodup_cons, List.mem_cons, not_or] at this ⊢
  exact ⟨⟨fun e => this.1.1 e.symm, this.2.1⟩, this.1.2, this.2.2⟩)
/-- The first box is turned. -/
theorem Gy.turn (hM : Mach Pm) {n : Nat} {o o' : Obj} (h : Gy Pm lo X0 W w0 wx p b S1 S2 ((n, o) :: bs)) (hn : wy.heap[n]? = some o') (ho : ∀ k, k ≠ n → wy.heap[k]? = wx.heap[k]?) (hs : wx.heap.size ≤ wy.heap.size) (hos : wy.os = wx.os ∧ wy.tape = wx.tape ∧ wy.output = wx.output) : Gy Pm lo X0 W w0 wy p b S1 S2 ((n, o') :: bs) := by
  have hb := h.bx _ (List.mem_cons_self ..)
  have hnd := h.nd
  rw [List.map_cons, List.nodup_cons] at hnd
  have hT : Tch (fun k => k = n) wx wy := ⟨hos.1, hos.2.1, hos.2.2, hs, fun k _ hk => ho k hk⟩
  refine ⟨(h.z.apart hM hT (fun k hk => ?_)).less (fun k hk => ?_), fun q hq => ?_, fun k hk => ⟨(h.st k hk).1, (ho k (by have := (h.st k hk).1; have e : w0.heap.size ≤ n := hb.1; omega)).trans (h.st k hk).2⟩, h.lo, Nat.le_trans h.le hs, ?_⟩
  · subst hk
    exact ⟨.inr ⟨(k, o), List.mem_cons_self .., rfl⟩, Nat.le_trans h.lo hb.1⟩
  · rcases hk with e | ⟨q, hq, rfl⟩
    · exact .inl e
    · rcases List.mem_cons.1 hq with rfl | hq
      · exact .inr ⟨(n, o), List.mem_cons_self .., rfl⟩
      · exact .inr ⟨q, List.mem_cons_of_mem _ hq, rfl⟩
  · rcases List.mem_cons.1 hq with rfl | hq
    · exact ⟨hb.1, hn⟩
    · exact ⟨(h.bx q (List.mem_cons_of_mem _ hq)).1, (ho q.1 (fun e => hnd.1 (List.mem_map.2 ⟨q, hq, e⟩))).trans (h.bx q (List.mem_cons_of_mem _ hq)).2⟩
  · rw [List.map_cons, List.nodup_cons]; exact hnd
theorem Gy.row (hM : Mach Pm) {n : Nat} {cs : Array Value} {T : TypeId} (h : Gy Pm lo X0 W w0 wx p b S1 S2 ((n, .cells cs T (0, 0)) :: bs)) (cs' : Array Value) : Gy Pm lo X0 W w0 (wx.setRow n cs') p b S1 S2 ((n, .cells cs' T (0, 0)) :: bs) :=
  h.turn hM (setRow_heap wx n cs cs' T _ (h.bx _ (List.mem_cons_self ..)).2) (fun k hk => setRow_other wx n k cs' hk) (by simp [World.setRow]) ⟨rfl, rfl, rfl⟩
theorem Gy.cell (hM : Mach Pm) {n : Nat} {cs : Array Value} {T : TypeId} (h : Gy Pm lo X0 W w0 wx p b S1 S2 ((n, .cells cs T (0, 0)) :: bs)) (i : Nat) (v : Value) : Gy Pm lo X0 W w0 (wx.setCell ⟨n, i, none⟩ v) p b S1 S2 ((n, .cells (cs.setIfInBounds i v) T (0, 0)) :: bs) :=
  h.turn hM (heap_setCell_same wx n i cs T v (h.bx _ (List.mem_cons_self ..)).2) (fun k hk => heap_setCell_other wx ⟨n, i, none⟩ k v hk) (by simp [World.setCell]) ⟨rfl, rfl, rfl⟩
theorem Gy.bl (h : Gy Pm lo X0 W w0 wx p b S1 S2 bs) (i : Nat) {n : Nat} {u : Obj} (hi : bs[i]? = some (n, u)) : wx.heap[n]? = some u := (h.bx (n, u) (List.mem_of_getElem? hi)).2
theorem Bz.base {X : Nat → Prop} (h : Bz Pm lo X W wx p b S1 S2) : Bz Pm lo X wx wx p b S1 S2 := by
  obtain ⟨F, G, ov, bv, vv, tv, h1, h2, h3, h4, h5, h6, h7⟩ := h
  exact ⟨F, G, ov, bv, vv, tv, h1, h2, h3, h4, h5, Below.refl _ _, h7⟩
theorem Bz.up {X : Nat → Prop} (h : Bz Pm lo X wx wy p b S1 S2) (hb : Below lo W wx) : Bz Pm lo X W wy p b S1 S2 := by
  obtain ⟨F, G, ov, bv, vv, tv, h1, h2, h3, h4, h5, h6, h7⟩ := h
  exact ⟨F, G, ov, bv, vv, tv, h1, h2, h3, h4, h5, hb.trans h6, h7⟩
/-- A call of either machine's. -/
theorem Gy.lift (h : Gy Pm lo X0 W w0 wx p b S1 S2 bs) {p' : Nat} {f : FuncId} {args : Array Value} {E : Ending → Prop} (hc : ∀ X W, Bz Pm lo X W wx p b S1 S2 → Calls Try.prog f args wx fun e w' => E e ∧ Bz Pm lo X W w' p' b S1' S2' ∧ ∀ k, X k → w'.heap[k]? = wx.heap[k]?) :
    Calls Try.prog f args wx fun e w' => E e ∧ Gy Pm lo X0 W w0 w' p' b S1' S2' bs :=
  (hc _ wx h.z.base).mono fun _ _ hr => ⟨hr.1, hr.2.1.up h.z.low, fun q hq => ⟨(h.bx q hq).1, (hr.2.2 _ (.inr ⟨q, hq, rfl⟩)).trans (h.bx q hq).2⟩, fun k hk => ⟨(h.st k hk).1, (hr.2.2 k (.inl hk)).trans (h.st k hk).2⟩, h.lo, Nat.le_trans h.le hr.2.1.low.size, h.nd⟩
/-- A call that makes memory alone. -/
theorem Gy.asks (hM : Mach Pm) (h : Gy Pm lo X0 W w0 wx p b S1 S2 bs) {f : FuncId} {args : Array Value} {E : Ending → World → Prop} (hc : ∀ X W, Bz Pm lo X W wx p b S1 S2 → Calls Try.prog f args wx fun e w' => E e w' ∧ Below wx.heap.size wx w') :
    Calls Try.prog f args wx fun e w' => E e w' ∧ Gy Pm lo X0 W w0 w' p b S1 S2 bs :=
  (hc _ wx h.z.base).mono fun _ _ hr => ⟨hr.1, h.self hM hr.2⟩
theorem Gy.fin (h : Gy Pm lo X0 W w0 wx p b S1 S2 bs) : Bz Pm lo X0 W wx p b S1 S2 ∧ ∀ k, X0 k → wx.heap[k]? = w0.heap[k]? := ⟨h.z.less (fun _ hk => .inl hk), fun k hk => (h.st k hk).2⟩
end
end Go.Proofs.Ytflfnaiklnbaiaa
