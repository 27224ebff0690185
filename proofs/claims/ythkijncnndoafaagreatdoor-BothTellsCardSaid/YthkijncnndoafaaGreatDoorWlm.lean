import Derived.Test.YthkijncnndoafaaGreatDoorProg
import Derived.Test.YthkijncnndoafaaGreatDoorAcw
import Derived.Test.YthkijncnndoafaaGreatDoorOcb
import Derived.Deep.CutRange
import Derived.Deep.CutBlock
import Derived.Test.YthkijncnndoafaaGreatDoorWde
import Derived.Test.YthkijncnndoafaaGreatDoorGen
import Derived.Laws.Rows
import Derived.Laws.Tables
import Derived.Laws.StructEq
import Derived.ChangeKeysEq
import Derived.Deep.WholeRow
import Derived.Deep.DeepMust
namespace Go.Proofs.YthkijncnndoafaaGreatDoor
open Go.RowKit
set_option maxRecDepth 100000
theorem orw_rd {w : World} {B : Nat} {v : Value} {f : Nat → Nat} {L : Nat} (h : Orw w B 34 1 v L (fun i => [.int .u64 (f i : Int)])) (hL : L ≤ 1000000) (hf : ∀ i, i < L → f i < 2 ^ 64) : Rd .u64 w v (wdL f L) := by
 obtain ⟨a, cap, rfl, h1, h2, h3, h4⟩ := h.slice
 refine ⟨a, cap, by rw [wdL_len], by rw [wdL_len]; show L * 8 ≤ _; omega, fun z hz => ?_, fun h0 => ?_⟩
 ·
  unfold wdL at hz
  obtain ⟨i, hi, rfl⟩ := List.mem_map.1 hz
  exact WalkArith.wf_u64 (by have := hf i (List.mem_range.1 hi); omega)
 ·
  rw [wdL_len] at h0 ⊢
  obtain ⟨g, rfl⟩ := h4 h0
  refine ⟨g, 0, rfl, (Orw.lt h g rfl).2, fun j hj => ?_⟩
  have := Orw.cell h (fun _ => rfl) hj (by decide : 0 < 1) (u := .int .u64 (f j : Int)) rfl
  rw [wdL_nth f hj]
  simpa using this
theorem orw_rop {w : World} {B : Nat} {v : Value} {f : Nat → Op6} {L : Nat} (h : Orw w B 75 6 v L (fun i => (opCs (f i)).toList)) (hL : L ≤ 1000000) (hf : ∀ i, i < L → opwf (f i)) : ROp w v L f := by
 obtain ⟨a, cap, rfl, h1, h2, h3, h4⟩ := h.slice
 refine ⟨by omega, hf, a, cap, rfl, h1, h2, fun h0 => ?_⟩
 obtain ⟨g, rfl⟩ := h4 h0
 refine ⟨g, 0, rfl, (Orw.lt h g rfl).2, fun i hi => ?_⟩
 have hc : ∀ j u, j < 6 → (opCs (f i)).toList[j]? = some u → w.cell? ⟨g, 0 + i * 6 + j, none⟩ = some u := fun j u hj hu => by
  rw [Nat.zero_add]; exact Orw.cell h (fun _ => rfl) hi hj hu
 exact ⟨hc 0 _ (by decide) rfl, hc 1 _ (by decide) rfl, hc 2 _ (by decide) rfl, hc 3 _ (by decide) rfl, hc 4 _ (by decide) rfl, hc 5 _ (by decide) rfl⟩
theorem orw_rsp {w : World} {B : Nat} {v : Value} {f : Nat → Sp3} {L : Nat} (h : Orw w B 89 3 v L (fun i => (spCs (f i)).toList)) (hL : L ≤ 1000000) (hf : ∀ i, i < L → spwf (f i)) : RSp w v L f := by
 obtain ⟨a, cap, rfl, h1, h2, h3, h4⟩ := h.slice
 refine ⟨by omega, hf, a, cap, rfl, h1, h2, fun h0 => ?_⟩
 obtain ⟨g, rfl⟩ := h4 h0
 refine ⟨g, 0, rfl, (Orw.lt h g rfl).2, fun i hi => ?_⟩
 have hc : ∀ j u, j < 3 → (spCs (f i)).toList[j]? = some u → w.cell? ⟨g, 0 + i * 3 + j, none⟩ = some u := fun j u hj hu => by
  rw [Nat.zero_add]; exact Orw.cell h (fun _ => rfl) hi hj hu
 exact ⟨hc 0 _ (by decide) rfl, hc 1 _ (by decide) rfl, hc 2 _ (by decide) rfl⟩
section
variable {Pm : World → Nat → Ms → (Nat → Prop) → Prop} (hM : Mach Pm) {lo : Nat} {X : Nat → Prop} {W w : World} {p b k : Nat} {S S2 : Ms}
include hM
theorem zn (h : Bz Pm lo X W w p b S S2) (hq : Bq k S) (hk : k ≤ 1000000) : Calls Tryz.prog 76 #[.pointer (some ⟨p, 0, none⟩)] w fun e w' => e = .returned (.int .i64 S.n) ∧ Below w.heap.size w w' := by
 obtain ⟨F, G, ov, bv, vv, tv, h1, h2, h3, h4, h5, h6, h7⟩ := h
 exact hM.n p k S F w h1 hq hk
theorem zerr (h : Bz Pm lo X W w p b S S2) (hq : Bq k S) (hk : k ≤ 1000000) : Calls Tryz.prog 55 #[.pointer (some ⟨p, 0, none⟩)] w fun e w' => e = .returned (.int .i64 (S.e : Nat)) ∧ Below w.heap.size w w' := by
 obtain ⟨F, G, ov, bv, vv, tv, h1, h2, h3, h4, h5, h6, h7⟩ := h
 exact hM.err p k S F w h1 hq hk
theorem ztrace (h : Bz Pm lo X W w p b S S2) (hq : Bq k S) (hk : k ≤ 1000000) : Calls Tryz.prog 57 #[.pointer (some ⟨p, 0, none⟩)] w fun e w' => ∃ v0 v1, e = .returned (.agg #[.int .i64 S.n, v0, v1]) ∧ ROp w' v0 (S.keep S.L) S.f ∧ RSp w' v1 (S.keep S.M) S.g ∧ Below w.heap.size w w' := by
 obtain ⟨F, G, ov, bv, vv, tv, h1, h2, h3, h4, h5, h6, h7⟩ := h
 exact hM.trace p k S F w h1 hq hk
theorem zvalues (h : Bz Pm lo X W w p b S S2) (hq : Bq k S) (hk : k ≤ 1000000) : Calls Tryz.prog 26 #[.pointer (some ⟨p, 0, none⟩)] w fun e w' => ∃ v, e = .returned v ∧ Rd .u64 w' v (wdL S.v (S.keep S.L)) ∧ Below w.heap.size w w' := by
 obtain ⟨F, G, ov, bv, vv, tv, h1, h2, h3, h4, h5, h6, h7⟩ := h
 exact hM.values p k S F w h1 hq hk
omit hM
theorem ytrace (h : Bz Pm lo X W w p b S2 S) (hq : Bq k S) (hk : k ≤ 100000) : Calls Tryz.prog 58 #[.pointer (some ⟨b, 0, none⟩)] w fun e w' => ∃ v0 v1, e = .returned (.agg #[.int .i64 S.n, v0, v1]) ∧ ROp w' v0 S.L S.f ∧ RSp w' v1 S.M S.g ∧ Below w.heap.size w w' := by
 obtain ⟨F, G, ov, bv, vv, tv, h1, h2, h3, h4, h5, h6, h7⟩ := h
 have hl := hq.len
 unfold Ms.len at hl
 exact (dtrace_any ⟨lo, G⟩ b S ov bv vv tv w h2).mono fun e w' hr => ⟨ov, bv, hr.1, (orw_rop h2.ops (by omega) hq.ops).self hr.2, (orw_rsp h2.bls (by have := hq.M; omega) hq.sps).self hr.2, hr.2⟩
theorem Bz.vv (h : Bz Pm lo X W w p b S2 S) (hq : Bq k S) (hk : k ≤ 100000) : ∃ a cap, w.cell? ⟨b, 10, none⟩ = some (.slice a S.L cap) ∧ Rd .u64 w (.slice a S.L cap) (wdL S.v S.L) := by
 obtain ⟨F, G, ov, bv, vv, tv, h1, h2, h3, h4, h5, h6, h7⟩ := h
 have hl := hq.len
 unfold Ms.len at hl
 obtain ⟨a, cap, rfl, _⟩ := h2.vals
 exact ⟨a, cap, h2.c_vv, orw_rd h2.val (by omega) hq.v⟩
theorem Bz.c0 (h : Bz Pm lo X W w p b S2 S) : w.cell? ⟨b, 0, none⟩ = some (.int .i64 S.n) ∧ w.cell? ⟨b, 3, none⟩ = some (.int .i64 (S.draws : Int)) ∧ w.cell? ⟨b, 7, none⟩ = some (.int .i64 (S.e : Int)) ∧ w.cell? ⟨b, 14, none⟩ = some (.bool S.dry) := by
 obtain ⟨F, G, ov, bv, vv, tv, h1, h2, h3, h4, h5, h6, h7⟩ := h
 exact ⟨h2.c_n, h2.c_draws, h2.c_e, h2.c_dry⟩
end

def updI (W : Nat → Int) (j : Nat) (z : Int) : Nat → Int := fun i => if i = j then z else W i
theorem updI_at (W : Nat → Int) (j : Nat) (z : Int) : updI W j z j = z := by simp [updI]
theorem updI_no (W : Nat → Int) {j i : Nat} (z : Int) (h : i ≠ j) : updI W j z i = W i := by simp [updI, h]
def I64 (z : Int) : Prop := -9223372036854775808 ≤ z ∧ z ≤ 9223372036854775807
def Wb (W : Nat → Int) : Prop := ∀ i, I64 (W i)
theorem I64.m1 : I64 (-1) := by unfold I64; omega
theorem Wb.upd {W : Nat → Int} (h : Wb W) {j : Nat} {z : Int} (hz : I64 z) : Wb (updI W j z) := fun i => by
 by_cases e : i = j
 · subst e; rw [updI_at]; exact hz
 · rw [updI_no _ _ e]; exact h i
theorem doR_bd {k : Nat} {S : Ms} (h : Bq k S) (hk : k ≤ 1000000) (o : Op6) : I64 (S.doR o) := by
 have := h.len
 unfold Ms.doR I64
 split <;> omega
def eaS (S : Ms) (op : Nat → Op6) (lo : Nat) : Nat → Ms
 | 0 => S
 | m + 1 => (eaS S op lo m).doS (op (lo + m)) 0
def eaR (S : Ms) (op : Nat → Op6) (lo : Nat) (W : Nat → Int) : Nat → Nat → Int
 | 0 => W
 | m + 1 => updI (eaR S op lo W m) (lo + m) ((eaS S op lo m).doR (op (lo + m)))
theorem eaS_bq {k : Nat} {S : Ms} (h : Bq k S) {op : Nat → Op6} (lo : Nat) : ∀ m, (∀ j, j < m → opwf (op (lo + j))) → Bq (k + m) (eaS S op lo m)
 | 0, _ => h
 | m + 1, ho => (eaS_bq h lo m (fun j hj => ho j (by omega))).does (ho m (by omega)) (by decide)
theorem eaS_n (S : Ms) (op : Nat → Op6) (lo : Nat) : ∀ m, (eaS S op lo m).n = S.n
 | 0 => rfl
 | m + 1 => by rw [eaS, doS_n, eaS_n S op lo m]
theorem eaR_wb {k : Nat} {S : Ms} (h : Bq k S) {op : Nat → Op6} (lo : Nat) {W : Nat → Int} (hW : Wb W) : ∀ m, (∀ j, j < m → opwf (op (lo + j))) → k + m ≤ 1000000 → Wb (eaR S op lo W m)
 | 0, _, _ => hW
 | m + 1, ho, hk => (eaR_wb h lo hW m (fun j hj => ho j (by omega)) (by omega)).upd (doR_bd (eaS_bq h lo m (fun j hj => ho j (by omega))) (by omega) _)
def Ms.sh (S : Ms) : Nat := S.n.toNat
def none3 : Nat → Int := fun _ => -1
theorem none3_wb : Wb none3 := fun _ => I64.m1
def opCst (K : Int) (c : Nat) (i : Nat) : Op6 := if i = 0 then ⟨K, 0, -1, -1, -1, c⟩ else ⟨3, (i : Int), -1, -1, -1, 0⟩
def opXor (A B : Nat → Int) (i : Nat) : Op6 := ⟨5, (i : Int), A i, B i, -1, 0⟩
def opOne (K : Int) (A : Nat → Int) (c : Nat) (i : Nat) : Op6 := ⟨K, (i : Int), A i, -1, -1, c⟩
def opNot (A : Nat → Int) : Op6 := ⟨6, 0, A 0, -1, -1, 0⟩
def cstS (S : Ms) (K : Int) (c : Nat) : Ms := eaS S (opCst K c) 0 S.sh
def cstR (S : Ms) (K : Int) (c : Nat) : Nat → Int := eaR S (opCst K c) 0 none3 S.sh
def xorS (S : Ms) (A B : Nat → Int) : Ms := eaS S (opXor A B) 0 S.sh
def xorR (S : Ms) (A B : Nat → Int) : Nat → Int := eaR S (opXor A B) 0 none3 S.sh
def oneS (S : Ms) (K : Int) (A : Nat → Int) (c : Nat) : Ms := eaS S (opOne K A c) 0 S.sh
def oneR (S : Ms) (K : Int) (A : Nat → Int) (c : Nat) : Nat → Int := eaR S (opOne K A c) 0 none3 S.sh
def notS (S : Ms) (A : Nat → Int) : Ms := S.doS (opNot A) 0
def notR (S : Ms) (A : Nat → Int) : Nat → Int := updI A 0 (S.doR (opNot A))
def opAd1 (K : Int) (c : Nat) : Op6 := ⟨K, 0, -1, -1, -1, c⟩
theorem i64c (z : Int) (h : 0 ≤ z) (h2 : z ≤ 1000) : -9223372036854775808 ≤ z ∧ z ≤ 9223372036854775807 := by omega
theorem opCst_wf {K : Int} (hK : I64 K) {c i : Nat} (hc : c < 2 ^ 64) (hi : i ≤ 100) : opwf (opCst K c i) := by
 unfold opCst
 split
 · exact ⟨hK, i64c 0 (by decide) (by decide), I64.m1, I64.m1, I64.m1, by show c < _; omega⟩
 · exact ⟨i64c 3 (by decide) (by decide), by show _ ≤ (i : Int) ∧ (i : Int) ≤ _; omega, I64.m1, I64.m1, I64.m1, by show 0 < _; omega⟩
theorem opXor_wf {A B : Nat → Int} (hA : Wb A) (hB : Wb B) {i : Nat} (hi : i ≤ 100) : opwf (opXor A B i) := ⟨i64c 5 (by decide) (by decide), by show _ ≤ (i : Int) ∧ (i : Int) ≤ _; omega, hA i, hB i, I64.m1, by show 0 < _; omega⟩
theorem opOne_wf {K : Int} (hK : I64 K) {A : Nat → Int} (hA : Wb A) {c i : Nat} (hc : c < 2 ^ 64) (hi : i ≤ 100) : opwf (opOne K A c i) := ⟨hK, by show _ ≤ (i : Int) ∧ (i : Int) ≤ _; omega, hA i, I64.m1, I64.m1, by show c < _; omega⟩
theorem opNot_wf {A : Nat → Int} (hA : Wb A) : opwf (opNot A) := ⟨i64c 6 (by decide) (by decide), i64c 0 (by decide) (by decide), hA 0, I64.m1, I64.m1, by show 0 < _; omega⟩
theorem opAd1_wf {K : Int} (hK : I64 K) {c : Nat} (hc : c < 2 ^ 64) : opwf (opAd1 K c) := ⟨hK, i64c 0 (by decide) (by decide), I64.m1, I64.m1, I64.m1, by show c < _; omega⟩
open Go.RowKit
set_option maxRecDepth 100000
abbrev wdV (W : Nat → Int) : Array Value := #[.int .i64 (W 0), .int .i64 (W 1), .int .i64 (W 2)]
theorem wdV_upd (W : Nat → Int) (j : Nat) (z : Int) (hj : j < 3) : (wdV W).setIfInBounds j (.int .i64 z) = wdV (updI W j z) := by
 rcases (by omega : j = 0 ∨ j = 1 ∨ j = 2) with rfl | rfl | rfl <;> simp [wdV, updI]
theorem wdV_at (W : Nat → Int) (j : Nat) (hj : j < 3) : (wdV W)[j]? = some (.int .i64 (W j)) := by
 rcases (by omega : j = 0 ∨ j = 1 ∨ j = 2) with rfl | rfl | rfl <;> rfl
structure Gz (Pm : World → Nat → Ms → (Nat → Prop) → Prop) (lo : Nat) (X0 : Nat → Prop) (W w0 wx : World) (p b : Nat) (S1 S2 : Ms) (bs : List (Nat × Array Value)) : Prop where
 z : Bz Pm lo (fun k => X0 k ∨ ∃ q ∈ bs, q.1 = k) W wx p b S1 S2
 bx : ∀ q ∈ bs, w0.heap.size ≤ q.1 ∧ wx.heap[q.1]? = some (.cells q.2 37 (0, 0))
 st : ∀ k, X0 k → k < w0.heap.size ∧ wx.heap[k]? = w0.heap[k]?
 lo : lo ≤ w0.heap.size
section
variable {Pm : World → Nat → Ms → (Nat → Prop) → Prop} {lo : Nat} {X0 : Nat → Prop} {W w0 wx wy : World} {p b : Nat} {S1 S2 S1' S2' : Ms} {bs : List (Nat × Array Value)}
theorem Gz.start (h : Bz Pm lo X0 W w0 p b S1 S2) : Gz Pm lo X0 W w0 w0 p b S1 S2 [] := by
 have hX : ∀ k, X0 k → k < w0.heap.size := by
  obtain ⟨F, G, ov, bv, vv, tv, h1, h2, h3, h4, h5, h6, h7⟩ := h
  exact fun k hk => (h4 k hk).1
 refine ⟨h.less (fun k hk => ?_), fun q hq => (List.not_mem_nil hq).elim, fun k hk => ⟨hX k hk, rfl⟩, h.los⟩
 rcases hk with e | ⟨q, hq, _⟩
 · exact e
 · exact (List.not_mem_nil hq).elim
theorem Gz.self (hM : Mach Pm) (h : Gz Pm lo X0 W w0 wx p b S1 S2 bs) (hb : Below wx.heap.size wx wy) : Gz Pm lo X0 W w0 wy p b S1 S2 bs :=
 ⟨h.z.self hM hb, fun q hq => ⟨(h.bx q hq).1, (hb.block _ (Array.getElem?_eq_some_iff.1 (h.bx q hq).2).1).trans (h.bx q hq).2⟩, fun k hk => ⟨(h.st k hk).1, (hb.block k (by
  obtain ⟨F, G, ov, bv, vv, tv, h1, h2, h3, h4, h5, h6, h7⟩ := h.z
  exact (h4 k (.inl hk)).1)).trans (h.st k hk).2⟩, h.lo⟩
theorem Gz.box (hM : Mach Pm) (h : Gz Pm lo X0 W w0 wx p b S1 S2 bs) (hs : w0.heap.size ≤ wx.heap.size) (cs : Array Value) : Gz Pm lo X0 W w0 (wx.alloc (.cells cs 37)) p b S1 S2 ((wx.heap.size, cs) :: bs) := by
 have hb := (Below.refl wx.heap.size wx).alloc (Nat.le_refl _) (.cells cs 37)
 have h' := h.self hM hb
 refine ⟨(h.z.more hM hb).less (fun k hk => ?_), fun q hq => ?_, h'.st, h.lo⟩
 ·
  rcases hk with e | ⟨q, hq, rfl⟩
  · exact .inl (.inl e)
  ·
   rcases List.mem_cons.1 hq with rfl | hq
   · exact .inr ⟨Nat.le_refl _, by simp⟩
   · exact .inl (.inr ⟨q, hq, rfl⟩)
 ·
  rcases List.mem_cons.1 hq with rfl | hq
  · exact ⟨hs, heap_alloc_new _ _⟩
  · exact h'.bx q hq
theorem Gz.on {p' : Nat} (h : Gz Pm lo X0 W w0 wx p b S1 S2 bs) (hz : Bz Pm lo (fun k => X0 k ∨ ∃ q ∈ bs, q.1 = k) W wy p' b S1' S2') (hs : ∀ k, (X0 k ∨ ∃ q ∈ bs, q.1 = k) → wy.heap[k]? = wx.heap[k]?) : Gz Pm lo X0 W w0 wy p' b S1' S2' bs :=
 ⟨hz, fun q hq => ⟨(h.bx q hq).1, (hs _ (.inr ⟨q, hq, rfl⟩)).trans (h.bx q hq).2⟩, fun k hk => ⟨(h.st k hk).1, (hs k (.inl hk)).trans (h.st k hk).2⟩, h.lo⟩
theorem Gz.cell (hM : Mach Pm) {n : Nat} {cs : Array Value} (h : Gz Pm lo X0 W w0 wx p b S1 S2 ((n, cs) :: bs)) (hn : ∀ q ∈ bs, q.1 ≠ n) (i : Nat) (v : Value) : Gz Pm lo X0 W w0 (wx.setCell ⟨n, i, none⟩ v) p b S1 S2 ((n, cs.setIfInBounds i v) :: bs) := by
 have hnb := h.bx (n, cs) (List.mem_cons_self ..)
 have hT : Tch (fun k => k = n) wx (wx.setCell ⟨n, i, none⟩ v) := Tch.set wx v rfl
 refine ⟨(h.z.apart hM hT (fun k hk => ?_)).less (fun k hk => ?_), fun q hq => ?_, fun k hk => ⟨(h.st k hk).1, (heap_setCell_other wx ⟨n, i, none⟩ k v (by have := (h.st k hk).1; have := hnb.1; show k ≠ n; omega)).trans (h.st k hk).2⟩, h.lo⟩
 ·
  subst hk
  exact ⟨.inr ⟨(k, cs), List.mem_cons_self .., rfl⟩, Nat.le_trans h.lo hnb.1⟩
 ·
  rcases hk with e | ⟨q, hq, rfl⟩
  · exact .inl e
  ·
   rcases List.mem_cons.1 hq with rfl | hq
   · exact .inr ⟨(n, cs), List.mem_cons_self .., rfl⟩
   · exact .inr ⟨q, List.mem_cons_of_mem _ hq, rfl⟩
 ·
  rcases List.mem_cons.1 hq with rfl | hq
  · exact ⟨hnb.1, heap_setCell_same wx n i cs 37 v hnb.2⟩
  · exact ⟨(h.bx q (List.mem_cons_of_mem _ hq)).1, (heap_setCell_other wx ⟨n, i, none⟩ q.1 v (hn q hq)).trans (h.bx q (List.mem_cons_of_mem _ hq)).2⟩
theorem Gz.row (hM : Mach Pm) {n : Nat} {cs : Array Value} (h : Gz Pm lo X0 W w0 wx p b S1 S2 ((n, cs) :: bs)) (hn : ∀ q ∈ bs, q.1 ≠ n) (cs' : Array Value) : Gz Pm lo X0 W w0 (wx.setRow n cs') p b S1 S2 ((n, cs') :: bs) := by
 have hnb := h.bx (n, cs) (List.mem_cons_self ..)
 have hT : Tch (fun k => k = n) wx (wx.setRow n cs') := ⟨rfl, rfl, rfl, by simp [World.setRow], fun k hk hF => setRow_other wx n k cs' hF⟩
 refine ⟨(h.z.apart hM hT (fun k hk => ?_)).less (fun k hk => ?_), fun q hq => ?_, fun k hk => ⟨(h.st k hk).1, (setRow_other wx n k cs' (by have := (h.st k hk).1; have := hnb.1; omega)).trans (h.st k hk).2⟩, h.lo⟩
 ·
  subst hk
  exact ⟨.inr ⟨(k, cs), List.mem_cons_self .., rfl⟩, Nat.le_trans h.lo hnb.1⟩
 ·
  rcases hk with e | ⟨q, hq, rfl⟩
  · exact .inl e
  ·
   rcases List.mem_cons.1 hq with rfl | hq
   · exact .inr ⟨(n, cs), List.mem_cons_self .., rfl⟩
   · exact .inr ⟨q, List.mem_cons_of_mem _ hq, rfl⟩
 ·
  rcases List.mem_cons.1 hq with rfl | hq
  · exact ⟨hnb.1, setRow_heap wx n cs cs' 37 _ hnb.2⟩
  · exact ⟨(h.bx q (List.mem_cons_of_mem _ hq)).1, (setRow_other wx n q.1 cs' (hn q hq)).trans (h.bx q (List.mem_cons_of_mem _ hq)).2⟩
theorem Gz.swap {bs' : List (Nat × Array Value)} (h : Gz Pm lo X0 W w0 wx p b S1 S2 bs) (hs : ∀ q ∈ bs', q ∈ bs) : Gz Pm lo X0 W w0 wx p b S1 S2 bs' :=
 ⟨h.z.less (fun _ hk => hk.imp id (fun ⟨q, hq, e⟩ => ⟨q, hs q hq, e⟩)), fun q hq => h.bx q (hs q hq), h.st, h.lo⟩
theorem Gz.fin (h : Gz Pm lo X0 W w0 wx p b S1 S2 bs) : Bz Pm lo X0 W wx p b S1 S2 ∧ ∀ k, X0 k → wx.heap[k]? = w0.heap[k]? := ⟨h.z.less (fun _ hk => .inl hk), fun k hk => (h.st k hk).2⟩
theorem Gz.sh (h : Gz Pm lo X0 W w0 wx p b S1 S2 bs) : wx.cell? ⟨b, 0, none⟩ = some (.int .i64 S2.n) := h.z.c0.1
end
theorem none_any (w : World) : Calls Tryz.prog 43 #[] w fun e w' => e = .returned (.agg (wdV none3)) ∧ Below w.heap.size w w' := by
 go_enter Tryz.func43, Tryz.ntmps43
 go_wp2
 exact bodyPost_ret (results_cell_row (by rfl) _ _ w.heap.size 37 #[.int .i64 (-1), .int .i64 (-1), .int .i64 (-1)] (0, 0) _ rfl (heap_alloc_new _ _) Tryz.underlying37 rfl (by kernel_rfl)) rfl ⟨rfl, (Below.refl _ _).alloc (Nat.le_refl _) _⟩

def vlP (v : Nat → Nat) (L : Nat) (A : Nat → Int) : Nat → Nat
 | 0 => 0
 | m + 1 => vlP v L A m ^^^ wordAt v L (A m)
abbrev vlN (v : Nat → Nat) (L : Nat) (A : Nat → Int) : Nat := vlP v L A 3
theorem vlP_lt {v : Nat → Nat} {L : Nat} (h : ∀ i, i < L → v i < 2 ^ 64) (A : Nat → Int) : ∀ m, vlP v L A m < 2 ^ 64
 | 0 => by show 0 < _; decide
 | m + 1 => xr_lt (vlP_lt h A m) (wordAt_lt h _)
theorem vl_three (v : Nat → Nat) (L : Nat) (A : Nat → Int) : vlN v L A = wordAt v L (A 0) ^^^ wordAt v L (A 1) ^^^ wordAt v L (A 2) := by
 show ((0 ^^^ wordAt v L (A 0)) ^^^ wordAt v L (A 1)) ^^^ wordAt v L (A 2) = _
 rw [Nat.zero_xor]
structure Ext (S S' : Ms) : Prop where
 L : S.L ≤ S'.L
 v : ∀ i, i < S.L → S'.v i = S.v i
 n : S'.n = S.n
 dry : S'.dry = S.dry
 skip : S'.skip = S.skip
theorem Ext.refl (S : Ms) : Ext S S := ⟨Nat.le_refl _, fun _ _ => rfl, rfl, rfl, rfl⟩
theorem Ext.trans {S S' S2 : Ms} (h : Ext S S') (k : Ext S' S2) : Ext S S2 :=
 ⟨Nat.le_trans h.L k.L, fun i hi => (k.v i (Nat.lt_of_lt_of_le hi h.L)).trans (h.v i hi), k.n.trans h.n, k.dry.trans h.dry, k.skip.trans h.skip⟩
theorem doS_ext (S : Ms) (o : Op6) (x : Nat) : Ext S (S.doS o x) := by
 unfold Ms.doS
 repeat' split
 · exact Ext.refl S
 · exact ⟨Nat.le_refl _, fun _ _ => rfl, rfl, rfl, rfl⟩
 · exact ⟨Nat.le_refl _, fun _ _ => rfl, rfl, rfl, rfl⟩
 · exact ⟨Nat.le_refl _, fun _ _ => rfl, rfl, rfl, rfl⟩
 · exact ⟨Nat.le_succ _, fun i hi => updN_no _ _ (by omega), rfl, rfl, rfl⟩
theorem beginS_ext (S : Ms) (k : Int) : Ext S (S.beginS k) := by
 unfold Ms.beginS
 repeat' split
 all_goals exact ⟨Nat.le_refl _, fun _ _ => rfl, rfl, rfl, rfl⟩
theorem endS_ext (S : Ms) : Ext S S.endS := by
 unfold Ms.endS
 repeat' split
 all_goals exact ⟨Nat.le_refl _, fun _ _ => rfl, rfl, rfl, rfl⟩
theorem eaS_ext (S : Ms) (op : Nat → Op6) (lo : Nat) : ∀ m, Ext S (eaS S op lo m)
 | 0 => Ext.refl S
 | m + 1 => (eaS_ext S op lo m).trans (doS_ext _ _ _)
theorem wordAt_ext {S S' : Ms} (h : Ext S S') {r : Int} (hr : r < (S.L : Int)) : wordAt S'.v S'.L r = wordAt S.v S.L r := by
 have hL := h.L
 unfold wordAt
 by_cases h0 : 0 ≤ r
 · rw [if_pos ⟨h0, by omega⟩, if_pos ⟨h0, hr⟩, h.v _ (by omega)]
 · rw [if_neg (fun e => h0 e.1), if_neg (fun e => h0 e.1)]
theorem vl_ext {S S' : Ms} (h : Ext S S') {A : Nat → Int} (hA : ∀ i, i < 3 → A i < (S.L : Int)) : vlN S'.v S'.L A = vlN S.v S.L A := by
 rw [vl_three, vl_three, wordAt_ext h (hA 0 (by omega)), wordAt_ext h (hA 1 (by omega)), wordAt_ext h (hA 2 (by omega))]
theorem do_ok {S : Ms} {o : Op6} {x : Nat} (h : (S.doS o x).e = 0) : S.e = 0 ∧ S.doS o x = S.put o x ∧ S.doR o = (S.len : Int) ∧ S.bad o = false := by
 have he : S.e = 0 := by
  by_cases e : S.e = 0
  · exact e
  · unfold Ms.doS at h; rw [if_pos e] at h; exact absurd h e
 have hb : ¬ S.bad o = true := fun e => by unfold Ms.doS at h; rw [if_neg (by omega), if_pos e] at h; simp at h
 have hf : ¬ S.full = true := fun e => by unfold Ms.doS at h; rw [if_neg (by omega), if_neg hb, if_pos e] at h; simp at h
 have ho : ¬ S.out o = true := fun e => by unfold Ms.doS at h; rw [if_neg (by omega), if_neg hb, if_neg hf, if_pos e] at h; simp at h
 refine ⟨he, ?_, ?_, by simpa using hb⟩
 ·
  unfold Ms.doS
  rw [if_neg (by omega), if_neg hb, if_neg hf, if_neg ho]
 ·
  unfold Ms.doR
  rw [if_neg (by rintro (q | q | q | q) <;> contradiction)]
theorem do_word {S : Ms} {o : Op6} {x : Nat} (h : (S.doS o x).e = 0) (hs : S.skip = 0) : S.doR o = (S.L : Int) ∧ (S.doS o x).L = S.L + 1 ∧ wordAt (S.doS o x).v (S.doS o x).L (S.doR o) = S.makes o x := by
 obtain ⟨_, h2, h3, _⟩ := do_ok h
 have hl : S.len = S.L := by unfold Ms.len; rw [hs, Nat.zero_add]
 rw [hl] at h3
 refine ⟨h3, by rw [h2]; rfl, ?_⟩
 rw [h2, h3]
 show wordAt (updN S.v S.L (S.makes o x)) (S.L + 1) (S.L : Int) = _
 unfold wordAt
 rw [if_pos ⟨by omega, by omega⟩, show ((S.L : Int)).toNat = S.L by omega, updN_at]
theorem eaS_e {S : Ms} {op : Nat → Op6} {lo : Nat} : ∀ {m}, (eaS S op lo m).e = 0 → ∀ j, j ≤ m → (eaS S op lo j).e = 0
 | 0, h, j, hj => by
   obtain rfl : j = 0 := by omega
   exact h
 | m + 1, h, j, hj => by
  by_cases e : j = m + 1
  · subst e; exact h
  · exact eaS_e (do_ok h).1 j (by omega)
theorem eaR_keep (S : Ms) (op : Nat → Op6) (lo : Nat) (W : Nat → Int) : ∀ m i, (i < lo ∨ lo + m ≤ i) → eaR S op lo W m i = W i
 | 0, _, _ => rfl
 | m + 1, i, h => by rw [eaR, updI_no _ _ (by omega), eaR_keep S op lo W m i (by omega)]
theorem eaR_at (S : Ms) (op : Nat → Op6) (lo : Nat) (W : Nat → Int) : ∀ m j, j < m → eaR S op lo W m (lo + j) = (eaS S op lo j).doR (op (lo + j))
 | m + 1, j, h => by
  by_cases e : j = m
  · subst e; rw [eaR, updI_at]
  · rw [eaR, updI_no _ _ (by omega), eaR_at S op lo W m j (by omega)]
theorem ea_word {S : Ms} {op : Nat → Op6} {lo m : Nat} (W : Nat → Int) (h : (eaS S op lo m).e = 0) (hs : S.skip = 0) {j : Nat} (hj : j < m) (hA : (op (lo + j)).A < (S.L : Int)) (hB : (op (lo + j)).B < (S.L : Int)) (hE : (op (lo + j)).E < (S.L : Int)) :
  eaR S op lo W m (lo + j) = ((eaS S op lo j).L : Int) ∧ (eaS S op lo j).L < (eaS S op lo m).L ∧
  wordAt (eaS S op lo m).v (eaS S op lo m).L (eaR S op lo W m (lo + j)) = evN (op (lo + j)).K (op (lo + j)).C (wordAt S.v S.L (op (lo + j)).A) (wordAt S.v S.L (op (lo + j)).B) (wordAt S.v S.L (op (lo + j)).E) ((eaS S op lo j).word (op (lo + j)) 0) := by
 have hj1 : (eaS S op lo (j + 1)).e = 0 := eaS_e h _ (by omega)
 have hX := eaS_ext S op lo j
 obtain ⟨w1, w2, w3⟩ := do_word (x := 0) hj1 (hX.skip.trans hs)
 have hxt : Ext (eaS S op lo (j + 1)) (eaS S op lo m) := by
  have : ∀ d, Ext (eaS S op lo (j + 1)) (eaS S op lo (j + 1 + d)) := fun d => by
   induction d with
   | zero => exact Ext.refl _
   | succ d ih => exact ih.trans (doS_ext _ _ _)
  have e := this (m - (j + 1))
  rw [show j + 1 + (m - (j + 1)) = m by omega] at e
  exact e
 have hL : (eaS S op lo (j + 1)).L = (eaS S op lo j).L + 1 := w2
 have hlt : (eaS S op lo j).L < (eaS S op lo m).L := by have := hxt.L; omega
 refine ⟨(eaR_at S op lo W m j hj).trans w1, hlt, ?_⟩
 rw [eaR_at S op lo W m j hj, wordAt_ext hxt (by rw [w1, hL]; omega)]
 refine w3.trans ?_
 unfold Ms.makes
 rw [wordAt_ext hX hA, wordAt_ext hX hB, wordAt_ext hX hE]
structure Gw (S : Ms) (A : Nat → Int) : Prop where
 lt : ∀ i, i < 3 → A i < (S.L : Int)
 no : ∀ i, S.sh ≤ i → i < 3 → A i < 0
theorem Gw.ext {S S' : Ms} {A : Nat → Int} (h : Gw S A) (k : Ext S S') : Gw S' A :=
 ⟨fun i hi => by have := h.lt i hi; have := k.L; omega, fun i hi hj => h.no i (by unfold Ms.sh at hi ⊢; rw [k.n] at hi; exact hi) hj⟩
theorem wordAt_neg {v : Nat → Nat} {L : Nat} {r : Int} (h : r < 0) : wordAt v L r = 0 := if_neg (by omega)
theorem ea_vl {S : Ms} {op : Nat → Op6} (h : (eaS S op 0 S.sh).e = 0) (hs : S.skip = 0) (h2 : 2 ≤ S.sh) (h3 : S.sh ≤ 3) (F : Nat → Nat)
  (hA : ∀ j, j < 3 → (op j).A < (S.L : Int) ∧ (op j).B < (S.L : Int) ∧ (op j).E < (S.L : Int))
  (hF : ∀ j, j < S.sh → evN (op j).K (op j).C (wordAt S.v S.L (op j).A) (wordAt S.v S.L (op j).B) (wordAt S.v S.L (op j).E) ((eaS S op 0 j).word (op j) 0) = F j) (hF3 : S.sh = 2 → F 2 = 0) :
  vlN (eaS S op 0 S.sh).v (eaS S op 0 S.sh).L (eaR S op 0 none3 S.sh) = F 0 ^^^ F 1 ^^^ F 2 ∧ Gw (eaS S op 0 S.sh) (eaR S op 0 none3 S.sh) := by
 have key : ∀ j, j < S.sh → eaR S op 0 none3 S.sh j < ((eaS S op 0 S.sh).L : Int) ∧ wordAt (eaS S op 0 S.sh).v (eaS S op 0 S.sh).L (eaR S op 0 none3 S.sh j) = F j := fun j hj => by
  have a := hA j (by omega)
  have w := ea_word (lo := 0) none3 h hs hj (by rw [Nat.zero_add]; exact a.1) (by rw [Nat.zero_add]; exact a.2.1) (by rw [Nat.zero_add]; exact a.2.2)
  rw [Nat.zero_add] at w
  exact ⟨by rw [w.1]; have := w.2.1; omega, w.2.2.trans (hF j hj)⟩
 have n2 : S.sh = 2 → eaR S op 0 none3 S.sh 2 = -1 := fun e => eaR_keep S op 0 none3 S.sh 2 (by omega)
 have k2 : wordAt (eaS S op 0 S.sh).v (eaS S op 0 S.sh).L (eaR S op 0 none3 S.sh 2) = F 2 := by
  by_cases e : S.sh = 2
  · rw [n2 e, hF3 e]; exact wordAt_neg (by omega)
  · exact (key 2 (by omega)).2
 refine ⟨by rw [vl_three, (key 0 (by omega)).2, (key 1 (by omega)).2, k2], ⟨fun i hi => ?_, fun i hi hj => ?_⟩⟩
 ·
  by_cases e : i < S.sh
  · exact (key i e).1
  ·
   obtain rfl : i = 2 := by omega
   rw [n2 (by omega)]; omega
 ·
  have hse : (eaS S op 0 S.sh).sh = S.sh := by unfold Ms.sh; rw [eaS_n]
  rw [hse] at hi
  obtain rfl : i = 2 := by omega
  rw [n2 (by omega)]; omega

theorem cst_vl {S : Ms} {K : Int} {c : Nat} (h : (cstS S K c).e = 0) (hs : S.skip = 0) (hn : S.n = 2 ∨ S.n = 3) (hK : K = 3 ∨ K = 4) :
  vlN (cstS S K c).v (cstS S K c).L (cstR S K c) = c ∧ Gw (cstS S K c) (cstR S K c) := by
 have h2 : 2 ≤ S.sh ∧ S.sh ≤ 3 := by unfold Ms.sh; omega
 have hev : ∀ C a b d x, evN K C a b d x = C := fun C a b d x => by rcases hK with rfl | rfl; exact ev3 C a b d x; exact ev4 C a b d x
 have := ea_vl (op := opCst K c) h hs h2.1 h2.2 (fun j => if j = 0 then c else 0) (fun j _ => by unfold opCst; split <;> exact ⟨by show (-1 : Int) < _; omega, by show (-1 : Int) < _; omega, by show (-1 : Int) < _; omega⟩)
  (fun j _ => by
   unfold opCst
   by_cases e : j = 0
   · rw [if_pos e, if_pos e]; exact hev _ _ _ _ _
   · rw [if_neg e, if_neg e]; exact ev3 _ _ _ _ _) (fun _ => rfl)
 refine ⟨this.1.trans ?_, this.2⟩
 simp
theorem up_vl {S : Ms} {A : Nat → Int} {o : Op6} {x : Nat} (h : (S.doS o x).e = 0) (hs : S.skip = 0) (hA : Gw S A) :
  vlN (S.doS o x).v (S.doS o x).L (updI A 0 (S.doR o)) = S.makes o x ^^^ wordAt S.v S.L (A 1) ^^^ wordAt S.v S.L (A 2) ∧ (Gw (S.doS o x) (updI A 0 (S.doR o)) ∨ S.sh = 0) := by
 obtain ⟨w1, w2, w3⟩ := do_word h hs
 have hX := doS_ext S o x
 refine ⟨?_, ?_⟩
 · rw [vl_three, updI_at, updI_no A _ (by decide : (1 : Nat) ≠ 0), updI_no A _ (by decide : (2 : Nat) ≠ 0), w3, wordAt_ext hX (hA.lt 1 (by omega)), wordAt_ext hX (hA.lt 2 (by omega))]
 ·
  by_cases h0 : S.sh = 0
  · exact .inr h0
  ·
   refine .inl ⟨fun i hi => ?_, fun i hi hj => ?_⟩
   ·
    by_cases e : i = 0
    · subst e; rw [updI_at, w1, w2]; omega
    · rw [updI_no _ _ e]; have := hA.lt i hi; rw [w2]; omega
   ·
    have e2 : (S.doS o x).sh = S.sh := by unfold Ms.sh; rw [hX.n]
    rw [e2] at hi
    rw [updI_no _ _ (by omega)]
    exact hA.no i hi hj
theorem not_vl {S : Ms} {A : Nat → Int} (h : (notS S A).e = 0) (hs : S.skip = 0) (hn : S.n = 2 ∨ S.n = 3) (hv : ∀ i, i < S.L → S.v i < 2 ^ 64) (hA : Gw S A) :
  vlN (notS S A).v (notS S A).L (notR S A) = wnt (vlN S.v S.L A) ∧ Gw (notS S A) (notR S A) := by
 have hsh : S.sh ≠ 0 := by unfold Ms.sh; omega
 obtain ⟨a, b⟩ := up_vl (A := A) h hs hA
 refine ⟨a.trans ?_, b.resolve_right hsh⟩
 have l := fun i => wordAt_lt hv (A i)
 have e : S.makes (opNot A) 0 = wnt (wordAt S.v S.L (A 0)) := ev6 _ _ _ _ _
 rw [e, vl_three, ← wnt_max (l 0), ← wnt_max (xr_lt (xr_lt (l 0) (l 1)) (l 2))]
 simp only [Nat.xor_assoc]
open Go.RowKit
set_option maxRecDepth 100000
def startD (n most : Int) (tw : Nat → Nat) (TN d e : Nat) : Ms :=
 ⟨n, most, 0, 0, 0, 0, 0, 0, 0, fun _ => ⟨0, 0, 0, 0, 0, 0⟩, 0, fun _ => ⟨0, 0, 0⟩, fun _ => 0, tw, TN, d, e - d, false⟩
structure MachN (Pm : World → Nat → Ms → (Nat → Prop) → Prop) : Prop where
 nbegin : ∀ w, Calls Tryz.prog 93 #[.pointer none, .int .i64 1] w fun e w' => e = .returned (.tuple #[]) ∧ Below w.heap.size w w'
 nend : ∀ w, Calls Tryz.prog 96 #[.pointer none] w fun e w' => e = .returned (.tuple #[]) ∧ Below w.heap.size w w'
 nrand : ∀ w, Calls Tryz.prog 107 #[.pointer none, .int .i64 0] w fun e w' => e = .returned (.int .i64 (-1)) ∧ Below w.heap.size w w'
 nerr : ∀ w, Calls Tryz.prog 55 #[.pointer none] w fun e w' => e = .returned (.int .i64 1) ∧ Below w.heap.size w w'
 nvalues : ∀ w, Calls Tryz.prog 26 #[.pointer none] w fun e w' => ∃ a c, e = .returned (.slice a 0 c) ∧ Below w.heap.size w w'
 nn : ∀ w, Calls Tryz.prog 76 #[.pointer none] w fun e w' => e = .returned (.int .i64 0) ∧ Below w.heap.size w w'
 ntrace : ∀ w, Calls Tryz.prog 57 #[.pointer none] w fun e w' => ∃ n a c v, e = .returned (.agg #[.int .i64 n, .slice a 0 c, v]) ∧ Below w.heap.size w w'
 bad : ∀ (n most : Int) (q : Nat) (w : World), ¬ ((n = 2 ∨ n = 3) ∧ 0 ≤ most ∧ most ≤ 1048576) → Calls Tryz.prog 34 #[.int .i64 n, .pointer (some ⟨q, 0, none⟩), .int .i64 most] w fun e w' => e = .returned (.tuple #[.pointer none, .int .i64 1]) ∧ Below w.heap.size w w'
 new : ∀ (lo hi q d e : Nat) (n most : Int) (tw : Nat → Nat) (TN : Nat) (w : World), TapeAt w lo hi q (wdL tw TN) d e → (n = 2 ∨ n = 3) → 0 ≤ most → most ≤ 1048576 →
  Calls Tryz.prog 34 #[.int .i64 n, .pointer (some ⟨q, 0, none⟩), .int .i64 most] w fun r w' => ∃ b, r = .returned (.tuple #[.pointer (some ⟨b, 0, none⟩), .int .i64 0]) ∧ Below w.heap.size w w' ∧ ∃ F, Pm w' b (startD n most tw TN d e) F ∧ ∀ k, F k → (lo ≤ k ∧ k < hi) ∨ w.heap.size ≤ k
section
variable {Pm : World → Nat → Ms → (Nat → Prop) → Prop} {lo : Nat} {X : Nat → Prop} {W wx wy : World} {p : Nat} {S S' : Ms}
end
section
variable {Pm : World → Nat → Ms → (Nat → Prop) → Prop} (hM : Mach Pm) {lo : Nat} {X : Nat → Prop} {W w : World} {b k : Nat} {S : Ms}
include hM
end
theorem startD_bq (n most : Int) (tw : Nat → Nat) (TN d e k : Nat) (hn : n = 2 ∨ n = 3) (hm : 0 ≤ most) (hm' : most ≤ 1048576) (hT : TN ≤ 20000000000000) (htw : ∀ i, i < TN → tw i < 2 ^ 64) (hd : d ≤ e) (he : e ≤ TN) : Bq k (startD n most tw TN d e) := by
 refine ⟨Nat.zero_le _, Nat.zero_le _, Nat.zero_le _, Nat.zero_le _, Nat.zero_le _, by show d ≤ _; omega, by show e - d ≤ _; omega, hT, fun i hi => absurd hi (Nat.not_lt_zero i), htw, fun _ => rfl, fun i hi => absurd hi (Nat.not_lt_zero i), fun i hi => absurd hi (Nat.not_lt_zero i), by show (0 : Int) ≤ 0 ∧ (0 : Int) ≤ 3; decide, by show _ ≤ n ∧ n ≤ _; omega, by show _ ≤ most ∧ most ≤ _; omega, by show 0 ≤ 4; omega⟩
open Go.RowKit
set_option maxRecDepth 100000
structure Wr (w : World) (v : Value) (L : Nat) (f : Nat → Nat) : Prop where
 at_ : ∃ a cap, v = .slice a L cap ∧ (0 < L → ∃ g off, a = some ⟨g, off, none⟩ ∧ g < w.heap.size ∧ ∀ i, i < L → w.cell? ⟨g, off + i, none⟩ = some (.int .u64 (f i : Int)))
theorem rd_wr {w : World} {v : Value} {L : Nat} {f : Nat → Nat} (h : Rd .u64 w v (wdL f L)) : Wr w v L f := by
 obtain ⟨a, cap, e, _, _, hc⟩ := h
 rw [wdL_len] at e hc
 refine ⟨a, cap, e, fun h0 => ?_⟩
 obtain ⟨g, off, e1, e2, e3⟩ := hc h0
 exact ⟨g, off, e1, e2, fun i hi => by rw [e3 i hi, wdL_nth f hi]⟩
open Go.RowKit
set_option maxRecDepth 100000
abbrev paC (p b : Nat) (lv vv : Value) : Array Value := #[.pointer (some ⟨p, 0, none⟩), .pointer (some ⟨b, 0, none⟩), lv, vv]
set_option maxHeartbeats 12800000 in
theorem llike_any {Pm : World → Nat → Ms → (Nat → Prop) → Prop} (hM : Mach Pm) {lo : Nat} {X : Nat → Prop} {W w : World} {p b k : Nat} {S : Ms} (h : Bz Pm lo X W w p b S S) (hq : Bq k S) (hk : k ≤ 100000) (hw : S.dry = false) (la ba : Option Addr) (ln bn lc bc : Nat) :
  Calls Tryz.prog 23 #[.agg (paC p b (.slice la ln lc) (.slice ba bn bc))] w fun e w' => e = .returned (.bool true) ∧ Bz Pm lo X W w' p b S S ∧ Below w.heap.size w w' := by
 have HQ := hid hq
 have HK2 := hid hk
 have HK : Hid (k ≤ 1000000) := hid (by omega)
 have HKP : Hid (∀ n, S.keep n = n) := hid (fun n => by unfold Ms.keep; rw [hw]; rfl)
 obtain ⟨w1, hw1⟩ : ∃ w1, w.alloc (.cells (paC p b (.slice la ln lc) (.slice ba bn bc)) 30) = w1 := ⟨_, rfl⟩
 have HB1 : Hid (Below w.heap.size w w1) := hid (by rw [← hw1]; exact (Below.refl _ _).alloc (Nat.le_refl _) _)
 have hbx : w1.heap[w.heap.size]? = some (.cells (paC p b (.slice la ln lc) (.slice ba bn bc)) 30 (0, 0)) := by rw [← hw1]; exact heap_alloc_new _ _
 have HBX : Hid (∀ w', Below w1.heap.size w1 w' → w'.heap[w.heap.size]? = some (.cells (paC p b (.slice la ln lc) (.slice ba bn bc)) 30 (0, 0))) := hid (fun w' hb => (hb.block _ (Array.getElem?_eq_some_iff.1 hbx).1).trans hbx)
 have ZA := hid (h.self hM HB1.out)
 have HC : Hid (∀ w', Below w1.heap.size w1 w' → w'.cell? ⟨b, 0, none⟩ = some (.int .i64 S.n) ∧ w'.cell? ⟨b, 3, none⟩ = some (.int .i64 (S.draws : Int)) ∧ w'.cell? ⟨b, 7, none⟩ = some (.int .i64 (S.e : Int)) ∧ w'.cell? ⟨b, 14, none⟩ = some (.bool S.dry)) := hid (fun w' hb => (ZA.out.self hM hb).c0)
 obtain ⟨xv, xc, hcv, hrv⟩ := ZA.out.vv hq hk
 have HCV : Hid (∀ w', Below w1.heap.size w1 w' → w'.cell? ⟨b, 10, none⟩ = some (.slice xv S.L xc)) := hid (fun w' hw => tcell_self hcv hw)
 have HRV : Hid (∀ w', Below w1.heap.size w1 w' → Wr w' (.slice xv S.L xc) S.L S.v) := hid (fun w' hw => rd_wr (hrv.self hw))
 have HLL : Hid (S.L ≤ 1000000) := hid (by have := hq.len; unfold Ms.len at this; omega)
 have c0 := row_c (i := 0) (u := .pointer (some ⟨p, 0, none⟩)) hbx rfl
 have HW1 := hid hw1
 clear h hq hk hw hw1 hbx hcv hrv
 go_enter Tryz.func23, Tryz.ntmps23
 go_upto_region 1 with fail
 rw [HW1.out]
 go_wp2_with (go_at_call 26; (with_reducible refine (zvalues hM ZA.out HQ.out HK.out).mono ?_); rintro e w2 ⟨v, rfl, hv, hb⟩; rw [HKP.out] at hv; have HVW := hid (rd_wr hv); have Z0 := hid (ZA.out.self hM hb); have HB12 := hid hb; clear hv hb)
 obtain ⟨av, cv, rfl, hav⟩ := HVW.out.at_
 have HAV := hid hav
 have BZ0 : Hid (Below w2.heap.size w2 w2) := hid (Below.refl _ _)
 have HBX := hid (fun w' (hb : Below w2.heap.size w2 w') => HBX.out w' (HB12.out.trans (hb.mono HB12.out.size)))
 have HC := hid (fun w' (hb : Below w2.heap.size w2 w') => HC.out w' (HB12.out.trans (hb.mono HB12.out.size)))
 have HCV := hid (fun w' (hb : Below w2.heap.size w2 w') => HCV.out w' (HB12.out.trans (hb.mono HB12.out.size)))
 have HRV := hid (fun w' (hb : Below w2.heap.size w2 w') => HRV.out w' (HB12.out.trans (hb.mono HB12.out.size)))
 clear hav c0
 go_wp2_with fail
 have Z1 := hid (Z0.out.self hM ((Below.refl _ w2).drew))
 have BZ1 := hid (BZ0.out.drew)
 refine wp_region_noPanic ?_
 refine wp_region_held_drew (S := fun w' => Below w2.heap.size w2 w') (by kernel_rfl) (BZ1.out) (fun h0 => ?_)
 generalize w2.drew = y1 at *
 refine tK 0 (.slice av S.L cv) rfl (.inl ⟨by rfl, fun w hw => by clear hw; go_simp⟩) h0 ?_
 try simp only [Act.put, lay_out]
 refine tK 1 (.int .i64 (S.L : Int)) rfl (.inl ⟨by rfl, fun w hw => by clear hw; go_simp⟩) h0 ?_
 try simp only [Act.put, lay_out]
 refine tK 2 (.pointer (some ⟨w.heap.size, 1, none⟩)) rfl (.inl ⟨by rfl, fun w hw => by clear hw; go_simp⟩) h0 ?_
 try simp only [Act.put, lay_out]
 refine tK 3 (.pointer (some ⟨b, 0, none⟩)) rfl (.inl ⟨by rfl, fun w' hw => by have hc := row_c (i := 1) (u := .pointer (some ⟨b, 0, none⟩)) (HBX.out w' hw) rfl; clear hw; go_simp⟩) h0 ?_
 try simp only [Act.put, lay_out]
 refine tK 4 (.pointer (some ⟨b, 0, none⟩)) rfl (.inl ⟨by rfl, fun w hw => by clear hw; go_simp⟩) h0 ?_
 try simp only [Act.put, lay_out]
 refine tK 5 (.pointer (some ⟨b, 10, none⟩)) rfl (.inl ⟨by rfl, fun w hw => by clear hw; go_simp⟩) h0 ?_
 try simp only [Act.put, lay_out]
 refine tK 6 (.slice xv S.L xc) rfl (.inl ⟨by rfl, fun w' hw => by have hc := HCV.out w' hw; clear hw; go_simp⟩) h0 ?_
 try simp only [Act.put, lay_out]
 refine tK 7 (.int .i64 (S.L : Int)) rfl (.inl ⟨by rfl, fun w hw => by clear hw; go_simp⟩) h0 ?_
 try simp only [Act.put, lay_out]
 refine tK 8 (.bool false) rfl (.inl ⟨by rfl, fun w hw => by clear hw; go_simp⟩) h0 ?_
 try simp only [Act.put, lay_out]
 refine tK 9 (.bool false) rfl (.inl ⟨by rfl, fun w hw => by clear hw; go_simp⟩) h0 ?_
 try simp only [Act.put, lay_out]
 refine tK 10 (.pointer (some ⟨w.heap.size, 0, none⟩)) rfl (.inl ⟨by rfl, fun w hw => by clear hw; go_simp⟩) h0 ?_
 try simp only [Act.put, lay_out]
 refine tK 11 (.pointer (some ⟨p, 0, none⟩)) rfl (.inl ⟨by rfl, fun w' hw => by have hc := row_c (i := 0) (u := .pointer (some ⟨p, 0, none⟩)) (HBX.out w' hw) rfl; clear hw; go_simp⟩) h0 ?_
 try simp only [Act.put, lay_out]
 refine tK 13 (.pointer (some ⟨w.heap.size, 1, none⟩)) rfl (.inl ⟨by rfl, fun w hw => by clear hw; go_simp⟩) h0 ?_
 try simp only [Act.put, lay_out]
 refine tK 14 (.pointer (some ⟨b, 0, none⟩)) rfl (.inl ⟨by rfl, fun w' hw => by have hc := row_c (i := 1) (u := .pointer (some ⟨b, 0, none⟩)) (HBX.out w' hw) rfl; clear hw; go_simp⟩) h0 ?_
 try simp only [Act.put, lay_out]
 refine tK 15 (.pointer (some ⟨b, 0, none⟩)) rfl (.inl ⟨by rfl, fun w hw => by clear hw; go_simp⟩) h0 ?_
 try simp only [Act.put, lay_out]
 refine tK 16 (.pointer (some ⟨b, 7, none⟩)) rfl (.inl ⟨by rfl, fun w hw => by clear hw; go_simp⟩) h0 ?_
 try simp only [Act.put, lay_out]
 refine tK 17 (.int .i64 (S.e : Int)) rfl (.inl ⟨by rfl, fun w' hw => by have hc := (HC.out w' hw).2.2.1; clear hw; go_simp⟩) h0 ?_
 try simp only [Act.put, lay_out]
 refine wpAnyH_ready (rs := [12]) (by kernel_rfl) (by simp) (AllReadyH.cons rfl (fun K hK => ?_) AllReadyH.nil)
 rw [if_pos (by rfl)]
 go_simp
 go_at_call 55
 (with_reducible refine (zerr hM Z1.out HQ.out HK.out).mono ?_); rintro e w3 ⟨rfl, hb⟩
 have Z3 := hid (Z1.out.self hM hb)
 have BZ3 := hid (BZ1.out.trans (hb.mono BZ1.out.size))
 clear hb
 refine hK.out _ _ (BZ3.out) (fun h1x => ?_)
 clear hK K
 try simp only [Act.put, lay_out]
 refine tK 18 (.bool false) rfl (.inl ⟨by rfl, fun w hw => by clear hw; go_simp⟩) h1x ?_
 try simp only [Act.put, lay_out]
 refine tK 19 (.bool false) rfl (.inl ⟨by rfl, fun w hw => by clear hw; go_simp⟩) h1x ?_
 try simp only [Act.put, lay_out]
 refine tK 20 (.bool false) rfl (.inl ⟨by rfl, fun w hw => by clear hw; go_simp⟩) h1x ?_
 try simp only [Act.put, lay_out]
 refine tK 21 (.pointer (some ⟨w.heap.size, 0, none⟩)) rfl (.inl ⟨by rfl, fun w hw => by clear hw; go_simp⟩) h1x ?_
 try simp only [Act.put, lay_out]
 refine tK 22 (.pointer (some ⟨p, 0, none⟩)) rfl (.inl ⟨by rfl, fun w' hw => by have hc := row_c (i := 0) (u := .pointer (some ⟨p, 0, none⟩)) (HBX.out w' hw) rfl; clear hw; go_simp⟩) h1x ?_
 try simp only [Act.put, lay_out]
 refine tK 24 (.pointer (some ⟨w.heap.size, 1, none⟩)) rfl (.inl ⟨by rfl, fun w hw => by clear hw; go_simp⟩) h1x ?_
 try simp only [Act.put, lay_out]
 refine tK 25 (.pointer (some ⟨b, 0, none⟩)) rfl (.inl ⟨by rfl, fun w' hw => by have hc := row_c (i := 1) (u := .pointer (some ⟨b, 0, none⟩)) (HBX.out w' hw) rfl; clear hw; go_simp⟩) h1x ?_
 try simp only [Act.put, lay_out]
 refine wpAnyH_ready (rs := [23]) (by kernel_rfl) (by simp) (AllReadyH.cons rfl (fun K hK => ?_) AllReadyH.nil)
 rw [if_pos (by rfl)]
 go_simp
 go_at_call 57
 (with_reducible refine (ztrace hM Z3.out HQ.out HK.out).mono ?_); rintro e w4 ⟨v0, v1, rfl, hv0, hv1, hb⟩
 have Z4 := hid (Z3.out.self hM hb)
 have BZ4 := hid (BZ3.out.trans (hb.mono BZ3.out.size))
 rw [HKP.out] at hv0
 rw [HKP.out] at hv1
 have HV0 := hid hv0
 have HV1 := hid hv1
 clear hv0 hv1
 clear hb
 refine hK.out _ _ (BZ4.out) (fun h2x => ?_)
 clear hK K
 try simp only [Act.put, lay_out]
 refine wpAnyH_ready (rs := [26]) (by kernel_rfl) (by simp) (AllReadyH.cons rfl (fun K hK => ?_) AllReadyH.nil)
 rw [if_pos (by rfl)]
 go_simp
 go_at_call 58
 (with_reducible refine (ytrace Z4.out HQ.out HK2.out).mono ?_); rintro e w5 ⟨v0', v1', rfl, hv0, hv1, hb⟩
 have Z5 := hid (Z4.out.self hM hb)
 have BZ5 := hid (BZ4.out.trans (hb.mono BZ4.out.size))
 have HV2 := hid hv0
 have HV3 := hid hv1
 have HV0' := hid (HV0.out.self hb)
 have HV1' := hid (HV1.out.self hb)
 clear hv0 hv1
 clear hb
 refine hK.out _ _ (BZ5.out) (fun h3x => ?_)
 clear hK K
 try simp only [Act.put, lay_out]
 refine wpAnyH_ready (rs := [27]) (by kernel_rfl) (by simp) (AllReadyH.cons rfl (fun K hK => ?_) AllReadyH.nil)
 rw [if_pos (by rfl)]
 go_simp
 go_at_call 56
 (with_reducible refine (refsame_eq S.n v0 v1 v0' v1' S.L S.M S.f S.g _ HV0'.out HV1'.out HV2.out HV3.out).mono ?_); rintro e w6 ⟨rfl, hb⟩
 have Z6 := hid (Z5.out.self hM hb)
 have BZ6 := hid (BZ5.out.trans (hb.mono BZ5.out.size))
 clear hb
 refine hK.out _ _ (BZ6.out) (fun h4x => ?_)
 clear hK K
 try simp only [Act.put, lay_out]
 refine tK 28 (.bool false) rfl (.inl ⟨by rfl, fun w hw => by clear hw; go_simp⟩) h4x ?_
 try simp only [Act.put, lay_out]
 refine tK 29 (.bool false) rfl (.inl ⟨by rfl, fun w hw => by clear hw; go_simp⟩) h4x ?_
 try simp only [Act.put, lay_out]
 refine wpAnyH_done (by kernel_rfl) ?_ _
 refine NoPanic.normal ?_
 clear h0 h1x h2x h3x h4x
 try simp only [Act.put, lay_out]
 go_wp2
 have HZL := hid Z6.out
 go_loopw [4] (fun i wr => ∃ j : Nat, j ≤ S.L ∧ i = .int .i64 j ∧ Below w2.heap.size w2 wr) (fun i _ => S.L - (intOf i).toNat)
 case atStart => exact ⟨0, by omega, rfl, BZ6.out⟩
 case round =>
  obtain ⟨j, hj, rfl, hI⟩ := hrel
  have HI := hid hI
  clear hI
  by_cases hlt : j < S.L
  ·
   obtain ⟨g, off, rfl, hg, hc⟩ := HAV.out (by omega)
   obtain ⟨xa, xcap, hxe, hxc⟩ := (HRV.out _ HI.out.drew).at_
   injection hxe with e1 e2 e3
   subst e1 e3
   obtain ⟨gx, ox, rfl, _, hcx⟩ := hxc (by omega)
   have c1 : wr.drew.cell? ⟨g, off + j, none⟩ = some (.int .u64 (S.v j : Int)) := tcell_self (hc j hlt) HI.out.drew
   have c2 := hcx j hlt
   have c3 := row_c (i := 1) (u := .pointer (some ⟨b, 0, none⟩)) (HBX.out _ HI.out.drew) rfl
   have c4 := HCV.out _ HI.out.drew
   have HI2 := hid HI.out.drew
   have j1 : (0 : Int) ≤ (j : Int) := by omega
   have j2 : (j : Int) < (S.L : Int) := by omega
   have hll := HLL.out
   clear hc hcx hxc hg
   generalize S.v j = z at *
   go_wp2_with fail
   go_region
   go_wp2
   go_roundw
   case rel => exact ⟨j + 1, by omega, by go_num, HI2.out⟩
   case measure => simp [intOf]; omega
  ·
   have hjL : j = S.L := by omega
   subst hjL
   go_wp2
   go_ret
   have hb := HB1.out.trans (HB12.out.mono HB1.out.size)
   exact ⟨rfl, Bz.self hM Z0.out HI.out, hb.trans (HI.out.mono hb.size)⟩
open Go.RowKit
set_option maxRecDepth 100000
theorem step_load_row {P : Program} {w : World} {ops : Array Oper} {rest : List Oper} {o : Oper} {a : Act} {Q : Exit → Act → World → Prop} (hgd : o.guard = none) (ty : TypeId) (x : Operand) (ho : o.op = .load ty x)
  (b : Nat) (t : TypeId) (cs : Array Value) (d : TypeDesc) (hx : a.eval x = .pointer (some ⟨b, 0, none⟩)) (hA : w.heap[b]? = some (.cells cs t (0, 0))) (hu : P.underlying ty = some d) (hag : (match d with | .struct _ | .array _ _ => true | _ => false) = true) (hi : (P.info? ty).map (·.size) = some cs.size)
  (k : wpList P ops Q rest (a.put o.dst (.agg cs)) w) : wpList P ops Q (o :: rest) a w :=
 wpList_plain hgd fun _ hK => by
  unfold Oper.wp execOp
  simp only [ho, hx, Instr.loadAt, Instr.sureAddr, Sem.run_bind, Sem.run_pure, Result.andThen_ok, run_loadVar_row w b t ty cs (0, 0) d hA hu hag hi]
  exact hK _ _ k
theorem eaS_0 (S : Ms) (op : Nat → Op6) (m : Nat) : eaS S op 0 (m + 1) = (eaS S op 0 m).doS (op m) 0 := by rw [eaS, Nat.zero_add]
theorem eaR_0 (S : Ms) (op : Nat → Op6) (W : Nat → Int) (m : Nat) : eaR S op 0 W (m + 1) = updI (eaR S op 0 W m) m ((eaS S op 0 m).doR (op m)) := by rw [eaR, Nat.zero_add]
theorem sh_of {S : Ms} (h : S.n = 2 ∨ S.n = 3) : S.n = (S.sh : Int) ∧ 2 ≤ S.sh ∧ S.sh ≤ 3 := by unfold Ms.sh; omega
set_option maxHeartbeats 6400000 in
theorem ycst {Pm : World → Nat → Ms → (Nat → Prop) → Prop} (hM : Mach Pm) {lo : Nat} {X : Nat → Prop} {W w : World} {p b k : Nat} {S1 S : Ms} (h : Bz Pm lo X W w p b S1 S) (hq : Bq k S) (hk : k + 3 ≤ 100000) (hn : S.n = 2 ∨ S.n = 3) (K : Int) (hK : I64 K) (c : Nat) (hc : c < 2 ^ 64) :
  Calls Tryz.prog 12 #[.pointer (some ⟨b, 0, none⟩), .int .i64 K, .int .u64 (c : Int)] w fun e w' => e = .returned (.agg (wdV (cstR S K c))) ∧ Bz Pm lo X W w' p b S1 (cstS S K c) ∧ ∀ k, X k → w'.heap[k]? = w.heap[k]? := by
 obtain ⟨hsh, hs2, hs3⟩ := sh_of hn
 have HOP : Hid (∀ i, i < 3 → opwf (opCst K c i)) := hid (fun i hi => opCst_wf hK hc (by omega))
 have HQ : Hid (∀ m, m ≤ 3 → Bq (k + m) (eaS S (opCst K c) 0 m)) := hid (fun m hm => eaS_bq hq 0 m (fun j hj => by rw [Nat.zero_add]; exact HOP.out j (by omega)))
 have HN : Hid (∀ m, (eaS S (opCst K c) 0 m).n = (S.sh : Int)) := hid (fun m => (eaS_n S _ 0 m).trans hsh)
 have HK0 : Hid (k + 0 ≤ 100000) := hid (by omega)
 have HK := hid hk
 have HO0 : Hid (opwf ⟨K, 0, -1, -1, -1, c⟩) := hid (opAd1_wf hK hc)
 have Z1 := hid ((Gz.start h).box hM (Nat.le_refl _) #[.int .i64 0, .int .i64 0, .int .i64 0])
 unfold cstR cstS
 generalize S.sh = n at *
 clear h hq hn hK hc hk hsh
 go_enter Tryz.func12, Tryz.ntmps12
 go_wp2_with (first
  | (go_at_call 43; (with_reducible refine (none_any _).mono ?_); rintro e w1 ⟨rfl, hb⟩; have Z2 := hid ((Z1.out.self hM hb).box hM (by have := hb.size; simp at this; omega) (wdV none3)); have HNL : Hid (w.heap.size ≠ w1.heap.size) := hid (by have := hb.size; simp at this; omega); clear hb)
  | (go_at_call 45; (with_reducible refine (dopc_any K 0 (-1) (-1) c _).mono ?_); rintro e w2 ⟨rfl, hb⟩; have Z3 := hid (Z2.out.self hM hb); clear hb)
  | (go_at_call 44; (with_reducible refine (ydo0 hM ⟨K, 0, -1, -1, -1, c⟩ Z3.out.z (HQ.out 0 (by omega)) HK0.out HO0.out).mono ?_); rintro e w3 ⟨rfl, hz, hs⟩; have Z4 := hid (Z3.out.on hz hs); clear hz hs; have cl := row_c (i := 0) (u := .int .i64 (-1)) (Z4.out.bx _ (List.mem_cons_self ..)).2 rfl; have fl := frozen_of_row w3 _ 0 _ _ (Z4.out.bx _ (List.mem_cons_self ..)).2))
 have Z5 : Hid (Gz Pm lo X W w (w3.setCell ⟨w1.heap.size, 0, none⟩ (.int .i64 (S.doR ⟨K, 0, -1, -1, -1, c⟩))) p b S1 (eaS S (opCst K c) 0 1) [(w1.heap.size, wdV (eaR S (opCst K c) 0 none3 1)), (w.heap.size, #[.int .i64 0, .int .i64 0, .int .i64 0])]) := hid (by
  have := Z4.out.cell hM (by intro q hq; simp at hq; subst hq; exact HNL.out) 0 (.int .i64 (S.doR ⟨K, 0, -1, -1, -1, c⟩))
  rw [wdV_upd _ _ _ (by decide)] at this
  exact this)
 generalize w1.heap.size = lb at *
 clear cl fl
 go_loopw [8] (fun i wr => ∃ m : Nat, 1 ≤ m ∧ m ≤ n ∧ i = .int .i64 m ∧ Gz Pm lo X W w wr p b S1 (eaS S (opCst K c) 0 m) [(lb, wdV (eaR S (opCst K c) 0 none3 m)), (w.heap.size, #[.int .i64 0, .int .i64 0, .int .i64 0])]) (fun i _ => n - (intOf i).toNat)
 case atStart => exact ⟨1, by omega, by omega, rfl, Z5.out⟩
 case round =>
  obtain ⟨m, hm1, hm, rfl, hI⟩ := hrel
  have HI := hid hI
  clear hI
  have c0 := HI.out.sh
  rw [HN.out] at c0
  by_cases hlt : m < n
  ·
   have j2 : (m : Int) < (n : Int) := by omega
   have j1 : (0 : Int) ≤ (m : Int) := by omega
   have j3 : (m : Int) < 3 := by omega
   have HE := hid (eaS_0 S (opCst K c) m)
   have HF := hid (eaR_0 S (opCst K c) none3 m)
   have hop : opCst K c m = ⟨3, (m : Int), -1, -1, -1, 0⟩ := if_neg (by omega)
   have HOM : Hid (opwf ⟨3, (m : Int), -1, -1, -1, 0⟩) := hid (hop ▸ HOP.out m (by omega))
   rw [hop] at HE HF
   have HQM := hid (HQ.out m (by omega))
   have HKM : Hid (k + m ≤ 100000) := hid (by have := HK.out; omega)
   have HM3 : Hid (m < 3) := hid (by omega)
   go_wp2_with (first
    | (go_at_call 45; (with_reducible refine (dop0_any 3 (m : Int) (-1) (-1) _).mono ?_); rintro e w5 ⟨rfl, hb⟩; have Y1 := hid (HI.out.self hM hb); clear hb)
    | (go_at_call 44; (with_reducible refine (ydo0 hM ⟨3, (m : Int), -1, -1, -1, 0⟩ Y1.out.z HQM.out HKM.out HOM.out).mono ?_); rintro e w6 ⟨rfl, hz, hs⟩; have Y2 := hid (Y1.out.on hz hs); clear hz hs; have cl : w6.cell? ⟨lb, m, none⟩ = some (.int .i64 (eaR S (opCst K c) 0 none3 m m)) := row_c (Y2.out.bx _ (List.mem_cons_self ..)).2 (wdV_at _ _ HM3.out); have fl := frozen_of_row w6 _ m _ _ (Y2.out.bx _ (List.mem_cons_self ..)).2))
   go_roundw
   case rel =>
    refine ⟨m + 1, by omega, by omega, by go_num, ?_⟩
    have := Y2.out.cell hM (by intro q hq; simp at hq; subst hq; exact HNL.out) m (.int .i64 ((eaS S (opCst K c) 0 m).doR ⟨3, (m : Int), -1, -1, -1, 0⟩))
    rw [wdV_upd _ _ _ HM3.out] at this
    rw [HE.out, HF.out]
    exact this
   case measure => simp [intOf]; omega
  ·
   obtain rfl : m = n := by omega
   clear hlt
   go_wp2_with (first
    | (refine step_load_row rfl 37 _ rfl lb 37 (wdV (eaR S (opCst K c) 0 none3 m)) _ rfl (HI.out.bx (lb, wdV (eaR S (opCst K c) 0 none3 m)) (by simp)).2 Tryz.underlying37 rfl (by kernel_rfl) ?_)
    | (refine step_store_row rfl 37 _ _ rfl w.heap.size 37 _ (wdV (eaR S (opCst K c) 0 none3 m)) rfl rfl (HI.out.bx (w.heap.size, #[.int .i64 0, .int .i64 0, .int .i64 0]) (by simp)).2 (by kernel_rfl) rfl (by kernel_rfl) ?_))
   have ZF := hid (((HI.out.swap (bs' := [(w.heap.size, #[.int .i64 0, .int .i64 0, .int .i64 0]), (lb, wdV (eaR S (opCst K c) 0 none3 m))]) (by intro q hq; simp at hq ⊢; exact hq.symm)).row hM (by intro q hq; simp at hq; subst hq; exact HNL.out.symm) (wdV (eaR S (opCst K c) 0 none3 m))))
   exact bodyPost_ret (results_cell_row (by rfl) _ _ w.heap.size 37 (wdV (eaR S (opCst K c) 0 none3 m)) (0, 0) _ rfl (ZF.out.bx _ (List.mem_cons_self ..)).2 Tryz.underlying37 rfl (by kernel_rfl)) rfl ⟨rfl, ZF.out.fin⟩
open Go.RowKit
set_option maxRecDepth 100000
theorem Bz.begun {Pm : World → Nat → Ms → (Nat → Prop) → Prop} {lo : Nat} {G F : Nat → Prop} {W wx : World} {p b : Nat} {S1 S2 : Ms} {tv : Value} (h1 : Pm wx p S1 F) (h2 : Dm ⟨lo, G⟩ wx b S2 (.slice none 0 0) (.slice none 0 0) (.slice none 0 0) tv) (hF : ∀ k, F k → lo ≤ k ∧ k ≠ b ∧ ¬ G k) (hG : ∀ k, G k → k < wx.heap.size) (h6 : Below lo W wx) (h7 : lo ≤ wx.heap.size) : Bz Pm lo (fun _ => False) W wx p b S1 S2 := by
 refine ⟨F, G, _, _, _, _, h1, h2, fun k hk => ⟨(hF k hk).1, fun e => ?_, (hF k hk).2.2, fun e => e⟩, fun k hk => hk.elim, hG, h6, h7⟩
 rcases e with e | e | e | e
 · exact (hF k hk).2.1 e
 · simp [Value.ownBlock] at e
 · simp [Value.ownBlock] at e
 · simp [Value.ownBlock] at e
open Go.RowKit
set_option maxRecDepth 100000
set_option maxHeartbeats 6400000 in
theorem lbegins_any {Pm : World → Nat → Ms → (Nat → Prop) → Prop} (hM : Mach Pm) (hN : MachN Pm) (n most : Int) (hn : n = 2 ∨ n = 3) (hm : 0 ≤ most) (hm2 : most ≤ 1048576) (tw : Nat → Nat) (TN : Nat) (mv : Value) (w : World) (h : RdS .u64 w (fun g => g < w.heap.size) mv (wdL tw TN)) :
  Calls Tryz.prog 6 #[.int .i64 n, mv, .int .i64 most] w fun e w' => ∃ p b, e = .returned (.tuple #[.agg (paC p b (.slice none 0 0) (.slice none 0 0)), .bool true]) ∧ Bz Pm w.heap.size (fun _ => False) w w' p b (startD n most tw TN 0 TN) (startD n most tw TN 0 TN) := by
 obtain ⟨ma, mc, rfl, hm0⟩ := id h
 rw [wdL_len] at h
 have HT := hid (fun (w : World) (h : Rd .u64 w (.slice ma TN mc) (wdL tw TN)) => new_any _ _ w h)
 have HR : Hid (∀ lo hi b w, TapeAt w lo hi b (wdL tw TN) 0 0 → Calls Tryz.prog 33 #[.pointer (some ⟨b, 0, none⟩), .int .i64 (TN : Int)] w fun r w' => r = .returned (.int .i64 0) ∧ TapeAt w' lo hi b (wdL tw TN) 0 TN ∧ Only b w w') := hid (fun lo hi b w h => by have := reserve_ok lo hi b _ 0 0 TN w h (by rw [wdL_len]; omega); rw [Nat.zero_add] at this; exact this)
 have HN := hid hN
 have HN23 := hid hn
 have HM0 := hid (And.intro hm hm2)
 obtain ⟨w0, hw0⟩ : ∃ w0, w.alloc (.cells #[.pointer none, .pointer none, .slice none 0 0, .slice none 0 0] 30) = w0 := ⟨_, rfl⟩
 have B0 : Hid (Below w.heap.size w w0) := hid (by rw [← hw0]; exact (Below.refl _ _).alloc (Nat.le_refl _) _)
 have HX0 : Hid (w0.heap[w.heap.size]? = some (.cells #[.pointer none, .pointer none, .slice none 0 0, .slice none 0 0] 30 (0, 0))) := hid (by rw [← hw0]; exact heap_alloc_new _ _)
 have HS0 : Hid (w0.heap.size = w.heap.size + 1) := hid (by rw [← hw0]; simp)
 have HRD : Hid (∀ w', Below w.heap.size w w' → RdS .u64 w' (fun g => g < w.heap.size) (.slice ma TN mc) (wdL tw TN)) := hid (fun w' hb => rds_self h hb)
 have HW0 := hid hw0
 rw [wdL_len]
 clear h hm0 hN hn hm hm2 hw0
 go_enter Tryz.func6, Tryz.ntmps6
 go_upto_region 1 with fail
 rw [HW0.out]
 go_upto_region 4 with (first
  | (go_at_call 32; (with_reducible refine (HT.out _ (HRD.out _ B0.out).rd).mono ?_); rintro e w2 ⟨q, rfl, ht, hb⟩; have B2 := hid (B0.out.trans (hb.mono B0.out.size)); have T2 := hid ht; have HX2 := hid ((hb.block _ (Array.getElem?_eq_some_iff.1 HX0.out).1).trans HX0.out); clear ht hb)
  | (go_at_call 33; (with_reducible refine (HR.out _ _ _ _ T2.out).mono ?_); rintro e w3 ⟨rfl, ht, ho⟩; have B3 := hid (B2.out.trans (ho.below (by have := T2.out.lt; have := B0.out.size; omega) B2.out.size)); have T3 := hid ht; have HX3 := hid ((ho.block _ (Array.getElem?_eq_some_iff.1 HX2.out).1 (by have := T2.out.lt; have := HS0.out; omega)).trans HX2.out); clear ht ho)
  | (go_at_call 34; (with_reducible refine (HN.out.new _ _ _ 0 TN n most tw TN _ T3.out HN23.out HM0.out.1 HM0.out.2).mono ?_); rintro e w4 ⟨p, rfl, hb, F, hp, hF⟩; have B4 := hid (B3.out.trans (hb.mono B3.out.size)); have P4 := hid hp; have HX4 := hid ((hb.block _ (Array.getElem?_eq_some_iff.1 HX3.out).1).trans HX3.out); have F4 : Hid (∀ k, F k → w.heap.size < k) := hid (fun k hk => by have := hF k hk; have := HS0.out; have := B3.out.size; have := (Array.getElem?_eq_some_iff.1 HX3.out).1; omega); clear hp hF hb))
 go_wp2_with (first
  | (go_at_call 35; (with_reducible refine (dnew_any ⟨w.heap.size, fun g => g < w.heap.size⟩ n most tw TN (.slice ma TN mc) _ (HRD.out _ B4.out) B4.out.size).mono ?_); rintro e w5 ⟨rfl, hd, hb⟩; have B5 := hid (B4.out.trans (hb.mono B4.out.size)); have D5 := hid hd; have P5 := hid (hM.stays P4.out hb.size (fun k hk => hb.block k (hM.lt P4.out k hk))); have HX5 := hid ((hb.block _ (Array.getElem?_eq_some_iff.1 HX4.out).1).trans HX4.out); have HL5 := hid hb.size; clear hd hb)
  | (refine step_store_row rfl 30 _ _ rfl w.heap.size 30 _ (paC p w4.heap.size (.slice none 0 0) (.slice none 0 0)) rfl rfl HX5.out (by kernel_rfl) rfl (by kernel_rfl) ?_))
 refine ret_row_tmp rfl rfl (setRow_heap _ _ _ _ _ _ HX5.out) Tryz.underlying30 rfl (by kernel_rfl) rfl ?_
 refine ⟨p, w4.heap.size, rfl, ?_⟩
 have hne : w4.heap.size ≠ w.heap.size := by have := (Array.getElem?_eq_some_iff.1 HX4.out).1; omega
 have hz : ∀ k, k ≠ w.heap.size → (w5.setRow w.heap.size (paC p w4.heap.size (.slice none 0 0) (.slice none 0 0))).heap[k]? = w5.heap[k]? := fun k hk => setRow_other w5 w.heap.size k _ hk
 have hsz : (w5.setRow w.heap.size (paC p w4.heap.size (.slice none 0 0) (.slice none 0 0))).heap.size = w5.heap.size := by simp [World.setRow]
 refine Bz.begun (G := fun g => g < w.heap.size) (F := F) (tv := .slice ma TN mc) (hM.stays P5.out (by rw [hsz]; exact Nat.le_refl _) (fun k hk => hz k (by have := F4.out k hk; omega))) (Dm.stays D5.out (by rw [hsz]; exact Nat.le_refl _) (fun k hk => hz k ?_) (fun k hk _ => hz k (by have hk' : k < w.heap.size := hk; omega))) (fun k hk => ⟨by have := F4.out k hk; omega, by have := hM.lt P4.out k hk; omega, by have := F4.out k hk; show ¬ k < w.heap.size; omega⟩) (fun k hk => by have hk' : k < w.heap.size := hk; have := B5.out.size; rw [hsz]; omega) (below_setRow B5.out (Nat.le_refl _) _) (by rw [hsz]; exact B5.out.size)
 rcases hk with e | e | e | e
 · omega
 · simp [Value.ownBlock] at e
 · simp [Value.ownBlock] at e
 · simp [Value.ownBlock] at e
open Go.RowKit
set_option maxRecDepth 100000
set_option maxHeartbeats 6400000 in
theorem yone {Pm : World → Nat → Ms → (Nat → Prop) → Prop} (hM : Mach Pm) {lo : Nat} {X : Nat → Prop} {W w : World} {p b k : Nat} {S1 S : Ms} (h : Bz Pm lo X W w p b S1 S) (hq : Bq k S) (hk : k + 3 ≤ 100000) (hn : S.n = 2 ∨ S.n = 3) (K : Int) (A : Nat → Int) (c : Nat) (hK : I64 K) (hA : Wb A) (hc : c < 2 ^ 64) :
  Calls Tryz.prog 54 #[.pointer (some ⟨b, 0, none⟩), .int .i64 K, .agg (wdV A), .int .u64 (c : Int)] w fun e w' => e = .returned (.agg (wdV (oneR S K A c))) ∧ Bz Pm lo X W w' p b S1 (oneS S K A c) ∧ ∀ k, X k → w'.heap[k]? = w.heap[k]? := by
 obtain ⟨hsh, hs2, hs3⟩ := sh_of hn
 have HOP : Hid (∀ i, i < 3 → opwf ((opOne K A c) i)) := hid (fun i hi => opOne_wf hK hA hc (by omega))
 have HQ : Hid (∀ m, m ≤ 3 → Bq (k + m) (eaS S (opOne K A c) 0 m)) := hid (fun m hm => eaS_bq hq 0 m (fun j hj => by rw [Nat.zero_add]; exact HOP.out j (by omega)))
 have HN : Hid (∀ m, (eaS S (opOne K A c) 0 m).n = (S.sh : Int)) := hid (fun m => (eaS_n S _ 0 m).trans hsh)
 have HK := hid hk
 have HB : Hid (Below w.heap.size w ((w.alloc (.cells (wdV A) 37)).alloc (.cells #[.int .i64 0, .int .i64 0, .int .i64 0] 37))) := hid ((((Below.refl _ _).alloc (Nat.le_refl _) _).alloc (by simp; try omega) _))
 have Z0 := hid (Gz.start h)
 have Z1 := hid (Z0.out.box hM (Nat.le_refl _) (wdV A))
 have Z2 := hid (Z1.out.box hM (by simp; try omega) #[.int .i64 0, .int .i64 0, .int .i64 0])
 have ZZ : Hid (Gz Pm lo X W w ((w.alloc (.cells (wdV A) 37)).alloc (.cells #[.int .i64 0, .int .i64 0, .int .i64 0] 37)) p b S1 S [((w.heap.size + 1), #[.int .i64 0, .int .i64 0, .int .i64 0]), (w.heap.size, (wdV A))]) := hid (by have := Z2.out; simpa using this)
 clear Z0 Z1 Z2
 unfold oneR oneS
 generalize S.sh = n at *
 clear h hq hn hk hsh hK hA hc
 go_enter Tryz.func54, Tryz.ntmps54
 go_wp2_with (go_at_call 43; (with_reducible refine (none_any _).mono ?_); rintro e w1 ⟨rfl, hb⟩; have HNL : Hid (w.heap.size + 2 ≤ w1.heap.size) := hid (by have := hb.size; simp at this; omega); have Z5 := hid ((ZZ.out.self hM hb).box hM (by have := HNL.out; omega) (wdV none3)); clear hb)
 generalize w1.heap.size = lb at *
 go_loopw [10] (fun i wr => ∃ m : Nat, m ≤ n ∧ i = .int .i64 m ∧ Gz Pm lo X W w wr p b S1 (eaS S (opOne K A c) 0 m) [(lb, wdV (eaR S (opOne K A c) 0 none3 m)), ((w.heap.size + 1), #[.int .i64 0, .int .i64 0, .int .i64 0]), (w.heap.size, (wdV A))]) (fun i _ => n - (intOf i).toNat)
 case atStart => exact ⟨0, by omega, rfl, Z5.out⟩
 case round =>
  obtain ⟨m, hm, rfl, hI⟩ := hrel
  have HI := hid hI
  clear hI
  have c0 := HI.out.sh
  rw [HN.out] at c0
  by_cases hlt : m < n
  ·
   have j2 : (m : Int) < (n : Int) := by omega
   have j1 : (0 : Int) ≤ (m : Int) := by omega
   have j3 : (m : Int) < 3 := by omega
   have HE := hid (eaS_0 S (opOne K A c) m)
   have HF := hid (eaR_0 S (opOne K A c) none3 m)
   have HOM : Hid (opwf ⟨K, (m : Int), A m, -1, -1, c⟩) := hid (HOP.out m (by omega))
   have HQM := hid (HQ.out m (by omega))
   have HKM : Hid (k + m ≤ 100000) := hid (by have := HK.out; omega)
   have HM3 : Hid (m < 3) := hid (by omega)
   have r0 : wr.cell? ⟨w.heap.size, m, none⟩ = some (.int .i64 (A m)) := row_c (HI.out.bx (w.heap.size, wdV A) (by simp)).2 (wdV_at _ _ HM3.out)
   go_wp2_with (first
    | (go_at_call 45; (with_reducible refine (dopc_any K (m : Int) (A m) (-1) c _).mono ?_); rintro e w5 ⟨rfl, hb⟩; have Y1 := hid (HI.out.self hM hb); clear hb)
    | (go_at_call 44; (with_reducible refine (ydo0 hM ⟨K, (m : Int), A m, -1, -1, c⟩ Y1.out.z HQM.out HKM.out HOM.out).mono ?_); rintro e w6 ⟨rfl, hz, hs⟩; have Y2 := hid (Y1.out.on hz hs); clear hz hs; have cl : w6.cell? ⟨lb, m, none⟩ = some (.int .i64 (eaR S (opOne K A c) 0 none3 m m)) := row_c (Y2.out.bx _ (List.mem_cons_self ..)).2 (wdV_at _ _ HM3.out); have fl := frozen_of_row w6 _ m _ _ (Y2.out.bx _ (List.mem_cons_self ..)).2))
   go_roundw
   case rel =>
    refine ⟨m + 1, by omega, by go_num, ?_⟩
    have := Y2.out.cell hM (by intro q hq; have := HNL.out; simp at hq; rcases hq with rfl | rfl <;> (simp; omega)) m (.int .i64 ((eaS S (opOne K A c) 0 m).doR ⟨K, (m : Int), A m, -1, -1, c⟩))
    rw [wdV_upd _ _ _ HM3.out] at this
    rw [HE.out, HF.out]
    exact this
   case measure => simp [intOf]; omega
  ·
   obtain rfl : m = n := by omega
   clear hlt
   go_wp2_with (first
    | (refine step_load_row rfl 37 _ rfl lb 37 (wdV (eaR S (opOne K A c) 0 none3 m)) _ rfl (HI.out.bx (lb, wdV (eaR S (opOne K A c) 0 none3 m)) (by simp)).2 Tryz.underlying37 rfl (by kernel_rfl) ?_)
    | (refine step_store_row rfl 37 _ _ rfl (w.heap.size + 1) 37 _ (wdV (eaR S (opOne K A c) 0 none3 m)) rfl rfl (HI.out.bx ((w.heap.size + 1), #[.int .i64 0, .int .i64 0, .int .i64 0]) (by simp)).2 (by kernel_rfl) rfl (by kernel_rfl) ?_))
   have ZF := hid (((HI.out.swap (bs' := [((w.heap.size + 1), #[.int .i64 0, .int .i64 0, .int .i64 0]), (lb, wdV (eaR S (opOne K A c) 0 none3 m))]) (by intro q hq; simp at hq ⊢; rcases hq with rfl | rfl <;> simp)).row hM (by intro q hq; have := HNL.out; simp at hq; subst hq; simp; omega) (wdV (eaR S (opOne K A c) 0 none3 m))))
   exact bodyPost_ret (results_cell_row (by rfl) _ _ (w.heap.size + 1) 37 (wdV (eaR S (opOne K A c) 0 none3 m)) (0, 0) _ rfl (ZF.out.bx _ (List.mem_cons_self ..)).2 Tryz.underlying37 rfl (by kernel_rfl)) rfl ⟨rfl, ZF.out.fin⟩
open Go.RowKit
set_option maxRecDepth 100000
set_option maxHeartbeats 6400000 in
theorem ynot {Pm : World → Nat → Ms → (Nat → Prop) → Prop} (hM : Mach Pm) {lo : Nat} {X : Nat → Prop} {W w : World} {p b k : Nat} {S1 S : Ms} (h : Bz Pm lo X W w p b S1 S) (hq : Bq k S) (hk : k + 3 ≤ 100000) (A : Nat → Int) (hA : Wb A) :
  Calls Tryz.prog 51 #[.pointer (some ⟨b, 0, none⟩), .agg (wdV A)] w fun e w' => e = .returned (.agg (wdV (notR S A))) ∧ Bz Pm lo X W w' p b S1 (notS S A) ∧ ∀ k, X k → w'.heap[k]? = w.heap[k]? := by
 have HO : Hid (opwf ⟨6, 0, A 0, -1, -1, 0⟩) := hid (opNot_wf hA)
 have HQ := hid hq
 have HK : Hid (k ≤ 100000) := hid (by omega)
 have HB : Hid (Below w.heap.size w ((w.alloc (.cells (wdV A) 37)).alloc (.cells #[.int .i64 0, .int .i64 0, .int .i64 0] 37))) := hid (((Below.refl _ _).alloc (Nat.le_refl _) _).alloc (by simp) _)
 have Z0 := hid (Gz.start h)
 have Z1 := hid (Z0.out.box hM (Nat.le_refl _) (wdV A))
 have Z2 := hid (Z1.out.box hM (by simp) #[.int .i64 0, .int .i64 0, .int .i64 0])
 have ZZ : Hid (Gz Pm lo X W w ((w.alloc (.cells (wdV A) 37)).alloc (.cells #[.int .i64 0, .int .i64 0, .int .i64 0] 37)) p b S1 S [(w.heap.size, wdV A), (w.heap.size + 1, #[.int .i64 0, .int .i64 0, .int .i64 0])]) := hid ((show Gz Pm lo X W w _ p b S1 S [(w.heap.size + 1, #[.int .i64 0, .int .i64 0, .int .i64 0]), (w.heap.size, wdV A)] from by have := Z2.out; simpa using this).swap (by intro q hq; simp at hq ⊢; exact hq.symm))
 clear Z0 Z1 Z2
 obtain ⟨w1, hw1⟩ : ∃ w1, (w.alloc (.cells (wdV A) 37)).alloc (.cells #[.int .i64 0, .int .i64 0, .int .i64 0] 37) = w1 := ⟨_, rfl⟩
 rw [hw1] at ZZ
 have HW1 := hid hw1
 clear h hq hk hA hw1
 show Calls Tryz.prog 51 _ w fun e w' => e = .returned (.agg (wdV (updI A 0 (S.doR ⟨6, 0, A 0, -1, -1, 0⟩)))) ∧ Bz Pm lo X W w' p b S1 (S.doS ⟨6, 0, A 0, -1, -1, 0⟩ 0) ∧ ∀ k, X k → w'.heap[k]? = w.heap[k]?
 go_enter Tryz.func51, Tryz.ntmps51
 go_upto_region 1 with fail
 rw [HW1.out]
 have cl : w1.cell? ⟨w.heap.size, 0, none⟩ = some (.int .i64 (A 0)) := row_c (ZZ.out.bx (w.heap.size, wdV A) (by simp)).2 rfl; have fl := frozen_of_row w1 w.heap.size 0 _ _ (ZZ.out.bx (w.heap.size, wdV A) (by simp)).2
 go_upto_region 2 with (first
  | (go_at_call 45; (with_reducible refine (dop0_any 6 0 (A 0) (-1) _).mono ?_); rintro e w2 ⟨rfl, hb⟩; have Y1 := hid (ZZ.out.self hM hb); clear hb)
  | (go_at_call 44; (with_reducible refine (ydo0 hM ⟨6, 0, A 0, -1, -1, 0⟩ Y1.out.z HQ.out HK.out HO.out).mono ?_); rintro e w3 ⟨rfl, hz, hs⟩; have Y2 := hid (Y1.out.on hz hs); clear hz hs cl fl; have cl : w3.cell? ⟨w.heap.size, 0, none⟩ = some (.int .i64 (A 0)) := row_c (Y2.out.bx (w.heap.size, wdV A) (by simp)).2 rfl; have fl := frozen_of_row w3 w.heap.size 0 _ _ (Y2.out.bx (w.heap.size, wdV A) (by simp)).2))
 have ZP : Hid (Gz Pm lo X W w (w3.setCell ⟨w.heap.size, 0, none⟩ (.int .i64 (S.doR ⟨6, 0, A 0, -1, -1, 0⟩))) p b S1 (S.doS ⟨6, 0, A 0, -1, -1, 0⟩ 0) [(w.heap.size, wdV (updI A 0 (S.doR ⟨6, 0, A 0, -1, -1, 0⟩))), (w.heap.size + 1, #[.int .i64 0, .int .i64 0, .int .i64 0])]) := hid (by
  have := Y2.out.cell hM (by intro q hq; simp at hq; subst hq; simp) 0 (.int .i64 (S.doR ⟨6, 0, A 0, -1, -1, 0⟩))
  rw [wdV_upd _ _ _ (by decide)] at this
  exact this)
 generalize w3.setCell ⟨w.heap.size, 0, none⟩ (.int .i64 (S.doR ⟨6, 0, A 0, -1, -1, 0⟩)) = wz at *
 clear cl fl
 go_wp2_with (first
  | (refine step_load_row rfl 37 _ rfl w.heap.size 37 (wdV (updI A 0 (S.doR ⟨6, 0, A 0, -1, -1, 0⟩))) _ rfl (ZP.out.bx (w.heap.size, wdV (updI A 0 (S.doR ⟨6, 0, A 0, -1, -1, 0⟩))) (by simp)).2 Tryz.underlying37 rfl (by kernel_rfl) ?_)
  | (refine step_store_row rfl 37 _ _ rfl (w.heap.size + 1) 37 _ (wdV (updI A 0 (S.doR ⟨6, 0, A 0, -1, -1, 0⟩))) rfl rfl (ZP.out.bx (w.heap.size + 1, #[.int .i64 0, .int .i64 0, .int .i64 0]) (by simp)).2 (by kernel_rfl) rfl (by kernel_rfl) ?_))
 have ZF := hid (((ZP.out.swap (bs' := [(w.heap.size + 1, #[.int .i64 0, .int .i64 0, .int .i64 0]), (w.heap.size, wdV (updI A 0 (S.doR ⟨6, 0, A 0, -1, -1, 0⟩)))]) (by intro q hq; simp at hq ⊢; exact hq.symm)).row hM (by intro q hq; simp at hq; subst hq; simp) (wdV (updI A 0 (S.doR ⟨6, 0, A 0, -1, -1, 0⟩)))))
 exact bodyPost_ret (results_cell_row (by rfl) _ _ (w.heap.size + 1) 37 (wdV (updI A 0 (S.doR ⟨6, 0, A 0, -1, -1, 0⟩))) (0, 0) _ rfl (ZF.out.bx _ (List.mem_cons_self ..)).2 Tryz.underlying37 rfl (by kernel_rfl)) rfl ⟨rfl, ZF.out.fin⟩
end Go.Proofs.YthkijncnndoafaaGreatDoor
