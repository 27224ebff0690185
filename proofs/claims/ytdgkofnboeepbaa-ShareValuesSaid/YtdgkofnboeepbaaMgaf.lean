import Derived.Test.YtdgkofnboeepbaaProg
import Derived.Test.YtdgkofnboeepbaaMgac
import Derived.Test.YtdgkofnboeepbaaMgab
import Derived.Test.YtdgkofnboeepbaaMgad
import Derived.Deep.CutRange
import Derived.Deep.CutBlock
import Derived.Laws.StructEq
/- Wire: the document's machine: a block ends. -/
namespace Go.Proofs.Ytdgkofnboeepbaa
open Go.RowKit
set_option maxRecDepth 100000
theorem Dm.drewN {lo : LoG} {b : Nat} {w : World} {S : Ms} {ov bv vv tv : Value} (h : Dm lo w b S ov bv vv tv) (n : Nat) : Dm lo (w.drewN n) b S ov bv vv tv := h.self (below_drewN w n)
end Go.Proofs.Ytdgkofnboeepbaa

/- Wire: the document's machine: a mask is drawn. -/
namespace Go.Proofs.Ytdgkofnboeepbaa
open Go.RowKit
set_option maxRecDepth 100000
section
variable {lo : LoG} {b : Nat} {w : World} {S : Ms} {ov bv vv tv : Value}
theorem Dm.drawn (h : Dm lo w b S ov bv vv tv) {v' : Value} {f' u' : Int} (hr : RdS .u64 w (fun g => g ≠ b ∧ ov.ownBlock ≠ some g ∧ bv.ownBlock ≠ some g ∧ vv.ownBlock ≠ some g ∧ lo.G g) v' (wdL (fun i => S.tw (S.used + 1 + i)) (S.TN - (S.used + 1)))) (hf : f' = ((S.free - 1 : Nat) : Int)) (hu : u' = ((S.used + 1 : Nat) : Int)) :
    Dm lo (((w.setCell ⟨b, 11, none⟩ v').setCell ⟨b, 13, none⟩ (.int .i64 f')).setCell ⟨b, 12, none⟩ (.int .i64 u')) b { S with used := S.used + 1, free := S.free - 1 } ov bv vv v' ∧ Tch (Ft b ov bv vv) w (((w.setCell ⟨b, 11, none⟩ v').setCell ⟨b, 13, none⟩ (.int .i64 f')).setCell ⟨b, 12, none⟩ (.int .i64 u')) := by
  subst hf; subst hu
  have ho : ∀ k, k ≠ b → (((w.setCell ⟨b, 11, none⟩ v').setCell ⟨b, 13, none⟩ (.int .i64 ((S.free - 1 : Nat) : Int))).setCell ⟨b, 12, none⟩ (.int .i64 ((S.used + 1 : Nat) : Int))).heap[k]? = w.heap[k]? := fun k hk => by
    rw [heap_setCell_other _ ⟨b, 12, none⟩ k _ hk, heap_setCell_other _ ⟨b, 13, none⟩ k _ hk, heap_setCell_other _ ⟨b, 11, none⟩ k _ hk]
  refine ⟨⟨?_, h.lob, ?_, ?_, ?_, h.hob, h.hbb, h.hvb, h.hobv, h.hov, h.hbv, ?_⟩, ?_⟩
  · rw [heap_setCell_same _ b 12 _ 46 _ (heap_setCell_same _ b 13 _ 46 _ (heap_setCell_same w b 11 _ 46 v' h.blk))]; rfl
  · exact h.ops.stays fun k hk => ho k (fun e => h.hob (by subst e; exact hk))
  · exact h.bls.stays fun k hk => ho k (fun e => h.hbb (by subst e; exact hk))
  · exact h.val.stays fun k hk => ho k (fun e => h.hvb (by subst e; exact hk))
  · exact rds_stays hr (by simp [World.setCell]) fun g hg _ => ho g hg.1
  · exact ((tch_set b 11 _ _).trans (tch_set b 13 _ _) (fun _ _ f => f)).trans (tch_set b 12 _ _) (fun _ _ f => f)
end
end Go.Proofs.Ytdgkofnboeepbaa

/- Op: whether it may stand at a place, by the document. -/
namespace Go.Proofs.Ytdgkofnboeepbaa
open Go.RowKit
set_option maxRecDepth 100000

end Go.Proofs.Ytdgkofnboeepbaa

/- Wire: the document's machine: an op is done. -/
namespace Go.Proofs.Ytdgkofnboeepbaa
open Go.RowKit
set_option maxRecDepth 100000
/-- On the way through Do: the machine, and the op's box. -/
structure Dz (lo : LoG) (b : Nat) (w wx : World) (S : Ms) (o : Op6) (ov bv vv tv : Value) : Prop where
  dm : Dm lo wx b S ov bv vv tv
  op : wx.heap[w.heap.size]? = some (.cells (opCs o) 95 (0, 0))
  tch : Tch (Ft b ov bv vv) w wx
  no : ¬ Ft b ov bv vv w.heap.size
section
variable {lo : LoG} {b : Nat} {w wx wy : World} {S S' : Ms} {o : Op6} {ov bv vv tv tv' : Value}
theorem Dz.step (h : Dz lo b w wx S o ov bv vv tv) (hd : Dm lo wy b S' ov bv vv tv') (ht : Tch (Ft b ov bv vv) wx wy) : Dz lo b w wy S' o ov bv vv tv' :=
  ⟨hd, (ht.block _ (Array.getElem?_eq_some_iff.1 h.op).1 h.no).trans h.op, h.tch.trans ht (fun _ _ f => f), h.no⟩
theorem Dz.self (h : Dz lo b w wx S o ov bv vv tv) (hb : Below wx.heap.size wx wy) : Dz lo b w wy S o ov bv vv tv := h.step (h.dm.self hb) (Tch.of_below hb)
theorem Dz.drew (h : Dz lo b w wx S o ov bv vv tv) : Dz lo b w wx.drew S o ov bv vv tv := h.self ((Below.refl _ _).drew)
theorem Dz.drewN (h : Dz lo b w wx S o ov bv vv tv) (n : Nat) : Dz lo b w (wx.drewN n) S o ov bv vv tv := h.self (below_drewN wx n)
theorem Dm.no (h : Dm lo w b S ov bv vv tv) : ¬ Ft b ov bv vv w.heap.size := by
  rintro (e | e | e | e)
  · have := h.lt; omega
  · have := (h.ops.lt _ e).2; omega
  · have := (h.bls.lt _ e).2; omega
  · have := (h.val.lt _ e).2; omega
theorem Dz.start (h : Dm lo w b S ov bv vv tv) (o : Op6) : Dz lo b w (w.alloc (.cells (opCs o) 95)) S o ov bv vv tv :=
  ⟨h.self ((Below.refl _ _).alloc (Nat.le_refl _) _), heap_alloc_new w _, Tch.of_below ((Below.refl _ _).alloc (Nat.le_refl _) _), h.no⟩
theorem Dz.oc (h : Dz lo b w wx S o ov bv vv tv) (i : Nat) {u : Value} (hu : (opCs o)[i]? = some u) : wx.cell? ⟨w.heap.size, i, none⟩ = some u := by
  rw [cell_of_row wx _ i _ _ _ h.op]; exact hu
end
namespace Ms
def p1 (S : Ms) (o : Op6) : Ms := { S with used := if o.K = 1 ∧ S.dry = false then S.used + 1 else S.used, free := if o.K = 1 ∧ S.dry = false then S.free - 1 else S.free }
def p2 (S : Ms) (o : Op6) : Ms := { S.p1 o with draws := if o.K = 1 then S.draws + 1 else S.draws }
def p3 (S : Ms) (o : Op6) : Ms := { S.p2 o with words := if o.K = 2 then S.words + 1 else S.words }
end Ms
theorem Dm2.self {lo : LoG} {b LV : Nat} {w w' : World} {S : Ms} {ov bv vv tv : Value} (h : Dm2 lo w b S LV ov bv vv tv) (hb : Below w.heap.size w w') : Dm2 lo w' b S LV ov bv vv tv :=
  ⟨(hb.block b (Array.getElem?_eq_some_iff.1 h.blk).1).trans h.blk, h.lob, h.ops.stays fun k hk => hb.block k (h.ops.lt k hk).2, h.bls.stays fun k hk => hb.block k (h.bls.lt k hk).2,
   h.val.stays fun k hk => hb.block k (h.val.lt k hk).2, h.hob, h.hbb, h.hvb, h.hobv, h.hov, h.hbv, rds_self h.tap hb⟩
theorem Dm2.lt {lo : LoG} {b LV : Nat} {w : World} {S : Ms} {ov bv vv tv : Value} (h : Dm2 lo w b S LV ov bv vv tv) : b < w.heap.size := (Array.getElem?_eq_some_iff.1 h.blk).1
theorem Dm2.c {lo : LoG} {b LV : Nat} {w : World} {S : Ms} {ov bv vv tv : Value} (h : Dm2 lo w b S LV ov bv vv tv) (i : Nat) {u : Value} (hu : (dmC S ov bv vv tv)[i]? = some u) : w.cell? ⟨b, i, none⟩ = some u := by
  rw [cell_of_row w b i _ _ _ h.blk]; exact hu
/-- Behind the append to Val. -/
structure Dy (lo : LoG) (b : Nat) (w wx : World) (S : Ms) (o : Op6) (x : Nat) (ov bv vv tv vv' : Value) : Prop where
  dm : Dm2 lo wx b { S.p3 o with v := updN S.v S.L (S.makes o x) } (S.L + 1) ov bv vv' tv
  op : wx.heap[w.heap.size]? = some (.cells (opCs o) 95 (0, 0))
  tch : Tch (Ft b ov bv vv) w wx
  sub : ∀ k, Ft b ov bv vv' k → Ft b ov bv vv k ∨ w.heap.size ≤ k
  no : ov.ownBlock ≠ some w.heap.size ∧ b ≠ w.heap.size
end Go.Proofs.Ytdgkofnboeepbaa

/- Wire: what the program's machine must tell, whatever it is made of. -/
namespace Go.Proofs.Ytdgkofnboeepbaa
open Go.RowKit
set_option maxRecDepth 100000
/-- What a method of the program's machine leaves. -/
def PmR (Pm : World → Nat → Ms → (Nat → Prop) → Prop) (b : Nat) (S' : Ms) (F : Nat → Prop) (w w' : World) : Prop := ∃ F', Pm w' b S' F' ∧ Tch F w w' ∧ ∀ k, F' k → F k ∨ w.heap.size ≤ k
/-- What is kept of ops and blocks: nothing by a dry machine. -/
def Ms.keep (S : Ms) (n : Nat) : Nat := if S.dry = true then 0 else n
/-- The program's machine: Pm w b S F: in w block b holds it, S its numbers, F the blocks that it owns. -/
structure Mach (Pm : World → Nat → Ms → (Nat → Prop) → Prop) : Prop where
  stays : ∀ {w w' : World} {b : Nat} {S : Ms} {F : Nat → Prop}, Pm w b S F → w.heap.size ≤ w'.heap.size → (∀ k, F k → w'.heap[k]? = w.heap[k]?) → Pm w' b S F
  lt : ∀ {w : World} {b : Nat} {S : Ms} {F : Nat → Prop}, Pm w b S F → ∀ k, F k → k < w.heap.size
  do_ : ∀ (b k : Nat) (S : Ms) (F : Nat → Prop) (o : Op6) (x : Nat) (w : World), Pm w b S F → Bq k S → k ≤ 1000000 → opwf o → x < 2 ^ 64 → Calls Try.prog 68 #[.pointer (some ⟨b, 0, none⟩), .agg (opCs o), .int .u64 (x : Int)] w fun e w' => e = .returned (.int .i64 (S.doR o)) ∧ PmR Pm b (S.doS o x) F w w'
  rand : ∀ (b k : Nat) (S : Ms) (F : Nat → Prop) (dom : Int) (w : World), Pm w b S F → Bq k S → k ≤ 1000000 → opwf ⟨1, dom, -1, -1, -1, 0⟩ → Calls Try.prog 42 #[.pointer (some ⟨b, 0, none⟩), .int .i64 dom] w fun e w' => e = .returned (.int .i64 (S.doR ⟨1, dom, -1, -1, -1, 0⟩)) ∧ PmR Pm b (S.doS ⟨1, dom, -1, -1, -1, 0⟩ 0) F w w'
  key : ∀ (b k : Nat) (S : Ms) (F : Nat → Prop) (x : Nat) (p q : Int) (w : World), Pm w b S F → Bq k S → k ≤ 1000000 → opwf ⟨2, 0, p, q, -1, S.words⟩ → x < 2 ^ 64 → Calls Try.prog 43 #[.pointer (some ⟨b, 0, none⟩), .int .u64 (x : Int), .int .i64 p, .int .i64 q] w fun e w' => e = .returned (.int .i64 (S.doR ⟨2, 0, p, q, -1, S.words⟩)) ∧ PmR Pm b (S.doS ⟨2, 0, p, q, -1, S.words⟩ x) F w w'
  const_ : ∀ (b k : Nat) (S : Ms) (F : Nat → Prop) (dom : Int) (c : Nat) (w : World), Pm w b S F → Bq k S → k ≤ 1000000 → opwf ⟨3, dom, -1, -1, -1, c⟩ → Calls Try.prog 54 #[.pointer (some ⟨b, 0, none⟩), .int .i64 dom, .int .u64 (c : Int)] w fun e w' => e = .returned (.int .i64 (S.doR ⟨3, dom, -1, -1, -1, c⟩)) ∧ PmR Pm b (S.doS ⟨3, dom, -1, -1, -1, c⟩ 0) F w w'
  told : ∀ (b k : Nat) (S : Ms) (F : Nat → Prop) (dom : Int) (c : Nat) (w : World), Pm w b S F → Bq k S → k ≤ 1000000 → opwf ⟨4, dom, -1, -1, -1, c⟩ → Calls Try.prog 53 #[.pointer (some ⟨b, 0, none⟩), .int .i64 dom, .int .u64 (c : Int)] w fun e w' => e = .returned (.int .i64 (S.doR ⟨4, dom, -1, -1, -1, c⟩)) ∧ PmR Pm b (S.doS ⟨4, dom, -1, -1, -1, c⟩ 0) F w w'
  two : ∀ (b k : Nat) (S : Ms) (F : Nat → Prop) (kd dom p q : Int) (w : World), Pm w b S F → Bq k S → k ≤ 1000000 → opwf ⟨kd, dom, p, q, -1, 0⟩ → Calls Try.prog 56 #[.pointer (some ⟨b, 0, none⟩), .int .i64 kd, .int .i64 dom, .int .i64 p, .int .i64 q] w fun e w' => e = .returned (.int .i64 (S.doR ⟨kd, dom, p, q, -1, 0⟩)) ∧ PmR Pm b (S.doS ⟨kd, dom, p, q, -1, 0⟩ 0) F w w'
  one : ∀ (b k : Nat) (S : Ms) (F : Nat → Prop) (kd dom p : Int) (c : Nat) (w : World), Pm w b S F → Bq k S → k ≤ 1000000 → opwf ⟨kd, dom, p, -1, -1, c⟩ → Calls Try.prog 57 #[.pointer (some ⟨b, 0, none⟩), .int .i64 kd, .int .i64 dom, .int .i64 p, .int .u64 (c : Int)] w fun e w' => e = .returned (.int .i64 (S.doR ⟨kd, dom, p, -1, -1, c⟩)) ∧ PmR Pm b (S.doS ⟨kd, dom, p, -1, -1, c⟩ 0) F w w'
  begin_ : ∀ (b k : Nat) (S : Ms) (F : Nat → Prop) (kd : Int) (w : World), Pm w b S F → Bq k S → k ≤ 1000000 → Calls Try.prog 39 #[.pointer (some ⟨b, 0, none⟩), .int .i64 kd] w fun e w' => e = .returned (.tuple #[]) ∧ PmR Pm b (S.beginS kd) F w w'
  end_ : ∀ (b k : Nat) (S : Ms) (F : Nat → Prop) (w : World), Pm w b S F → Bq k S → k ≤ 1000000 → Calls Try.prog 44 #[.pointer (some ⟨b, 0, none⟩)] w fun e w' => e = .returned (.tuple #[]) ∧ PmR Pm b S.endS F w w'
  n : ∀ (b k : Nat) (S : Ms) (F : Nat → Prop) (w : World), Pm w b S F → Bq k S → k ≤ 1000000 → Calls Try.prog 66 #[.pointer (some ⟨b, 0, none⟩)] w fun e w' => e = .returned (.int .i64 S.n) ∧ Below w.heap.size w w'
  len : ∀ (b k : Nat) (S : Ms) (F : Nat → Prop) (w : World), Pm w b S F → Bq k S → k ≤ 1000000 → Calls Try.prog 37 #[.pointer (some ⟨b, 0, none⟩)] w fun e w' => e = .returned (.int .i64 (S.len : Nat)) ∧ Below w.heap.size w w'
  err : ∀ (b k : Nat) (S : Ms) (F : Nat → Prop) (w : World), Pm w b S F → Bq k S → k ≤ 1000000 → Calls Try.prog 33 #[.pointer (some ⟨b, 0, none⟩)] w fun e w' => e = .returned (.int .i64 (S.e : Nat)) ∧ Below w.heap.size w w'
  trace : ∀ (b k : Nat) (S : Ms) (F : Nat → Prop) (w : World), Pm w b S F → Bq k S → k ≤ 1000000 → Calls Try.prog 35 #[.pointer (some ⟨b, 0, none⟩)] w fun e w' => ∃ v0 v1, e = .returned (.agg #[.int .i64 S.n, v0, v1]) ∧ ROp w' v0 (S.keep S.L) S.f ∧ RSp w' v1 (S.keep S.M) S.g ∧ Below w.heap.size w w'
  values : ∀ (b k : Nat) (S : Ms) (F : Nat → Prop) (w : World), Pm w b S F → Bq k S → k ≤ 1000000 → Calls Try.prog 11 #[.pointer (some ⟨b, 0, none⟩)] w fun e w' => ∃ v, e = .returned v ∧ Rd .u64 w' v (wdL S.v (S.keep S.L)) ∧ Below w.heap.size w w'
theorem row_c {w : World} {n i : Nat} {cs : Array Value} {T : TypeId} {u : Value} (h : w.heap[n]? = some (.cells cs T (0, 0))) (hu : cs[i]? = some u) : w.cell? ⟨n, i, none⟩ = some u := by
  rw [cell_of_row w n i _ _ _ h]; exact hu
theorem Bq.bd {k : Nat} {S : Ms} (h : Bq k S) (hk : k ≤ 100000) : Bd S := by
  have h1 := h.len
  unfold Ms.len at h1
  have h2 := h.M
  have h3 := h.words
  have h4 := h.draws
  exact ⟨by omega, by omega, by omega, by omega, by omega, h.used, h.free, h.TN, h.v, h.tw⟩
theorem Dm.ftlt {lo : LoG} {b : Nat} {w : World} {S : Ms} {ov bv vv tv : Value} (h : Dm lo w b S ov bv vv tv) {k : Nat} (hk : Ft b ov bv vv k) : k < w.heap.size := by
  rcases hk with rfl | e | e | e
  · exact h.lt
  · exact (h.ops.lt k e).2
  · exact (h.bls.lt k e).2
  · exact (h.val.lt k e).2
theorem Dm.stays {lo : LoG} {b : Nat} {w w' : World} {S : Ms} {ov bv vv tv : Value} (h : Dm lo w b S ov bv vv tv) (hs : w.heap.size ≤ w'.heap.size) (ho : ∀ k, Ft b ov bv vv k → w'.heap[k]? = w.heap[k]?) (hg : ∀ k, lo.G k → k < w.heap.size → w'.heap[k]? = w.heap[k]?) : Dm lo w' b S ov bv vv tv :=
  ⟨(ho b (.inl rfl)).trans h.blk, h.lob, h.ops.stays fun k hk => ho k (.inr (.inl hk)), h.bls.stays fun k hk => ho k (.inr (.inr (.inl hk))), h.val.stays fun k hk => ho k (.inr (.inr (.inr hk))),
   h.hob, h.hbb, h.hvb, h.hobv, h.hov, h.hbv, rds_stays h.tap hs fun g hF hlt => hg g hF.2.2.2.2 hlt⟩
/-- Both machines, in one world: the program's with the numbers S1 in block p, the document's with S2 in block b; X: blocks that are neither's. -/
def Bz (Pm : World → Nat → Ms → (Nat → Prop) → Prop) (lo : Nat) (X : Nat → Prop) (W wx : World) (p b : Nat) (S1 S2 : Ms) : Prop :=
  ∃ F G ov bv vv tv, Pm wx p S1 F ∧ Dm ⟨lo, G⟩ wx b S2 ov bv vv tv ∧ (∀ k, F k → lo ≤ k ∧ ¬ Ft b ov bv vv k ∧ ¬ G k ∧ ¬ X k) ∧ (∀ k, X k → k < wx.heap.size ∧ ¬ Ft b ov bv vv k ∧ ¬ G k) ∧ (∀ k, G k → k < wx.heap.size) ∧ Below lo W wx ∧ lo ≤ wx.heap.size
section
variable {Pm : World → Nat → Ms → (Nat → Prop) → Prop} {lo : Nat} {X : Nat → Prop} {W wx wy : World} {p b : Nat} {S1 S2 S' : Ms}
theorem Bz.low (h : Bz Pm lo X W wx p b S1 S2) : Below lo W wx := by
  obtain ⟨_, _, _, _, _, _, _, _, _, _, _, h, _⟩ := h; exact h
theorem Bz.los (h : Bz Pm lo X W wx p b S1 S2) : lo ≤ wx.heap.size := by
  obtain ⟨_, _, _, _, _, _, _, _, _, _, _, _, h⟩ := h; exact h
theorem Bz.words (h : Bz Pm lo X W wx p b S1 S2) : wx.cell? ⟨b, 2, none⟩ = some (.int .i64 (S2.words : Int)) := by
  obtain ⟨F, G, ov, bv, vv, tv, h1, h2, _⟩ := h
  exact h2.c_words
theorem Bz.dry (h : Bz Pm lo X W wx p b S1 S2) : wx.cell? ⟨b, 14, none⟩ = some (.bool S2.dry) := by
  obtain ⟨F, G, ov, bv, vv, tv, h1, h2, _⟩ := h
  exact h2.c_dry
theorem Bz.vals (h : Bz Pm lo X W wx p b S1 S2) : ∃ a cap, wx.cell? ⟨b, 10, none⟩ = some (.slice a S2.L cap) ∧ (0 < S2.L → ∃ g, a = some ⟨g, 0, none⟩ ∧ ∀ i, i < S2.L → wx.cell? ⟨g, i, none⟩ = some (.int .u64 (S2.v i : Int))) := by
  obtain ⟨F, G, ov, bv, vv, tv, h1, h2, _⟩ := h
  obtain ⟨a, cap, rfl, hc⟩ := h2.vals
  exact ⟨a, cap, h2.c_vv, hc⟩
/-- New blocks alone. -/
theorem Bz.self (hM : Mach Pm) (h : Bz Pm lo X W wx p b S1 S2) (hb : Below wx.heap.size wx wy) : Bz Pm lo X W wy p b S1 S2 := by
  obtain ⟨F, G, ov, bv, vv, tv, h1, h2, h3, h4, h5, h6, h7⟩ := h
  exact ⟨F, G, ov, bv, vv, tv, hM.stays h1 hb.size (fun k hk => hb.block k (hM.lt h1 k hk)), h2.self hb, h3, fun k hk => ⟨Nat.lt_of_lt_of_le (h4 k hk).1 hb.size, (h4 k hk).2⟩, fun k hk => Nat.lt_of_lt_of_le (h5 k hk) hb.size, h6.trans (hb.mono h7), Nat.le_trans h7 hb.size⟩
theorem Bz.drew (hM : Mach Pm) (h : Bz Pm lo X W wx p b S1 S2) : Bz Pm lo X W wx.drew p b S1 S2 := h.self hM ((Below.refl _ _).drew)
/-- More blocks that are neither's. -/
theorem Bz.more (hM : Mach Pm) (h : Bz Pm lo X W wx p b S1 S2) (hb : Below wx.heap.size wx wy) : Bz Pm lo (fun k => X k ∨ wx.heap.size ≤ k ∧ k < wy.heap.size) W wy p b S1 S2 := by
  obtain ⟨F, G, ov, bv, vv, tv, h1, h2, h3, h4, h5, h6, h7⟩ := h
  refine ⟨F, G, ov, bv, vv, tv, hM.stays h1 hb.size (fun k hk => hb.block k (hM.lt h1 k hk)), h2.self hb, fun k hk => ⟨(h3 k hk).1, (h3 k hk).2.1, (h3 k hk).2.2.1, ?_⟩, fun k hk => ?_, fun k hk => Nat.lt_of_lt_of_le (h5 k hk) hb.size, h6.trans (hb.mono h7), Nat.le_trans h7 hb.size⟩
  · rintro (e | e)
    · exact (h3 k hk).2.2.2 e
    · have := hM.lt h1 k hk; omega
  · rcases hk with e | e
    · exact ⟨Nat.lt_of_lt_of_le (h4 k e).1 hb.size, (h4 k e).2⟩
    · exact ⟨e.2, fun f => by have := h2.ftlt f; omega, fun g => by have := h5 k g; omega⟩
/-- What is neither machine's is turned. -/
theorem Bz.apart (hM : Mach Pm) {H : Nat → Prop} (h : Bz Pm lo X W wx p b S1 S2) (hb : Tch H wx wy) (hH : ∀ k, H k → X k ∧ lo ≤ k) : Bz Pm lo X W wy p b S1 S2 := by
  obtain ⟨F, G, ov, bv, vv, tv, h1, h2, h3, h4, h5, h6, h7⟩ := h
  exact ⟨F, G, ov, bv, vv, tv, hM.stays h1 hb.size (fun k hk => hb.block k (hM.lt h1 k hk) (fun f => (h3 k hk).2.2.2 (hH k f).1)), h2.stays hb.size (fun k hk => hb.block k (h2.ftlt hk) (fun f => (h4 k (hH k f).1).2.1 hk)) (fun k hk hlt => hb.block k hlt (fun f => (h4 k (hH k f).1).2.2 hk)), h3, fun k hk => ⟨Nat.lt_of_lt_of_le (h4 k hk).1 hb.size, (h4 k hk).2⟩, fun k hk => Nat.lt_of_lt_of_le (h5 k hk) hb.size, h6.trans (hb.below (fun k f => (hH k f).2) h7), Nat.le_trans h7 hb.size⟩
/-- Fewer. -/
theorem Bz.less {Y : Nat → Prop} (h : Bz Pm lo X W wx p b S1 S2) (hY : ∀ k, Y k → X k) : Bz Pm lo Y W wx p b S1 S2 := by
  obtain ⟨F, G, ov, bv, vv, tv, h1, h2, h3, h4, h5, h6, h7⟩ := h
  exact ⟨F, G, ov, bv, vv, tv, h1, h2, fun k hk => ⟨(h3 k hk).1, (h3 k hk).2.1, (h3 k hk).2.2.1, fun e => (h3 k hk).2.2.2 (hY k e)⟩, fun k hk => h4 k (hY k hk), h5, h6, h7⟩
/-- The program's machine goes on. -/
theorem Bz.prog (_hM : Mach Pm) {F G : Nat → Prop} {p' : Nat} {ov bv vv tv : Value} (_h1 : Pm wx p S1 F) (h2 : Dm ⟨lo, G⟩ wx b S2 ov bv vv tv) (h3 : ∀ k, F k → lo ≤ k ∧ ¬ Ft b ov bv vv k ∧ ¬ G k ∧ ¬ X k) (h4 : ∀ k, X k → k < wx.heap.size ∧ ¬ Ft b ov bv vv k ∧ ¬ G k) (h5 : ∀ k, G k → k < wx.heap.size) (h6 : Below lo W wx) (h7 : lo ≤ wx.heap.size)
    (hr : PmR Pm p' S' F wx wy) : Bz Pm lo X W wy p' b S' S2 ∧ ∀ k, X k → wy.heap[k]? = wx.heap[k]? := by
  obtain ⟨F', g1, g2, g3⟩ := hr
  refine ⟨⟨F', G, ov, bv, vv, tv, g1, h2.stays g2.size (fun k hk => g2.block k (h2.ftlt hk) (fun f => (h3 k f).2.1 hk)) (fun k hk hlt => g2.block k hlt (fun f => (h3 k f).2.2.1 hk)), fun k hk => ?_, fun k hk => ⟨Nat.lt_of_lt_of_le (h4 k hk).1 g2.size, (h4 k hk).2⟩, fun k hk => Nat.lt_of_lt_of_le (h5 k hk) g2.size, h6.trans (g2.below (fun k f => (h3 k f).1) h7), Nat.le_trans h7 g2.size⟩, fun k hk => g2.block k (h4 k hk).1 (fun f => (h3 k f).2.2.2 hk)⟩
  rcases g3 k hk with f | f
  · exact h3 k f
  · exact ⟨by omega, fun e => by have := h2.ftlt e; omega, fun e => by have := h5 k e; omega, fun e => by have := (h4 k e).1; omega⟩
end
section
variable {Pm : World → Nat → Ms → (Nat → Prop) → Prop} (hM : Mach Pm) {lo : Nat} {X : Nat → Prop} {W w : World} {b bd k : Nat} {S S2 : Ms}
include hM
end
end Go.Proofs.Ytdgkofnboeepbaa

/- Wire: the law's rows of words: a tape's words, rows that are alike. -/
namespace Go.Proofs.Ytdgkofnboeepbaa
open Go.RowKit
set_option maxRecDepth 100000
structure WI (w1 wr : World) (v : Value) (T : Nat → Nat) (j : Nat) : Prop where
  own : Own .u64 w1.heap.size 34 wr v (wdL (fun i => T (i + 1)) j)
  low : Below w1.heap.size w1 wr
/-- The words that a tape is made of. -/
structure Lcg (T : Nat → Nat) : Prop where
  z : T 0 = 1
  s : ∀ i, T (i + 1) = (T i * 6364136223846793005 + 1442695040888963407) % 18446744073709551616
theorem Lcg.lt {T : Nat → Nat} (h : Lcg T) : ∀ i, T i < 18446744073709551616
  | 0 => by rw [h.z]; decide
  | i + 1 => by rw [h.s]; exact Nat.mod_lt _ (by decide)
end Go.Proofs.Ytdgkofnboeepbaa

/- Wire: the document's machine: a new one, a trace of it. -/
namespace Go.Proofs.Ytdgkofnboeepbaa
open Go.RowKit
set_option maxRecDepth 100000
/-- A new machine. -/
def startS (n most : Int) (tw : Nat → Nat) (TN free : Nat) : Ms :=
  ⟨n, most, 0, 0, 0, 0, 0, 0, 0, fun _ => ⟨0, 0, 0, 0, 0, 0⟩, 0, fun _ => ⟨0, 0, 0⟩, fun _ => 0, tw, TN, 0, free, false⟩
theorem orw_nil (w : World) (B : Nat) (E : TypeId) (k : Nat) (c : Nat → List Value) : Orw w B E k (.slice none 0 0) 0 c := ⟨by simp [recs], .inl ⟨rfl, rfl⟩⟩
theorem dnew_any (lo : LoG) (n most : Int) (tw : Nat → Nat) (TN : Nat) (v : Value) (w : World) (h : RdS .u64 w lo.G v (wdL tw TN)) (hlo : lo.lo ≤ w.heap.size) :
    Calls Try.prog 17 #[.int .i64 n, v, .int .i64 most] w fun e w' => e = .returned (.pointer (some ⟨w.heap.size, 0, none⟩)) ∧ Dm lo w' w.heap.size (startS n most tw TN TN) (.slice none 0 0) (.slice none 0 0) (.slice none 0 0) v ∧ Below w.heap.size w w' := by
  obtain ⟨a, cap, rfl, h2⟩ := id h
  rw [wdL_len] at h
  have HN : Hid (Dm lo (w.alloc (.cells (dmC (startS n most tw TN TN) (.slice none 0 0) (.slice none 0 0) (.slice none 0 0) (.slice a TN cap)) 46)) w.heap.size (startS n most tw TN TN) (.slice none 0 0) (.slice none 0 0) (.slice none 0 0) (.slice a TN cap)) := hid ⟨heap_alloc_new _ _, hlo, orw_nil _ _ _ _ _, orw_nil _ _ _ _ _, orw_nil _ _ _ _ _, by simp [Value.ownBlock], by simp [Value.ownBlock], by simp [Value.ownBlock], by simp [Value.ownBlock], by simp [Value.ownBlock], by simp [Value.ownBlock], by
    show RdS .u64 _ _ _ (wdL (fun i => tw (0 + i)) (TN - 0))
    have e : (fun i => tw (0 + i)) = tw := funext fun i => by rw [Nat.zero_add]
    rw [e, Nat.sub_zero]
    have h3 := h.imp (T := fun g => g ≠ w.heap.size ∧ (Value.slice none 0 0).ownBlock ≠ some g ∧ (Value.slice none 0 0).ownBlock ≠ some g ∧ (Value.slice none 0 0).ownBlock ≠ some g ∧ lo.G g) (fun g hg hlt => ⟨by omega, by simp [Value.ownBlock], by simp [Value.ownBlock], by simp [Value.ownBlock], hg⟩)
    exact rds_self h3 ((Below.refl _ _).alloc (Nat.le_refl _) _)⟩
  have HB : Hid (Below w.heap.size w (w.alloc (.cells (dmC (startS n most tw TN TN) (.slice none 0 0) (.slice none 0 0) (.slice none 0 0) (.slice a TN cap)) 46))) := hid ((Below.refl _ _).alloc (Nat.le_refl _) _)
  rw [wdL_len]
  clear h h2
  go_enter Try.func17, Try.ntmps17
  go_wp2
  go_ret
  exact ⟨rfl, HN.out, HB.out⟩
end Go.Proofs.Ytdgkofnboeepbaa

/- General: traces that are the same, and what follows. No program is named. -/
namespace Go.Proofs.Ytdgkofnboeepbaa

end Go.Proofs.Ytdgkofnboeepbaa

/- Wire: traces held against each other, by the document; only such as are alike. -/
namespace Go.Proofs.Ytdgkofnboeepbaa
open Go.RowKit
set_option maxRecDepth 100000
/-- Two traces in their boxes. -/
structure Tbw (A B : Array Value) (w wr : World) : Prop where
  one : wr.heap[w.heap.size]? = some (.cells A 73 (0, 0))
  two : wr.heap[w.heap.size + 1]? = some (.cells B 73 (0, 0))
  low : Below w.heap.size w wr
theorem Tbw.start (A B : Array Value) (w : World) : Tbw A B w ((w.alloc (.cells A 73)).alloc (.cells B 73)) := by
  refine ⟨?_, ?_, ((Below.refl _ w).alloc (Nat.le_refl _) _).alloc (by simp) _⟩
  · rw [heap_alloc_old _ _ (by simp)]; exact heap_alloc_new w _
  · have := heap_alloc_new (w.alloc (.cells A 73)) (.cells B 73)
    rw [show (w.alloc (.cells A 73)).heap.size = w.heap.size + 1 by simp] at this
    exact this
theorem Tbw.self {A B : Array Value} {w wr w1 : World} (h : Tbw A B w wr) (hb : Below wr.heap.size wr w1) : Tbw A B w w1 :=
  ⟨(hb.block _ (Array.getElem?_eq_some_iff.1 h.one).1).trans h.one, (hb.block _ (Array.getElem?_eq_some_iff.1 h.two).1).trans h.two, h.low.trans (hb.mono h.low.size)⟩
end Go.Proofs.Ytdgkofnboeepbaa

/- Wire: is a machine as the document's is? -/
namespace Go.Proofs.Ytdgkofnboeepbaa
open Go.RowKit
set_option maxRecDepth 100000
theorem orw_rd {w : World} {B : Nat} {v : Value} {f : Nat → Nat} {L : Nat} (h : Orw w B 34 1 v L (fun i => [.int .u64 (f i : Int)])) (hL : L ≤ 1000000) (hf : ∀ i, i < L → f i < 2 ^ 64) : Rd .u64 w v (wdL f L) := by
  obtain ⟨a, cap, rfl, h1, h2, h3, h4⟩ := h.slice
  refine ⟨a, cap, by rw [wdL_len], by rw [wdL_len]; show L * 8 ≤ _; omega, fun z hz => ?_, fun h0 => ?_⟩
  · unfold wdL at hz
    obtain ⟨i, hi, rfl⟩ := List.mem_map.1 hz
    exact WalkArith.wf_u64 (by have := hf i (List.mem_range.1 hi); omega)
  · rw [wdL_len] at h0 ⊢
    obtain ⟨g, rfl⟩ := h4 h0
    refine ⟨g, 0, rfl, (Orw.lt h g rfl).2, fun j hj => ?_⟩
    have := Orw.cell h (fun _ => rfl) hj (by decide : 0 < 1) (u := .int .u64 (f j : Int)) rfl
    rw [wdL_nth f hj]
    simpa using this
theorem orw_rop {w : World} {B : Nat} {v : Value} {f : Nat → Op6} {L : Nat} (h : Orw w B 95 6 v L (fun i => (opCs (f i)).toList)) (hL : L ≤ 1000000) (hf : ∀ i, i < L → opwf (f i)) : ROp w v L f := by
  obtain ⟨a, cap, rfl, h1, h2, h3, h4⟩ := h.slice
  refine ⟨by omega, hf, a, cap, rfl, h1, h2, fun h0 => ?_⟩
  obtain ⟨g, rfl⟩ := h4 h0
  refine ⟨g, 0, rfl, (Orw.lt h g rfl).2, fun i hi => ?_⟩
  have hc : ∀ j u, j < 6 → (opCs (f i)).toList[j]? = some u → w.cell? ⟨g, 0 + i * 6 + j, none⟩ = some u := fun j u hj hu => by
    rw [Nat.zero_add]; exact Orw.cell h (fun _ => rfl) hi hj hu
  exact ⟨hc 0 _ (by decide) rfl, hc 1 _ (by decide) rfl, hc 2 _ (by decide) rfl, hc 3 _ (by decide) rfl, hc 4 _ (by decide) rfl, hc 5 _ (by decide) rfl⟩
theorem orw_rsp {w : World} {B : Nat} {v : Value} {f : Nat → Sp3} {L : Nat} (h : Orw w B 78 3 v L (fun i => (spCs (f i)).toList)) (hL : L ≤ 1000000) (hf : ∀ i, i < L → spwf (f i)) : RSp w v L f := by
  obtain ⟨a, cap, rfl, h1, h2, h3, h4⟩ := h.slice
  refine ⟨by omega, hf, a, cap, rfl, h1, h2, fun h0 => ?_⟩
  obtain ⟨g, rfl⟩ := h4 h0
  refine ⟨g, 0, rfl, (Orw.lt h g rfl).2, fun i hi => ?_⟩
  have hc : ∀ j u, j < 3 → (spCs (f i)).toList[j]? = some u → w.cell? ⟨g, 0 + i * 3 + j, none⟩ = some u := fun j u hj hu => by
    rw [Nat.zero_add]; exact Orw.cell h (fun _ => rfl) hi hj hu
  exact ⟨hc 0 _ (by decide) rfl, hc 1 _ (by decide) rfl, hc 2 _ (by decide) rfl⟩
section
variable {Pm : World → Nat → Ms → (Nat → Prop) → Prop} (hM : Mach Pm) {lo : Nat} {X : Nat → Prop} {W w : World} {p b k : Nat} {S S2 : Ms}
include hM
theorem zn (h : Bz Pm lo X W w p b S S2) (hq : Bq k S) (hk : k ≤ 1000000) : Calls Try.prog 66 #[.pointer (some ⟨p, 0, none⟩)] w fun e w' => e = .returned (.int .i64 S.n) ∧ Below w.heap.size w w' := by
  obtain ⟨F, G, ov, bv, vv, tv, h1, h2, h3, h4, h5, h6, h7⟩ := h
  exact hM.n p k S F w h1 hq hk
theorem zlen (h : Bz Pm lo X W w p b S S2) (hq : Bq k S) (hk : k ≤ 1000000) : Calls Try.prog 37 #[.pointer (some ⟨p, 0, none⟩)] w fun e w' => e = .returned (.int .i64 (S.len : Nat)) ∧ Below w.heap.size w w' := by
  obtain ⟨F, G, ov, bv, vv, tv, h1, h2, h3, h4, h5, h6, h7⟩ := h
  exact hM.len p k S F w h1 hq hk
theorem zvalues (h : Bz Pm lo X W w p b S S2) (hq : Bq k S) (hk : k ≤ 1000000) : Calls Try.prog 11 #[.pointer (some ⟨p, 0, none⟩)] w fun e w' => ∃ v, e = .returned v ∧ Rd .u64 w' v (wdL S.v (S.keep S.L)) ∧ Below w.heap.size w w' := by
  obtain ⟨F, G, ov, bv, vv, tv, h1, h2, h3, h4, h5, h6, h7⟩ := h
  exact hM.values p k S F w h1 hq hk
omit hM
theorem Bz.vv (h : Bz Pm lo X W w p b S2 S) (hq : Bq k S) (hk : k ≤ 100000) : ∃ a cap, w.cell? ⟨b, 10, none⟩ = some (.slice a S.L cap) ∧ Rd .u64 w (.slice a S.L cap) (wdL S.v S.L) := by
  obtain ⟨F, G, ov, bv, vv, tv, h1, h2, h3, h4, h5, h6, h7⟩ := h
  have hl := hq.len
  unfold Ms.len at hl
  obtain ⟨a, cap, rfl, _⟩ := h2.vals
  exact ⟨a, cap, h2.c_vv, orw_rd h2.val (by omega) hq.v⟩
theorem Bz.c0 (h : Bz Pm lo X W w p b S2 S) : w.cell? ⟨b, 0, none⟩ = some (.int .i64 S.n) ∧ w.cell? ⟨b, 3, none⟩ = some (.int .i64 (S.draws : Int)) ∧ w.cell? ⟨b, 7, none⟩ = some (.int .i64 (S.e : Int)) ∧ w.cell? ⟨b, 14, none⟩ = some (.bool S.dry) := by
  obtain ⟨F, G, ov, bv, vv, tv, h1, h2, h3, h4, h5, h6, h7⟩ := h
  exact ⟨h2.c_n, h2.c_draws, h2.c_e, h2.c_dry⟩
end
end Go.Proofs.Ytdgkofnboeepbaa

/- General: a whole row of records is appended to a row that is owned (slices.Clone of records). No program is named. -/
namespace Go.Proofs.Ytdgkofnboeepbaa
open Go.RowKit
theorem recs_one {c : Nat → List Value} : ∀ {n : Nat}, (∀ i, i < n → ∀ u ∈ c i, u.oneCell' = true) → ∀ u ∈ recs c n, u.oneCell' = true
  | 0, _, u, hu => (List.not_mem_nil hu).elim
  | n + 1, h, u, hu => by
    rw [recs] at hu
    rcases List.mem_append.1 hu with hu | hu
    · exact recs_one (fun i hi => h i (by omega)) u hu
    · exact h n (by omega) u hu
theorem run_append_none {P : Program} (w : World) (t r : TypeId) (B k : Nat) (E : TypeId) (ht : P.underlying t = some (.slice E)) (hsz : (P.info? E).map (·.size) = some k)
    (sv : Value) (m : Nat) (d : Nat → List Value) (hown : Orw w B E k sv m d) (p : Option Addr) (c : Nat) :
    (Builtin.append_ #[t, t] r #[sv, .slice p 0 c]).run P w = .ok sv w := by
  cases hi : P.info? E with
  | none => simp [hi] at hsz
  | some i0 =>
    obtain ⟨a, cap, rfl, hn, _⟩ := hown.slice
    cases a <;> cases p <;> simp [Builtin.append_, run_underlying ht, sizeOf, typeInfo, hi, Builtin.lenOf, hn, Builtin.firstCells, loadCells, loadCellsFrom, storeCells]
theorem wp_append_row {P : Program} {w : World} {o : Oper} {a : Act} {K : Act → World → Prop} {Q : Exit → Act → World → Prop} (s x : Operand) (t : TypeId)
    (ho : o.op = .call { callee := .builtin .append, args := #[s, x], argTypes := #[t, t] }) (B : Nat) (E : TypeId) (k by_ : Nat) (z : Value) (ht : P.underlying t = some (.slice E))
    (hinfo : (P.info? E).map (fun i => (i.zero, i.size, i.bytes)) = some (some z, k, by_)) (hz : z.cells.size = k) (hk : 0 < k)
    (sv : Value) (hs : a.eval s = sv) (d : Nat → List Value) (hown : Orw w B E k sv 0 d) (xv : Value) (B' n : Nat) (c : Nat → List Value) (hx : a.eval x = xv) (hrow : Orw w B' E k xv n c) (hck : ∀ i, (c i).length = k) (hone : ∀ i, i < n → ∀ u ∈ c i, u.oneCell' = true)
    (hm : n ≤ maxLen) (hlim : n * by_ ≤ 140737488355328) (hB : B ≤ w.heap.size) (B0 : Nat) (w0 : World) (hb : Below B0 w0 w) (hBB : B0 ≤ B)
    (h : ∀ v' w', Orw w' B E k v' n c → Below B0 w0 w' → K (a.put o.dst v') w') : o.wp P a w K Q := by
  obtain ⟨ax, cap, rfl, _, _, _, hp⟩ := hrow.slice
  cases hq : P.info? E with
  | none => simp [hq] at hinfo
  | some i =>
    rw [hq] at hinfo
    simp only [Option.map_some, Option.some.injEq, Prod.mk.injEq] at hinfo
    obtain ⟨h1, h2, h3⟩ := hinfo
    rcases Nat.eq_zero_or_pos n with rfl | h0
    · have hrun := run_append_none (P := P) w t o.type B k E ht (by rw [hq]; simp [h2]) sv 0 d hown ax cap
      unfold Oper.wp
      simp [execOp, ho, resolve, invoke, builtin, hs, hx, hrun, Result.andThen]
      exact h sv w (hown.ext (fun i hi => absurd hi (Nat.not_lt_zero i))) hb
    · obtain ⟨g, rfl⟩ := hp h0
      refine wp_append_lies w s x t ho B E i z k by_ ht hq h1 h2 h3 hz hk sv 0 (recs d 0) hs hown ⟨g, 0, none⟩ n cap (recs c n) hx (recs_len hck n) (fun j u hu => ?_) (recs_one hone) h0 (by omega) (by rw [Nat.zero_add]; exact hlim) hB w.heap.size rfl (fun g cap' w' g1 g2 g3 _ => ?_)
      · exact World.ownsRow.cells (g := g) hrow rfl j u hu
      · rw [Nat.zero_add] at g1 ⊢
        refine h _ w' g1 ?_
        refine ⟨g2.os.trans hb.os, g2.tape.trans hb.tape, g2.output.trans hb.output, Nat.le_trans hb.size g2.size, fun j hj => ?_⟩
        refine (g2.block j ?_ (fun e => ?_)).trans (hb.block j hj)
        · omega
        · have := (hown.lt j e.symm).1; omega
theorem wpList_append_row {P : Program} {w : World} {ops : Array Oper} {rest : List Oper} {o : Oper} {a : Act} {Q : Exit → Act → World → Prop} (hgd : o.guard = none) (s x : Operand) (t : TypeId)
    (ho : o.op = .call { callee := .builtin .append, args := #[s, x], argTypes := #[t, t] }) (B : Nat) (E : TypeId) (k by_ : Nat) (z : Value) (ht : P.underlying t = some (.slice E))
    (hinfo : (P.info? E).map (fun i => (i.zero, i.size, i.bytes)) = some (some z, k, by_)) (hz : z.cells.size = k) (hk : 0 < k)
    (sv : Value) (hs : a.eval s = sv) (d : Nat → List Value) (hown : Orw w B E k sv 0 d) (xv : Value) (B' n : Nat) (c : Nat → List Value) (hx : a.eval x = xv) (hrow : Orw w B' E k xv n c) (hck : ∀ i, (c i).length = k) (hone : ∀ i, i < n → ∀ u ∈ c i, u.oneCell' = true)
    (hm : n ≤ maxLen) (hlim : n * by_ ≤ 140737488355328) (hB : B ≤ w.heap.size) (B0 : Nat) (w0 : World) (hb : Below B0 w0 w) (hBB : B0 ≤ B)
    (h : ∀ v' w', Orw w' B E k v' n c → Below B0 w0 w' → wpList P ops Q rest (a.put o.dst v') w') : wpList P ops Q (o :: rest) a w :=
  wpList_plain hgd fun _ hK => wp_append_row s x t ho B E k by_ z ht hinfo hz hk sv hs d hown xv B' n c hx hrow hck hone hm hlim hB B0 w0 hb hBB fun v' w' h2 h3 => hK _ _ (h v' w' h2 h3)
end Go.Proofs.Ytdgkofnboeepbaa

/- Wire: the program's machine alone; nobody's machine, a new one; the example. -/
namespace Go.Proofs.Ytdgkofnboeepbaa
open Go.RowKit
set_option maxRecDepth 100000
/-- A machine over a tape of which d words were drawn, and which may be drawn up to e. -/
def startD (n most : Int) (tw : Nat → Nat) (TN d e : Nat) : Ms :=
  ⟨n, most, 0, 0, 0, 0, 0, 0, 0, fun _ => ⟨0, 0, 0, 0, 0, 0⟩, 0, fun _ => ⟨0, 0, 0⟩, fun _ => 0, tw, TN, d, e - d, false⟩
/-- Nobody's machine, and new ones. -/
structure MachN (Pm : World → Nat → Ms → (Nat → Prop) → Prop) : Prop where
  nbegin : ∀ w, Calls Try.prog 39 #[.pointer none, .int .i64 1] w fun e w' => e = .returned (.tuple #[]) ∧ Below w.heap.size w w'
  nend : ∀ w, Calls Try.prog 44 #[.pointer none] w fun e w' => e = .returned (.tuple #[]) ∧ Below w.heap.size w w'
  nrand : ∀ w, Calls Try.prog 42 #[.pointer none, .int .i64 0] w fun e w' => e = .returned (.int .i64 (-1)) ∧ Below w.heap.size w w'
  nkey : ∀ w, Calls Try.prog 43 #[.pointer none, .int .u64 1, .int .i64 0, .int .i64 0] w fun e w' => e = .returned (.int .i64 (-1)) ∧ Below w.heap.size w w'
  nlen : ∀ w, Calls Try.prog 37 #[.pointer none] w fun e w' => e = .returned (.int .i64 0) ∧ Below w.heap.size w w'
  nerr : ∀ w, Calls Try.prog 33 #[.pointer none] w fun e w' => e = .returned (.int .i64 1) ∧ Below w.heap.size w w'
  nvalues : ∀ w, Calls Try.prog 11 #[.pointer none] w fun e w' => ∃ a c, e = .returned (.slice a 0 c) ∧ Below w.heap.size w w'
  nn : ∀ w, Calls Try.prog 66 #[.pointer none] w fun e w' => e = .returned (.int .i64 0) ∧ Below w.heap.size w w'
  ntrace : ∀ w, Calls Try.prog 35 #[.pointer none] w fun e w' => ∃ n a c v, e = .returned (.agg #[.int .i64 n, .slice a 0 c, v]) ∧ Below w.heap.size w w'
  bad : ∀ (n most : Int) (q : Nat) (w : World), ¬ ((n = 2 ∨ n = 3) ∧ 0 ≤ most ∧ most ≤ 1048576) → Calls Try.prog 16 #[.int .i64 n, .pointer (some ⟨q, 0, none⟩), .int .i64 most] w fun e w' => e = .returned (.tuple #[.pointer none, .int .i64 1]) ∧ Below w.heap.size w w'
  new : ∀ (lo hi q d e : Nat) (n most : Int) (tw : Nat → Nat) (TN : Nat) (w : World), TapeAt w lo hi q (wdL tw TN) d e → (n = 2 ∨ n = 3) → 0 ≤ most → most ≤ 1048576 →
    Calls Try.prog 16 #[.int .i64 n, .pointer (some ⟨q, 0, none⟩), .int .i64 most] w fun r w' => ∃ b, r = .returned (.tuple #[.pointer (some ⟨b, 0, none⟩), .int .i64 0]) ∧ Below w.heap.size w w' ∧ ∃ F, Pm w' b (startD n most tw TN d e) F ∧ ∀ k, F k → (lo ≤ k ∧ k < hi) ∨ w.heap.size ≤ k
/-- The program's machine, alone. -/
def Pz (Pm : World → Nat → Ms → (Nat → Prop) → Prop) (lo : Nat) (X : Nat → Prop) (W wx : World) (p : Nat) (S : Ms) : Prop :=
  ∃ F, Pm wx p S F ∧ (∀ k, F k → lo ≤ k ∧ ¬ X k) ∧ (∀ k, X k → k < wx.heap.size) ∧ Below lo W wx ∧ lo ≤ wx.heap.size
section
variable {Pm : World → Nat → Ms → (Nat → Prop) → Prop} {lo : Nat} {X : Nat → Prop} {W wx wy : World} {p : Nat} {S S' : Ms}
theorem Pz.low (h : Pz Pm lo X W wx p S) : Below lo W wx := by obtain ⟨_, _, _, _, h, _⟩ := h; exact h
theorem Pz.los (h : Pz Pm lo X W wx p S) : lo ≤ wx.heap.size := by obtain ⟨_, _, _, _, _, h⟩ := h; exact h
theorem Pz.self (hM : Mach Pm) (h : Pz Pm lo X W wx p S) (hb : Below wx.heap.size wx wy) : Pz Pm lo X W wy p S := by
  obtain ⟨F, h1, h2, h3, h4, h5⟩ := h
  exact ⟨F, hM.stays h1 hb.size (fun k hk => hb.block k (hM.lt h1 k hk)), h2, fun k hk => Nat.lt_of_lt_of_le (h3 k hk) hb.size, h4.trans (hb.mono h5), Nat.le_trans h5 hb.size⟩
/-- What is not the machine's is turned. -/
theorem Pz.apart (hM : Mach Pm) {G : Nat → Prop} (h : Pz Pm lo X W wx p S) (hb : Tch G wx wy) (hG : ∀ k, G k → X k ∧ lo ≤ k) : Pz Pm lo X W wy p S := by
  obtain ⟨F, h1, h2, h3, h4, h5⟩ := h
  exact ⟨F, hM.stays h1 hb.size (fun k hk => hb.block k (hM.lt h1 k hk) (fun g => (h2 k hk).2 (hG k g).1)), h2, fun k hk => Nat.lt_of_lt_of_le (h3 k hk) hb.size, h4.trans (hb.below (fun k g => (hG k g).2) h5), Nat.le_trans h5 hb.size⟩
/-- More blocks that are not the machine's: new ones. -/
theorem Pz.more (hM : Mach Pm) {Y : Nat → Prop} (h : Pz Pm lo X W wx p S) (hb : Below wx.heap.size wx wy) (hY : ∀ k, Y k → X k ∨ wx.heap.size ≤ k ∧ k < wy.heap.size) : Pz Pm lo Y W wy p S := by
  obtain ⟨F, h1, h2, h3, h4, h5⟩ := h
  refine ⟨F, hM.stays h1 hb.size (fun k hk => hb.block k (hM.lt h1 k hk)), fun k hk => ⟨(h2 k hk).1, fun hy => ?_⟩, fun k hk => ?_, h4.trans (hb.mono h5), Nat.le_trans h5 hb.size⟩
  · rcases hY k hy with e | e
    · exact (h2 k hk).2 e
    · have := hM.lt h1 k hk; omega
  · rcases hY k hk with e | e
    · exact Nat.lt_of_lt_of_le (h3 k e) hb.size
    · exact e.2
theorem Pz.on {F : Nat → Prop} {p' : Nat} (h2 : ∀ k, F k → lo ≤ k ∧ ¬ X k) (h3 : ∀ k, X k → k < wx.heap.size) (h4 : Below lo W wx) (h5 : lo ≤ wx.heap.size) (hr : PmR Pm p' S' F wx wy) : Pz Pm lo X W wy p' S' ∧ ∀ k, X k → wy.heap[k]? = wx.heap[k]? := by
  obtain ⟨F', g1, g2, g3⟩ := hr
  refine ⟨⟨F', g1, fun k hk => ?_, fun k hk => Nat.lt_of_lt_of_le (h3 k hk) g2.size, h4.trans (g2.below (fun k f => (h2 k f).1) h5), Nat.le_trans h5 g2.size⟩, fun k hk => g2.block k (h3 k hk) (fun f => (h2 k f).2 hk)⟩
  rcases g3 k hk with f | f
  · exact h2 k f
  · exact ⟨by omega, fun e => by have := h3 k e; omega⟩
end
section
variable {Pm : World → Nat → Ms → (Nat → Prop) → Prop} (hM : Mach Pm) {lo : Nat} {X : Nat → Prop} {W w : World} {b k : Nat} {S : Ms}
include hM
end
theorem startD_bq (n most : Int) (tw : Nat → Nat) (TN d e k : Nat) (hn : n = 2 ∨ n = 3) (hm : 0 ≤ most) (hm' : most ≤ 1048576) (hT : TN ≤ 20000000000000) (htw : ∀ i, i < TN → tw i < 2 ^ 64) (hd : d ≤ e) (he : e ≤ TN) : Bq k (startD n most tw TN d e) := by
  refine ⟨Nat.zero_le _, Nat.zero_le _, Nat.zero_le _, Nat.zero_le _, Nat.zero_le _, by show d ≤ _; omega, by show e - d ≤ _; omega, hT, fun i hi => absurd hi (Nat.not_lt_zero i), htw, fun _ => rfl, fun i hi => absurd hi (Nat.not_lt_zero i), fun i hi => absurd hi (Nat.not_lt_zero i), by show (0 : Int) ≤ 0 ∧ (0 : Int) ≤ 3; decide, by show _ ≤ n ∧ n ≤ _; omega, by show _ ≤ most ∧ most ≤ _; omega, by show 0 ≤ 4; omega⟩
/-- The example's machines. -/
def exS0 : Ms := startD 2 9 (fun _ => 0) 0 0 0
theorem exB0 : Bq 0 exS0 := startD_bq 2 9 _ 0 0 0 0 (.inl rfl) (by decide) (by decide) (by decide) (fun i hi => absurd hi (Nat.not_lt_zero i)) (by decide) (by decide)
end Go.Proofs.Ytdgkofnboeepbaa
