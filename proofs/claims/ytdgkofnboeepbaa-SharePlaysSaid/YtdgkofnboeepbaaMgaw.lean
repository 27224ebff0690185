import Derived.Test.YtdgkofnboeepbaaProg
import Derived.Test.YtdgkofnboeepbaaMgat
import Derived.Test.YtdgkofnboeepbaaMgaj
import Derived.Deep.CutRange
import Derived.Deep.CutBlock
/- Share: what the law's loop holds. -/
namespace Go.Proofs.Ytdgkofnboeepbaa
open Go.RowKit
set_option maxRecDepth 100000
/-- What is neither machine's is turned, and there are new blocks. -/
theorem Bz.grow {Pm : World → Nat → Ms → (Nat → Prop) → Prop} {lo : Nat} {X Y H : Nat → Prop} {W wx wy : World} {p b : Nat} {S1 S2 : Ms} (hM : Mach Pm) (h : Bz Pm lo X W wx p b S1 S2) (hb : Tch H wx wy) (hH : ∀ k, H k → X k ∧ lo ≤ k) (hY : ∀ k, Y k → X k ∨ wx.heap.size ≤ k ∧ k < wy.heap.size) : Bz Pm lo Y W wy p b S1 S2 := by
  obtain ⟨F, G, ov, bv, vv, tv, h1, h2, h3, h4, h5, h6, h7⟩ := h
  refine ⟨F, G, ov, bv, vv, tv, hM.stays h1 hb.size (fun k hk => hb.block k (hM.lt h1 k hk) (fun f => (h3 k hk).2.2.2 (hH k f).1)), h2.stays hb.size (fun k hk => hb.block k (h2.ftlt hk) (fun f => (h4 k (hH k f).1).2.1 hk)) (fun k hk hlt => hb.block k hlt (fun f => (h4 k (hH k f).1).2.2 hk)), fun k hk => ⟨(h3 k hk).1, (h3 k hk).2.1, (h3 k hk).2.2.1, fun y => ?_⟩, fun k hk => ?_, fun k hk => Nat.lt_of_lt_of_le (h5 k hk) hb.size, h6.trans (hb.below (fun k f => (hH k f).2) h7), Nat.le_trans h7 hb.size⟩
  · rcases hY k y with e | e
    · exact (h3 k hk).2.2.2 e
    · have := hM.lt h1 k hk; omega
  · rcases hY k hk with e | e
    · exact ⟨Nat.lt_of_lt_of_le (h4 k e).1 hb.size, (h4 k e).2⟩
    · exact ⟨e.2, fun f => by have := h2.ftlt f; omega, fun g => by have := h5 k g; omega⟩
theorem Bz.xlt {Pm : World → Nat → Ms → (Nat → Prop) → Prop} {lo : Nat} {X : Nat → Prop} {W wx : World} {p b : Nat} {S1 S2 : Ms} (h : Bz Pm lo X W wx p b S1 S2) {k : Nat} (hk : X k) : k < wx.heap.size := by
  obtain ⟨F, G, ov, bv, vv, tv, h1, h2, h3, h4, _⟩ := h
  exact (h4 k hk).1
/-- The loop: the pair's box q8, the words that there are, and what they stand for. -/
structure Iw (Pm : World → Nat → Ms → (Nat → Prop) → Prop) (lo : Nat) (X : Nat → Prop) (W wr : World) (p b q8 i : Nat) (n : Int) (S : Ms) (NL : Nat) (WF : Nat → Nat → Int) (VF : Nat → Nat) (lv vv : Value) : Prop where
  z : Bz Pm lo X W wr p b S S
  bx : wr.heap[q8]? = some (.cells (paC p b lv vv) 28 (0, 0))
  x8 : X q8
  lo8 : lo ≤ q8
  L : Orw wr lo 33 3 lv NL (fun j => (wdV (WF j)).toList)
  V : Orw wr lo 34 1 vv NL (fun j => [.int .u64 (VF j : Int)])
  xl : ∀ k, lv.ownBlock = some k → X k
  xv : ∀ k, vv.ownBlock = some k → X k
  nl8 : lv.ownBlock ≠ some q8
  nv8 : vv.ownBlock ≠ some q8
  nlv : ∀ k, lv.ownBlock = some k → vv.ownBlock ≠ some k
  nl : NL ≤ i
  bq : Bq (6 * i) S
  sk : S.skip = 0
  sn : S.n = n
  dr : S.dry = false
  wb : ∀ j, j < NL → Wb (WF j)
  gw : ∀ j, j < NL → Gw S (WF j)
  vl : ∀ j, j < NL → VF j = vlN S.v S.L (WF j)
section
variable {Pm : World → Nat → Ms → (Nat → Prop) → Prop} {lo : Nat} {X : Nat → Prop} {W wr wy : World} {p b q8 i : Nat} {n : Int} {S : Ms} {NL : Nat} {WF : Nat → Nat → Int} {VF : Nat → Nat} {lv vv : Value}
/-- X and all that lies there is as it was. -/
theorem Iw.on {S' : Ms} (h : Iw Pm lo X W wr p b q8 i n S NL WF VF lv vv) (hz : Bz Pm lo X W wy p b S' S') (hs : ∀ k, X k → wy.heap[k]? = wr.heap[k]?) (hq : Bq (6 * (i + 1)) S') (hx : Ext S S') : Iw Pm lo X W wy p b q8 (i + 1) n S' NL WF VF lv vv :=
  ⟨hz, (hs q8 h.x8).trans h.bx, h.x8, h.lo8, h.L.stays (fun k hk => hs k (h.xl k hk)), h.V.stays (fun k hk => hs k (h.xv k hk)), h.xl, h.xv, h.nl8, h.nv8, h.nlv, Nat.le_succ_of_le h.nl, hq, by rw [hx.skip]; exact h.sk, by rw [hx.n]; exact h.sn, by rw [hx.dry]; exact h.dr, h.wb, fun j hj => (h.gw j hj).ext hx, fun j hj => by rw [vl_ext hx (h.gw j hj).lt]; exact h.vl j hj⟩
theorem Iw.self (hM : Mach Pm) (h : Iw Pm lo X W wr p b q8 i n S NL WF VF lv vv) (hb : Below wr.heap.size wr wy) : Iw Pm lo X W wy p b q8 i n S NL WF VF lv vv :=
  ⟨h.z.self hM hb, (hb.block q8 (h.z.xlt h.x8)).trans h.bx, h.x8, h.lo8, h.L.stays (fun k hk => hb.block k (h.L.lt k hk).2), h.V.stays (fun k hk => hb.block k (h.V.lt k hk).2), h.xl, h.xv, h.nl8, h.nv8, h.nlv, h.nl, h.bq, h.sk, h.sn, h.dr, h.wb, h.gw, h.vl⟩
theorem Iw.vb (h : Iw Pm lo X W wr p b q8 i n S NL WF VF lv vv) : ∀ j, j < NL → VF j < 2 ^ 64 := fun j hj => by rw [h.vl j hj]; exact vlP_lt h.bq.v _ 3
/-- The words, as an act reads them. -/
theorem Iw.lv_ (h : Iw Pm lo X W wr p b q8 i n S NL WF VF lv vv) : ∃ la va lc vc, lv = .slice la NL lc ∧ vv = .slice va NL vc ∧ (0 < NL → ∃ gL gV, la = some ⟨gL, 0, none⟩ ∧ va = some ⟨gV, 0, none⟩ ∧ Lv wr X NL gL gV WF VF) := by
  obtain ⟨la, lc, rfl, _, _, _, hl⟩ := h.L.slice
  obtain ⟨va, vc, rfl, _, _, _, hv⟩ := h.V.slice
  refine ⟨la, va, lc, vc, rfl, rfl, fun h0 => ?_⟩
  obtain ⟨gL, rfl⟩ := hl h0
  obtain ⟨gV, rfl⟩ := hv h0
  refine ⟨gL, gV, rfl, rfl, h.xl gL rfl, h.xv gV rfl, (h.L.lt gL rfl).2, (h.V.lt gV rfl).2, fun j hj x u hu => ?_, fun j hj => ?_, h.wb, h.vb⟩
  · have hx : x < 3 := by have := (List.getElem?_eq_some_iff.1 hu).1; simpa using this
    exact Orw.cell h.L (fun _ => rfl) hj hx hu
  · have := Orw.cell h.V (fun _ => rfl) hj (by decide : 0 < 1) (u := .int .u64 (VF j : Int)) rfl
    simpa using this
/-- More blocks that are neither's. -/
theorem Iw.more (hM : Mach Pm) (h : Iw Pm lo X W wr p b q8 i n S NL WF VF lv vv) (hb : Below wr.heap.size wr wy) : Iw Pm lo (fun k => X k ∨ wr.heap.size ≤ k ∧ k < wy.heap.size) W wy p b q8 i n S NL WF VF lv vv := by
  have h' := h.self hM hb
  exact ⟨h.z.more hM hb, h'.bx, .inl h.x8, h.lo8, h'.L, h'.V, fun k hk => .inl (h.xl k hk), fun k hk => .inl (h.xv k hk), h.nl8, h.nv8, h.nlv, h.nl, h.bq, h.sk, h.sn, h.dr, h.wb, h.gw, h.vl⟩
end
/-- Words one longer. -/
def updW (WF : Nat → Nat → Int) (j : Nat) (R : Nat → Int) : Nat → Nat → Int := fun i => if i = j then R else WF i
theorem updW_at (WF : Nat → Nat → Int) (j : Nat) (R : Nat → Int) : updW WF j R j = R := by simp [updW]
theorem updW_no (WF : Nat → Nat → Int) {j i : Nat} (R : Nat → Int) (h : i ≠ j) : updW WF j R i = WF i := by simp [updW, h]
/-- The words' row has grown. -/
structure Iv (Pm : World → Nat → Ms → (Nat → Prop) → Prop) (lo : Nat) (X : Nat → Prop) (W wr : World) (p b q8 i : Nat) (n : Int) (S : Ms) (NL : Nat) (WF : Nat → Nat → Int) (VF : Nat → Nat) (lv vv : Value) (R : Nat → Int) (lv' : Value) : Prop where
  z : Bz Pm lo X W wr p b S S
  bx : wr.heap[q8]? = some (.cells (paC p b lv vv) 28 (0, 0))
  x8 : X q8
  lo8 : lo ≤ q8
  L : Orw wr lo 33 3 lv' (NL + 1) (fun j => (wdV (updW WF NL R j)).toList)
  V : Orw wr lo 34 1 vv NL (fun j => [.int .u64 (VF j : Int)])
  xl : ∀ k, lv'.ownBlock = some k → X k
  xv : ∀ k, vv.ownBlock = some k → X k
  nl8 : lv'.ownBlock ≠ some q8
  nv8 : vv.ownBlock ≠ some q8
  nlv : ∀ k, lv'.ownBlock = some k → vv.ownBlock ≠ some k
section
variable {Pm : World → Nat → Ms → (Nat → Prop) → Prop} {lo : Nat} {X : Nat → Prop} {W wr wy : World} {p b q8 i : Nat} {n : Int} {S : Ms} {NL : Nat} {WF : Nat → Nat → Int} {VF : Nat → Nat} {lv vv : Value}
/-- The words' row grows; the pair's box is stored into. -/
theorem Iw.addL (hM : Mach Pm) (h : Iw Pm lo X W wr p b q8 i n S NL WF VF lv vv) {R : Nat → Int} {g cap : Nat} (hrow : Orw wy lo 33 3 (.slice (some ⟨g, 0, none⟩) (NL + 1) cap) (NL + 1) (fun j => (wdV (updW WF NL R j)).toList)) (hg : wr.grownBy wy lv.ownBlock) (hp : lv.ownBlock = some g ∨ g = wr.heap.size) :
    Iv Pm lo (fun k => X k ∨ wr.heap.size ≤ k ∧ k < wy.heap.size) W (wy.setCell ⟨q8, 2, none⟩ (.slice (some ⟨g, 0, none⟩) (NL + 1) cap)) p b q8 i n S NL WF VF (.slice (some ⟨g, 0, none⟩) (NL + 1) cap) vv R (.slice (some ⟨g, 0, none⟩) (NL + 1) cap) := by
  have h8 := h.z.xlt h.x8
  have hgl : g < wy.heap.size := (Orw.lt hrow g rfl).2
  have hg8 : g ≠ q8 := fun e => by
    subst e
    rcases hp with hp | hp
    · exact h.nl8 hp
    · omega
  have hgv : vv.ownBlock ≠ some g := fun hk => by
    rcases hp with hp | hp
    · exact h.nlv g hp hk
    · have := (h.V.lt g hk).2; omega
  have hT : Tch (fun k => lv.ownBlock = some k) wr wy := Tch.of_grown hg (fun k e => e)
  have hT2 : Tch (fun k => k = q8) wy (wy.setCell ⟨q8, 2, none⟩ (.slice (some ⟨g, 0, none⟩) (NL + 1) cap)) := Tch.set wy _ rfl
  have hz1 := h.z.grow (Y := fun k => X k ∨ wr.heap.size ≤ k ∧ k < wy.heap.size) hM hT (fun k hk => ⟨h.xl k hk, (h.L.lt k hk).1⟩) (fun k hk => hk)
  have hsz : (wy.setCell ⟨q8, 2, none⟩ (.slice (some ⟨g, 0, none⟩) (NL + 1) cap)).heap.size = wy.heap.size := by simp [World.setCell]
  have hb8 : wy.heap[q8]? = wr.heap[q8]? := hg.block q8 h8 (fun e => h.nl8 e.symm)
  refine ⟨hz1.apart hM hT2 (fun k hk => ⟨hk ▸ .inl h.x8, hk ▸ h.lo8⟩), ?_, .inl h.x8, h.lo8, hrow.stays (fun k hk => ?_), h.V.stays (fun k hk => ?_), fun k hk => ?_, fun k hk => .inl (h.xv k hk), fun e => hg8 (Option.some.inj e), h.nv8, fun k hk e => ?_⟩
  · rw [heap_setCell_same wy q8 2 _ 28 _ (hb8.trans h.bx)]; rfl
  · have e' : g = k := Option.some.inj hk
    subst e'
    exact heap_setCell_other wy ⟨q8, 2, none⟩ g _ hg8
  · exact (heap_setCell_other wy ⟨q8, 2, none⟩ k _ (fun e => h.nv8 (by have e' : k = q8 := e; rw [← e']; exact hk))).trans (hg.block k (h.V.lt k hk).2 (fun e => h.nlv k e.symm hk))
  · have e' : g = k := Option.some.inj hk
    subst e'
    rcases hp with hp | hp
    · exact .inl (h.xl g hp)
    · exact .inr ⟨by omega, hgl⟩
  · have e' : g = k := Option.some.inj hk
    subst e'
    exact hgv e
theorem Iv.self {R : Nat → Int} {lv' : Value} (hM : Mach Pm) (h : Iv Pm lo X W wr p b q8 i n S NL WF VF lv vv R lv') (hb : Below wr.heap.size wr wy) : Iv Pm lo X W wy p b q8 i n S NL WF VF lv vv R lv' :=
  ⟨h.z.self hM hb, (hb.block q8 (h.z.xlt h.x8)).trans h.bx, h.x8, h.lo8, h.L.stays (fun k hk => hb.block k (h.L.lt k hk).2), h.V.stays (fun k hk => hb.block k (h.V.lt k hk).2), h.xl, h.xv, h.nl8, h.nv8, h.nlv⟩
/-- So does the values' row: the loop goes on. -/
theorem Iv.addV (hM : Mach Pm) {R : Nat → Int} {Z : Nat} {lv' : Value} (h : Iv Pm lo X W wr p b q8 i n S NL WF VF lv' vv R lv') (hd : (∀ j, j < NL → Wb (WF j)) ∧ (∀ j, j < NL → Gw S (WF j)) ∧ (∀ j, j < NL → VF j = vlN S.v S.L (WF j))) (hn : NL + 1 ≤ i ∧ Bq (6 * i) S ∧ S.skip = 0 ∧ S.n = n ∧ S.dry = false)
    (hR : Wb R ∧ Gw S R ∧ Z = vlN S.v S.L R) {g cap : Nat} (hrow : Orw wy lo 34 1 (.slice (some ⟨g, 0, none⟩) (NL + 1) cap) (NL + 1) (fun j => [.int .u64 ((updN VF NL Z j : Nat) : Int)])) (hg : wr.grownBy wy vv.ownBlock) (hp : vv.ownBlock = some g ∨ g = wr.heap.size) :
    Iw Pm lo (fun k => X k ∨ wr.heap.size ≤ k ∧ k < wy.heap.size) W (wy.setCell ⟨q8, 3, none⟩ (.slice (some ⟨g, 0, none⟩) (NL + 1) cap)) p b q8 i n S (NL + 1) (updW WF NL R) (updN VF NL Z) lv' (.slice (some ⟨g, 0, none⟩) (NL + 1) cap) := by
  have h8 := h.z.xlt h.x8
  have hgl : g < wy.heap.size := (Orw.lt hrow g rfl).2
  have hg8 : g ≠ q8 := fun e => by
    subst e
    rcases hp with hp | hp
    · exact h.nv8 hp
    · omega
  have hgv : lv'.ownBlock ≠ some g := fun hk => by
    rcases hp with hp | hp
    · exact h.nlv g hk hp
    · have := (h.L.lt g hk).2; omega
  have hT : Tch (fun k => vv.ownBlock = some k) wr wy := Tch.of_grown hg (fun k e => e)
  have hT2 : Tch (fun k => k = q8) wy (wy.setCell ⟨q8, 3, none⟩ (.slice (some ⟨g, 0, none⟩) (NL + 1) cap)) := Tch.set wy _ rfl
  have hz1 := h.z.grow (Y := fun k => X k ∨ wr.heap.size ≤ k ∧ k < wy.heap.size) hM hT (fun k hk => ⟨h.xv k hk, (h.V.lt k hk).1⟩) (fun k hk => hk)
  have hb8 : wy.heap[q8]? = wr.heap[q8]? := hg.block q8 h8 (fun e => h.nv8 e.symm)
  obtain ⟨d1, d2, d3⟩ := hd
  obtain ⟨n1, n2, n3, n4, n5⟩ := hn
  obtain ⟨r1, r2, r3⟩ := hR
  have key : ∀ (P : Nat → (Nat → Int) → Nat → Prop), (∀ j, j < NL → P j (WF j) (VF j)) → P NL R Z → ∀ j, j < NL + 1 → P j (updW WF NL R j) (updN VF NL Z j) := fun P h1 h2 j hj => by
    by_cases e : j = NL
    · subst e; rw [updW_at, updN_at]; exact h2
    · rw [updW_no _ _ e, updN_no _ _ e]; exact h1 j (by omega)
  refine ⟨hz1.apart hM hT2 (fun k hk => ⟨hk ▸ .inl h.x8, hk ▸ h.lo8⟩), ?_, .inl h.x8, h.lo8, h.L.stays (fun k hk => ?_), hrow.stays (fun k hk => ?_), fun k hk => .inl (h.xl k hk), fun k hk => ?_, h.nl8, fun e => hg8 (Option.some.inj e), fun k hk e => ?_, n1, n2, n3, n4, n5, key (fun _ A _ => Wb A) d1 r1, key (fun _ A _ => Gw S A) d2 r2, key (fun _ A z => z = vlN S.v S.L A) d3 r3⟩
  · rw [heap_setCell_same wy q8 3 _ 28 _ (hb8.trans h.bx)]; rfl
  · exact (heap_setCell_other wy ⟨q8, 3, none⟩ k _ (fun e => h.nl8 (by have e' : k = q8 := e; rw [← e']; exact hk))).trans (hg.block k (h.L.lt k hk).2 (fun e => h.nlv k hk e.symm))
  · have e' : g = k := Option.some.inj hk
    subst e'
    exact heap_setCell_other wy ⟨q8, 3, none⟩ g _ hg8
  · have e' : g = k := Option.some.inj hk
    subst e'
    rcases hp with hp | hp
    · exact .inl (h.xv g hp)
    · exact .inr ⟨by omega, hgl⟩
  · have e' : g = k := Option.some.inj e
    subst e'
    exact hgv hk
end
end Go.Proofs.Ytdgkofnboeepbaa

/- Share: SharePlays over any machine. -/
namespace Go.Proofs.Ytdgkofnboeepbaa
open Go.RowKit
set_option maxRecDepth 100000
theorem sinfoWd : (Try.prog.info? 33).map (fun i => (i.zero, i.size, i.bytes)) = some (some (.agg #[.int .i64 0, .int .i64 0, .int .i64 0]), 3, 24) := by kernel_rfl
theorem sinfoU64 : (Try.prog.info? 34).map (fun i => (i.zero, i.size, i.bytes)) = some (some (.int .u64 0), 1, 8) := by kernel_rfl
/-- Behind an act: the word's box b11. -/
structure Jw (Pm : World → Nat → Ms → (Nat → Prop) → Prop) (lo : Nat) (W wr : World) (p b q8 i : Nat) (n : Int) (S : Ms) (NL : Nat) (WF : Nat → Nat → Int) (VF : Nat → Nat) (lv vv : Value) (R : Nat → Int) (b11 : Nat) : Prop where
  iw : ∃ X, Iw Pm lo X W wr p b q8 i n S NL WF VF lv vv
  bx : wr.heap[b11]? = some (.cells (wdV R) 33 (0, 0))
  n8 : b11 ≠ q8
  nl : lv.ownBlock ≠ some b11
  nv : vv.ownBlock ≠ some b11
theorem Jw.self {Pm : World → Nat → Ms → (Nat → Prop) → Prop} (hM : Mach Pm) {lo : Nat} {W wr wy : World} {p b q8 i : Nat} {n : Int} {S : Ms} {NL : Nat} {WF : Nat → Nat → Int} {VF : Nat → Nat} {lv vv : Value} {R : Nat → Int} {b11 : Nat} (h : Jw Pm lo W wr p b q8 i n S NL WF VF lv vv R b11) (hb : Below wr.heap.size wr wy) : Jw Pm lo W wy p b q8 i n S NL WF VF lv vv R b11 := by
  obtain ⟨X, hi⟩ := h.iw
  exact ⟨⟨X, hi.self hM hb⟩, (hb.block b11 (Array.getElem?_eq_some_iff.1 h.bx).1).trans h.bx, h.n8, h.nl, h.nv⟩
/-- A new box is stored into. -/
theorem Iw.boxed {Pm : World → Nat → Ms → (Nat → Prop) → Prop} (hM : Mach Pm) {lo : Nat} {X : Nat → Prop} {W wr : World} {p b q8 i : Nat} {n : Int} {S : Ms} {NL : Nat} {WF : Nat → Nat → Int} {VF : Nat → Nat} {lv vv : Value} {R : Nat → Int} {b11 : Nat} {cs : Array Value} (h : Iw Pm lo X W wr p b q8 i n S NL WF VF lv vv) (hX : X b11) (hlo : lo ≤ b11) (n8 : b11 ≠ q8) (nl : lv.ownBlock ≠ some b11) (nv : vv.ownBlock ≠ some b11) (hbx : wr.heap[b11]? = some (.cells cs 33 (0, 0))) : Jw Pm lo W (wr.setRow b11 (wdV R)) p b q8 i n S NL WF VF lv vv R b11 := by
  have hT : Tch (fun k => k = b11) wr (wr.setRow b11 (wdV R)) := ⟨rfl, rfl, rfl, by simp [World.setRow], fun k hk hF => setRow_other wr b11 k (wdV R) hF⟩
  have ho : ∀ k, k ≠ b11 → (wr.setRow b11 (wdV R)).heap[k]? = wr.heap[k]? := fun k hk => setRow_other wr b11 k (wdV R) hk
  exact ⟨⟨X, ⟨h.z.apart hM hT (fun k hk => ⟨hk ▸ hX, hk ▸ hlo⟩), (ho q8 (fun e => n8 e.symm)).trans h.bx, h.x8, h.lo8, h.L.stays (fun k hk => ho k (fun e => nl (e ▸ hk))), h.V.stays (fun k hk => ho k (fun e => nv (e ▸ hk))), h.xl, h.xv, h.nl8, h.nv8, h.nlv, h.nl, h.bq, h.sk, h.sn, h.dr, h.wb, h.gw, h.vl⟩⟩, setRow_heap _ _ _ _ _ _ hbx, n8, nl, nv⟩
set_option maxHeartbeats 25600000 in
theorem splays_core {Pm : World → Nat → Ms → (Nat → Prop) → Prop} (hM : Mach Pm) (hN : MachN Pm) (hS : ShI Pm) (t3 : Bool) (mv : Value) (tw : Nat → Nat) (TN : Nat) (lv0 : Value) (LL : Nat) (af : Nat → Ac5) (W : World) (hm : RdS .u64 W (fun g => g < W.heap.size) mv (wdL tw TN)) (htw : ∀ i, i < TN → tw i < 2 ^ 64) (hTN : TN ≤ 17592186043904) (h : RA5 W lv0 LL af) :
    Calls Try.prog 3 #[.bool t3, mv, lv0] W fun e w' => e = .returned (.bool true) ∧ Below W.heap.size W w' := by
  obtain ⟨aa, aC, rfl, _, _, hAc⟩ := id h.at_
  obtain ⟨ma, mc, rfl, hm0⟩ := id hm
  have HMR := hid hm
  rw [wdL_len] at HMR ⊢
  have HWF := hid h.wf
  have HAC := hid hAc
  have HTW := hid htw
  have HTN := hid hTN
  have HAW := hid (fun w => sawake_any hM hN hS w)
  have HBG : Hid (∀ n : Int, (n = 2 ∨ n = 3) → Calls Try.prog 6 #[.int .i64 n, .slice ma TN mc, .int .i64 600] W fun e w' => ∃ p b, e = .returned (.tuple #[.agg (paC p b (.slice none 0 0) (.slice none 0 0)), .bool true]) ∧ Bz Pm W.heap.size (fun _ => False) W w' p b (startD n 600 tw TN 0 TN) (startD n 600 tw TN 0 TN)) :=
    hid (fun n hn => lbegins_any hM hN n 600 hn (by decide) (by decide) tw TN (.slice ma TN mc) W HMR.out)
  clear h hAc hm hm0 htw hTN
  go_enter Try.func3, Try.ntmps3
  go_upto_if 14 with fail
  go_cut [7] from 7 to 7 (fun q wx => ∃ n : Int, q = .int .i64 n ∧ (n = 2 ∨ n = 3) ∧ W = wx)
  case first =>
    cases t3
    · go_wp2
      go_meet
      exact ⟨2, rfl, .inl rfl, rfl⟩
    · go_wp2
      go_meet
      exact ⟨3, rfl, .inr rfl, rfl⟩
  case rest =>
    obtain ⟨n, rfl, hn, rfl⟩ := hcut
    have HN23 := hid hn
    clear hn
    go_upto_region 5 with (go_at_call 6; (with_reducible refine (HBG.out _ HN23.out).mono ?_); rintro e w2 ⟨p, b, rfl, hz⟩; have Z2 := hid hz; clear hz)
    have hb3 := (Below.refl w2.heap.size w2).alloc (Nat.le_refl _) (.cells (paC p b (.slice none 0 0) (.slice none 0 0)) 28)
    have I3 : Hid (Iw Pm W.heap.size (fun k => False ∨ w2.heap.size ≤ k ∧ k < (w2.alloc (.cells (paC p b (.slice none 0 0) (.slice none 0 0)) 28)).heap.size) W (w2.alloc (.cells (paC p b (.slice none 0 0) (.slice none 0 0)) 28)) p b w2.heap.size 0 n (startD n 600 tw TN 0 TN) 0 (fun _ _ => 0) (fun _ => 0) (.slice none 0 0) (.slice none 0 0)) :=
      hid ⟨Z2.out.more hM hb3, heap_alloc_new _ _, .inr ⟨Nat.le_refl _, by rw [sz_al]; omega⟩, Z2.out.los, orw_nil _ _ _ _ _, orw_nil _ _ _ _ _, by simp [Value.ownBlock], by simp [Value.ownBlock], by simp [Value.ownBlock], by simp [Value.ownBlock], by simp [Value.ownBlock], Nat.le_refl _,
        startD_bq n 600 tw TN 0 TN (6 * 0) HN23.out (by decide) (by decide) (by have := HTN.out; omega) HTW.out (by omega) (by omega), rfl, rfl, rfl, fun j hj => absurd hj (Nat.not_lt_zero j), fun j hj => absurd hj (Nat.not_lt_zero j), fun j hj => absurd hj (Nat.not_lt_zero j)⟩
    clear hb3
    generalize w2.alloc (.cells (paC p b (.slice none 0 0) (.slice none 0 0)) 28) = w3 at *
    obtain ⟨q8, hq8⟩ : ∃ q8, w2.heap.size = q8 := ⟨_, rfl⟩
    rw [hq8] at I3 ⊢
    clear hq8 Z2
    go_wp2
    go_loopw [10] (fun iv wr => ∃ (i : Nat) (X : Nat → Prop) (S : Ms) (NL : Nat) (WF : Nat → Nat → Int) (VF : Nat → Nat) (lv vv : Value), i ≤ LL ∧ i ≤ 100 ∧ iv = .int .i64 i ∧ Iw Pm W.heap.size X W wr p b q8 i n S NL WF VF lv vv) (fun iv _ => LL - (intOf iv).toNat)
    case atStart => exact ⟨0, _, _, _, _, _, _, _, by omega, by omega, rfl, I3.out⟩
    case round =>
      clear I3
      obtain ⟨i, X, S, NL, WF, VF, lv, vv, hi1, hi2, rfl, hI⟩ := hrel
      have HI := hid hI
      clear hI
      have HI2 := hid hi2
      by_cases hlt : i < LL ∧ i < 100
      · obtain ⟨hl1, hl2⟩ := hlt
        have j1 : (i : Int) < (LL : Int) := by omega
        have j2 : (i : Int) < 100 := by omega
        have j0 : (0 : Int) ≤ (i : Int) := by omega
        obtain ⟨la, va, lc, vc, rfl, rfl, hlv⟩ := HI.out.lv_
        have HLV := hid hlv
        obtain ⟨bA, oA, rfl, hA1, hA2⟩ := HAC.out (by omega)
        have HAR : Hid (∀ wx, Below W.heap.size W wx → wx.rangeAt bA (oA + i * 5) (ac5 (af i)).toList) := hid (fun wx hb => rng_self (hA2 i hl1) hA1 hb)
        have HNL : Hid (NL ≤ 100) := hid (by have := HI.out.nl; omega)
        have hCi := HWF.out i hl1
        -- the act
        have hdo := fun (X : Nat → Prop) (wx : World) (hx : Iw Pm W.heap.size X W wx p b q8 i n S NL WF VF (.slice la NL lc) (.slice va NL vc)) => ldoe_any hM hS hx.z hx.bq (by have := HI2.out; omega) (by rw [hx.sn]; exact HN23.out) (af i) la va NL lc vc hCi (by have := HNL.out; omega) WF VF (by
          obtain ⟨la', va', lc', vc', e1, e2, e3⟩ := hx.lv_
          injection e1 with e1
          injection e2 with e2
          subst e1 e2
          exact e3)
        have hab : 3 ≤ kd5 (af i).K NL → Wb (WF (pkN (af i).A NL)) ∧ Wb (WF (pkN (af i).B NL)) := fun h3 => ⟨HI.out.wb _ (pkN_lt (af i).A (kd5_pos h3).1), HI.out.wb _ (pkN_lt (af i).B (kd5_pos h3).1)⟩
        have hn3 : S.n = 2 ∨ S.n = 3 := by rw [HI.out.sn]; exact HN23.out
        have hbq := da_bq HI.out.bq (by omega) hn3 (kd5 (af i).K NL) (kd5_bd _ _) (af i) hCi hab
        have hwb := da_wb HI.out.bq (by omega) hn3 (kd5 (af i).K NL) (kd5_bd _ _) (af i) hCi hab
        have hex := da_ext S (kd5 (af i).K NL) (af i) (WF (pkN (af i).A NL)) (WF (pkN (af i).B NL))
        have hdr : (daS S (kd5 (af i).K NL) (af i) (WF (pkN (af i).A NL)) (WF (pkN (af i).B NL))).dry = false := by rw [hex.dry]; exact HI.out.dr
        have hvl : (daS S (kd5 (af i).K NL) (af i) (WF (pkN (af i).A NL)) (WF (pkN (af i).B NL))).e = 0 → vlN (daS S (kd5 (af i).K NL) (af i) (WF (pkN (af i).A NL)) (WF (pkN (af i).B NL))).v (daS S (kd5 (af i).K NL) (af i) (WF (pkN (af i).A NL)) (WF (pkN (af i).B NL))).L (daR S (kd5 (af i).K NL) (af i) (WF (pkN (af i).A NL)) (WF (pkN (af i).B NL))) = daZ (kd5 (af i).K NL) (af i) (VF (pkN (af i).A NL)) (VF (pkN (af i).B NL)) ∧ Gw (daS S (kd5 (af i).K NL) (af i) (WF (pkN (af i).A NL)) (WF (pkN (af i).B NL))) (daR S (kd5 (af i).K NL) (af i) (WF (pkN (af i).A NL)) (WF (pkN (af i).B NL))) := fun he => by
          have := da_vl (S := S) (K := kd5 (af i).K NL) (a := af i) (A := WF (pkN (af i).A NL)) (B := WF (pkN (af i).B NL)) HI.out.sk (by rw [HI.out.sn]; exact HN23.out) HI.out.bq.v (fun h3 => ⟨HI.out.gw _ (pkN_lt _ (kd5_pos h3).1), HI.out.gw _ (pkN_lt _ (kd5_pos h3).1)⟩) (kd5_bd _ _) he
          refine ⟨this.1.trans ?_, this.2⟩
          by_cases h3 : 3 ≤ kd5 (af i).K NL
          · rw [HI.out.vl _ (pkN_lt (af i).A (kd5_pos h3).1), HI.out.vl _ (pkN_lt (af i).B (kd5_pos h3).1)]
          · have hb0 := kd5_bd (af i).K NL
            unfold daZ
            rcases (by omega : kd5 (af i).K NL = 0 ∨ kd5 (af i).K NL = 1 ∨ kd5 (af i).K NL = 2) with e | e | e <;> simp [e]
        generalize (daS S (kd5 (af i).K NL) (af i) (WF (pkN (af i).A NL)) (WF (pkN (af i).B NL))) = S' at *
        generalize (daR S (kd5 (af i).K NL) (af i) (WF (pkN (af i).A NL)) (WF (pkN (af i).B NL))) = R at *
        generalize (daZ (kd5 (af i).K NL) (af i) (VF (pkN (af i).A NL)) (VF (pkN (af i).B NL))) = Z at *
        have HDO := hid hdo
        have HBQ : Hid (Bq (6 * (i + 1)) S') := hid (by rw [Nat.mul_add]; exact hbq)
        have HEX := hid hex
        have HVL := hid hvl
        have HWB := hid hwb
        have HDR := hid hdr
        have HKP : Hid (∀ m, S'.keep m = m) := hid (fun m => by unfold Ms.keep; rw [hdr]; rfl)
        have HK6 : Hid (6 * (i + 1) ≤ 100000) := hid (by omega)
        have HVS : Hid (∀ (X : Nat → Prop) (wx : World), Bz Pm W.heap.size X W wx p b S' S' → Bq (6 * (i + 1)) S' → Calls Try.prog 11 #[.pointer (some ⟨p, 0, none⟩)] wx fun e w' => ∃ v, e = .returned v ∧ Rd .u64 w' v (wdL S'.v S'.L) ∧ Below wx.heap.size wx w') := hid (fun X wx hz hq => by have := zvalues hM hz hq (by have := HK6.out; omega); rw [HKP.out] at this; exact this)
        have HLK : Hid (∀ (X : Nat → Prop) (wx : World), Bz Pm W.heap.size X W wx p b S' S' → Calls Try.prog 8 #[.agg (paC p b (.slice la NL lc) (.slice va NL vc))] wx fun e w' => e = .returned (.bool true) ∧ Bz Pm W.heap.size X W w' p b S' S' ∧ Below wx.heap.size wx w') := hid (fun X wx hz => llike_any hM hz HBQ.out HK6.out HDR.out la va NL NL lc vc)
        clear hdo hab hn3 hbq hwb hex hdr hvl hCi hlv hA1 hA2
        go_upto_region 10 with fail
        go_cut [11, 12, 13] from 33 to 42 (fun q11 q12 q13 wx => ∃ b11, q11 = .pointer (some ⟨b11, 0, none⟩) ∧ q12 = .int .u64 (Z : Int) ∧ q13 = .bool true ∧ Jw Pm W.heap.size W wx p b q8 (i + 1) n S' NL WF VF (.slice la NL lc) (.slice va NL vc) R b11)
        case first =>
          have I0 := hid (HI.out.self hM ((Below.refl _ wr).drew))
          refine wp_region_noPanic ?_
          refine wp_region_held_drew (S := fun w' => w'.heap[q8]? = some (.cells (paC p b (.slice la NL lc) (.slice va NL vc)) 28 (0, 0)) ∧ w'.rangeAt bA (oA + i * 5) (ac5 (af i)).toList) (by kernel_rfl) (⟨I0.out.bx, HAR.out _ I0.out.z.low⟩) (fun h0 => ?_)
          generalize wr.drew = y1 at *
          refine wpAnyH_take (i := 0) (v := .agg (paC p b (.slice la NL lc) (.slice va NL vc))) rfl (by kernel_rfl) (by kernel_rfl) (by kernel_rfl) (fun _ _ _ h => h) (yields_load_row (by rfl) 28 _ rfl q8 28 (paC p b (.slice la NL lc) (.slice va NL vc)) _ rfl (fun w h => h.1) Try.underlying28 rfl (by kernel_rfl)) h0 ?_
          try simp only [Act.put, lay_out]
          refine wpAnyH_take (i := 1) (v := .slice (some ⟨bA, oA, none⟩) LL aC) rfl (by kernel_rfl) (by kernel_rfl) (by kernel_rfl) (fun _ _ _ h => h) (.inl ⟨by rfl, fun w hw => by clear hw; go_simp⟩) h0 ?_
          try simp only [Act.put, lay_out]
          refine wpAnyH_take (i := 2) (v := .int .i64 (i : Int)) rfl (by kernel_rfl) (by kernel_rfl) (by kernel_rfl) (fun _ _ _ h => h) (.inl ⟨by rfl, fun w hw => by clear hw; go_simp⟩) h0 ?_
          try simp only [Act.put, lay_out]
          refine wpAnyH_take (i := 3) (v := .pointer (some ⟨bA, oA + i * 5, none⟩)) rfl (by kernel_rfl) (by kernel_rfl) (by kernel_rfl) (fun _ _ _ h => h) (.inl ⟨by rfl, fun w hw => by clear hw; go_simp⟩) h0 ?_
          try simp only [Act.put, lay_out]
          refine wpAnyH_take (i := 4) (v := .agg (ac5 (af i))) rfl (by kernel_rfl) (by kernel_rfl) (by kernel_rfl) (fun _ _ _ h => h) (yieldsIf_load_mid (by rfl) 38 _ rfl bA (oA + i * 5) rfl (ac5 (af i)).toList _ (fun w h => h.2) Try.underlying38 rfl (by kernel_rfl)) h0 ?_
          try simp only [Act.put, lay_out]
          refine wpAnyH_ready (rs := [5, 10]) (by kernel_rfl) (by simp) (AllReadyH.cons rfl (fun K hK => ?_) (AllReadyH.cons rfl (fun K hK => ?_) AllReadyH.nil))
          · rw [if_pos (by rfl)]
            go_simp
            go_at_call 7
            (with_reducible refine (HDO.out _ _ I0.out).mono ?_); rintro e w5 ⟨rfl, hz, hs⟩
            have I1 := hid (I0.out.on hz hs HBQ.out HEX.out)
            clear hz hs
            refine hK.out _ _ (⟨I1.out.bx, HAR.out _ I1.out.z.low⟩) (fun h1x => ?_)
            clear hK K
            try simp only [Act.put, lay_out]
            refine wpAnyH_take (i := 6) (v := .tuple #[.agg (wdV R), .int .u64 (Z : Int), .bool true]) rfl (by kernel_rfl) (by kernel_rfl) (by kernel_rfl) (fun _ _ _ h => h) (.inl ⟨by rfl, fun w hw => by clear hw; go_simp⟩) h1x ?_
            try simp only [Act.put, lay_out]
            refine wpAnyH_take (i := 7) (v := .agg (wdV R)) rfl (by kernel_rfl) (by kernel_rfl) (by kernel_rfl) (fun _ _ _ h => h) (.inl ⟨by rfl, fun w hw => by clear hw; go_simp⟩) h1x ?_
            try simp only [Act.put, lay_out]
            refine wpAnyH_take (i := 8) (v := .int .u64 (Z : Int)) rfl (by kernel_rfl) (by kernel_rfl) (by kernel_rfl) (fun _ _ _ h => h) (.inl ⟨by rfl, fun w hw => by clear hw; go_simp⟩) h1x ?_
            try simp only [Act.put, lay_out]
            refine wpAnyH_take (i := 9) (v := .bool true) rfl (by kernel_rfl) (by kernel_rfl) (by kernel_rfl) (fun _ _ _ h => h) (.inl ⟨by rfl, fun w hw => by clear hw; go_simp⟩) h1x ?_
            try simp only [Act.put, lay_out]
            refine wpAnyH_ready (rs := [10]) (by kernel_rfl) (by simp) (AllReadyH.cons rfl (fun K hK => ?_) AllReadyH.nil)
            rw [if_pos (by rfl)]
            go_simp
            have hl := (Below.refl w5.heap.size w5).alloc (Nat.le_refl _) (.cells #[.int .i64 0, .int .i64 0, .int .i64 0] 33)
            have I2 := hid (I1.out.more hM hl)
            have SO : Hid ((w5.alloc (.cells #[.int .i64 0, .int .i64 0, .int .i64 0] 33)).heap[w5.heap.size]? = some (.cells #[.int .i64 0, .int .i64 0, .int .i64 0] 33 (0, 0))) := hid (heap_alloc_new _ _)
            clear hl
            refine hK.out _ _ (⟨I2.out.bx, HAR.out _ I2.out.z.low⟩) (fun h2x => ?_)
            clear hK K
            try simp only [Act.put, lay_out]
            refine wpAnyH_ready (rs := [11]) (by kernel_rfl) (by simp) (AllReadyH.cons rfl (fun K hK => ?_) AllReadyH.nil)
            rw [if_pos (by rfl)]
            refine wp_store_row 33 _ _ rfl w5.heap.size (wdV R) rfl rfl 33 _ SO.out (by kernel_rfl) rfl (by kernel_rfl) ?_
            have J := hid (Iw.boxed (R := R) hM I2.out (.inr ⟨Nat.le_refl _, (Array.getElem?_eq_some_iff.1 SO.out).1⟩) I1.out.z.los (fun e => by have := I1.out.z.xlt I1.out.x8; omega) (fun e => by have := (I1.out.L.lt _ e).2; omega) (fun e => by have := (I1.out.V.lt _ e).2; omega) SO.out)
            have JI := J.out.iw
            obtain ⟨XJ, hJ⟩ := JI
            have I9 := hid hJ
            clear hJ
            refine hK.out _ _ (⟨I9.out.bx, HAR.out _ I9.out.z.low⟩) (fun h3x => ?_)
            clear hK K
            try simp only [Act.put, lay_out]
            refine wpAnyH_take (i := 12) (v := .int .u64 (Z : Int)) rfl (by kernel_rfl) (by kernel_rfl) (by kernel_rfl) (fun _ _ _ h => h) (.inl ⟨by rfl, fun w hw => by clear hw; go_simp⟩) h3x ?_
            try simp only [Act.put, lay_out]
            refine wpAnyH_take (i := 13) (v := .bool true) rfl (by kernel_rfl) (by kernel_rfl) (by kernel_rfl) (fun _ _ _ h => h) (.inl ⟨by rfl, fun w hw => by clear hw; go_simp⟩) h3x ?_
            try simp only [Act.put, lay_out]
            refine wpAnyH_done (by kernel_rfl) ?_ _
            refine NoPanic.normal ?_
            clear h0 h1x h2x h3x
            try simp only [Act.put, lay_out]
            go_wp2_with fail
            go_meet
            exact ⟨_, rfl, rfl, rfl, J.out⟩
          · rw [if_pos (by rfl)]
            go_simp
            have hl := (Below.refl y1.heap.size y1).alloc (Nat.le_refl _) (.cells #[.int .i64 0, .int .i64 0, .int .i64 0] 33)
            have I1 := hid (I0.out.more hM hl)
            have SO0 : Hid ((y1.alloc (.cells #[.int .i64 0, .int .i64 0, .int .i64 0] 33)).heap[y1.heap.size]? = some (.cells #[.int .i64 0, .int .i64 0, .int .i64 0] 33 (0, 0))) := hid (heap_alloc_new _ _)
            clear hl
            refine hK.out _ _ (⟨I1.out.bx, HAR.out _ I1.out.z.low⟩) (fun h1x => ?_)
            clear hK K
            try simp only [Act.put, lay_out]
            refine wpAnyH_ready (rs := [5]) (by kernel_rfl) (by simp) (AllReadyH.cons rfl (fun K hK => ?_) AllReadyH.nil)
            rw [if_pos (by rfl)]
            go_simp
            go_at_call 7
            (with_reducible refine (HDO.out _ _ I1.out).mono ?_); rintro e w5 ⟨rfl, hz, hs⟩
            have I2 := hid (I1.out.on hz hs HBQ.out HEX.out)
            have SO := hid ((hs y1.heap.size (.inr ⟨Nat.le_refl _, (Array.getElem?_eq_some_iff.1 SO0.out).1⟩)).trans SO0.out)
            clear hz hs
            refine hK.out _ _ (⟨I2.out.bx, HAR.out _ I2.out.z.low⟩) (fun h2x => ?_)
            clear hK K
            try simp only [Act.put, lay_out]
            refine wpAnyH_take (i := 6) (v := .tuple #[.agg (wdV R), .int .u64 (Z : Int), .bool true]) rfl (by kernel_rfl) (by kernel_rfl) (by kernel_rfl) (fun _ _ _ h => h) (.inl ⟨by rfl, fun w hw => by clear hw; go_simp⟩) h2x ?_
            try simp only [Act.put, lay_out]
            refine wpAnyH_take (i := 7) (v := .agg (wdV R)) rfl (by kernel_rfl) (by kernel_rfl) (by kernel_rfl) (fun _ _ _ h => h) (.inl ⟨by rfl, fun w hw => by clear hw; go_simp⟩) h2x ?_
            try simp only [Act.put, lay_out]
            refine wpAnyH_take (i := 8) (v := .int .u64 (Z : Int)) rfl (by kernel_rfl) (by kernel_rfl) (by kernel_rfl) (fun _ _ _ h => h) (.inl ⟨by rfl, fun w hw => by clear hw; go_simp⟩) h2x ?_
            try simp only [Act.put, lay_out]
            refine wpAnyH_take (i := 9) (v := .bool true) rfl (by kernel_rfl) (by kernel_rfl) (by kernel_rfl) (fun _ _ _ h => h) (.inl ⟨by rfl, fun w hw => by clear hw; go_simp⟩) h2x ?_
            try simp only [Act.put, lay_out]
            refine wpAnyH_ready (rs := [11]) (by kernel_rfl) (by simp) (AllReadyH.cons rfl (fun K hK => ?_) AllReadyH.nil)
            rw [if_pos (by rfl)]
            refine wp_store_row 33 _ _ rfl y1.heap.size (wdV R) rfl rfl 33 _ SO.out (by kernel_rfl) rfl (by kernel_rfl) ?_
            have J := hid (Iw.boxed (R := R) hM I2.out (.inr ⟨Nat.le_refl _, (Array.getElem?_eq_some_iff.1 SO0.out).1⟩) I0.out.z.los (fun e => by have := I0.out.z.xlt I0.out.x8; omega) (fun e => by have := (I0.out.L.lt _ e).2; omega) (fun e => by have := (I0.out.V.lt _ e).2; omega) SO.out)
            have JI := J.out.iw
            obtain ⟨XJ, hJ⟩ := JI
            have I9 := hid hJ
            clear hJ
            refine hK.out _ _ (⟨I9.out.bx, HAR.out _ I9.out.z.low⟩) (fun h3x => ?_)
            clear hK K
            try simp only [Act.put, lay_out]
            refine wpAnyH_take (i := 12) (v := .int .u64 (Z : Int)) rfl (by kernel_rfl) (by kernel_rfl) (by kernel_rfl) (fun _ _ _ h => h) (.inl ⟨by rfl, fun w hw => by clear hw; go_simp⟩) h3x ?_
            try simp only [Act.put, lay_out]
            refine wpAnyH_take (i := 13) (v := .bool true) rfl (by kernel_rfl) (by kernel_rfl) (by kernel_rfl) (fun _ _ _ h => h) (.inl ⟨by rfl, fun w hw => by clear hw; go_simp⟩) h3x ?_
            try simp only [Act.put, lay_out]
            refine wpAnyH_done (by kernel_rfl) ?_ _
            refine NoPanic.normal ?_
            clear h0 h1x h2x h3x
            try simp only [Act.put, lay_out]
            go_wp2_with fail
            go_meet
            exact ⟨_, rfl, rfl, rfl, J.out⟩
        case rest =>
          obtain ⟨b11, rfl, rfl, rfl, hJ⟩ := hcut
          have J0 := hid hJ
          clear hJ
          obtain ⟨X1, hI1⟩ := J0.out.iw
          have I1 := hid hI1
          clear hI1
          have c80 := row_c (i := 0) (u := .pointer (some ⟨p, 0, none⟩)) I1.out.bx rfl; have c81 := row_c (i := 1) (u := .pointer (some ⟨b, 0, none⟩)) I1.out.bx rfl; have c82 := row_c (i := 2) (u := .slice la NL lc) I1.out.bx rfl; have c83 := row_c (i := 3) (u := .slice va NL vc) I1.out.bx rfl
          go_upto_region 13 with (go_at_call 8; (with_reducible refine (HLK.out _ _ I1.out.z).mono ?_); rintro e w6 ⟨rfl, hz, hb⟩; have J1 := hid (J0.out.self hM hb); have I2 := hid (I1.out.self hM hb); clear hz hb c80 c81 c82 c83)
          have c80 := row_c (i := 0) (u := .pointer (some ⟨p, 0, none⟩)) I2.out.bx rfl; have c81 := row_c (i := 1) (u := .pointer (some ⟨b, 0, none⟩)) I2.out.bx rfl; have c82 := row_c (i := 2) (u := .slice la NL lc) I2.out.bx rfl; have c83 := row_c (i := 3) (u := .slice va NL vc) I2.out.bx rfl
          have ce := I2.out.z.c0.2.2.1
          by_cases he : S'.e = 0
          · have q1 : ((S'.e : Int) != 0) = false := by simp [he]
            obtain ⟨hvv, hgw⟩ := HVL.out he
            have HGW := hid hgw
            have HZV := hid hvv
            have HVP : Hid (∀ (v : Value) (wx : World), Rd .u64 wx v (wdL S'.v S'.L) → Calls Try.prog 10 #[v, .agg (wdV R)] wx fun e w' => e = .returned (.int .u64 (Z : Int)) ∧ Below wx.heap.size wx w') := hid (fun v wx hv => by have := hS.value v S'.v S'.L R wx hv HBQ.out.v; rw [hvv] at this; exact this)
            have HVD : Hid (∀ (v : Value) (wx : World), Rd .u64 wx v (wdL S'.v S'.L) → Calls Try.prog 12 #[v, .agg (wdV R)] wx fun e w' => e = .returned (.int .u64 (Z : Int)) ∧ Below wx.heap.size wx w') := hid (fun v wx hv => by have := rvalue_any v S'.v S'.L R wx hv HBQ.out.v; rw [hvv] at this; exact this)
            clear he hvv hgw I1 I2
            go_wp2_with fail
            clear c80 c81 c82 c83 ce q1
            have J2 := hid (J1.out.self hM ((Below.refl _ w6).drew))
            obtain ⟨X2, hI2⟩ := J2.out.iw
            have I2 := hid hI2
            clear hI2
            obtain ⟨xv, xc, hcv, hrv⟩ := I2.out.z.vv I2.out.bq HK6.out
            have CV2 := hid hcv
            have RV2 := hid hrv
            clear hcv hrv
            refine wp_region_noPanic ?_
            refine wp_region_held_drew (S := fun w' => w'.heap[q8]? = some (.cells (paC p b (.slice la NL lc) (.slice va NL vc)) 28 (0, 0)) ∧ w'.heap[b11]? = some (.cells (wdV R) 33 (0, 0)) ∧ w'.cell? ⟨b, 10, none⟩ = some (.slice xv S'.L xc)) (by kernel_rfl) (⟨I2.out.bx, J2.out.bx, CV2.out⟩) (fun h0 => ?_)
            generalize w6.drew = y3 at *
            refine wpAnyH_take (i := 0) (v := .pointer (some ⟨q8, 0, none⟩)) rfl (by kernel_rfl) (by kernel_rfl) (by kernel_rfl) (fun _ _ _ h => h) (.inl ⟨by rfl, fun w hw => by clear hw; go_simp⟩) h0 ?_
            try simp only [Act.put, lay_out]
            refine wpAnyH_take (i := 1) (v := .pointer (some ⟨p, 0, none⟩)) rfl (by kernel_rfl) (by kernel_rfl) (by kernel_rfl) (fun _ _ _ h => h) (.inl ⟨by rfl, fun w' hw => by have hc := row_c (i := 0) (u := .pointer (some ⟨p, 0, none⟩)) hw.1 rfl; clear hw; go_simp⟩) h0 ?_
            try simp only [Act.put, lay_out]
            refine wpAnyH_take (i := 3) (v := .agg (wdV R)) rfl (by kernel_rfl) (by kernel_rfl) (by kernel_rfl) (fun _ _ _ h => h) (yields_load_row (by rfl) 33 _ rfl b11 33 (wdV R) _ rfl (fun w h => h.2.1) Try.underlying33 rfl (by kernel_rfl)) h0 ?_
            try simp only [Act.put, lay_out]
            refine wpAnyH_take (i := 5) (v := .int .u64 (Z : Int)) rfl (by kernel_rfl) (by kernel_rfl) (by kernel_rfl) (fun _ _ _ h => h) (.inl ⟨by rfl, fun w hw => by clear hw; go_simp⟩) h0 ?_
            try simp only [Act.put, lay_out]
            refine wpAnyH_ready (rs := [2]) (by kernel_rfl) (by simp) (AllReadyH.cons rfl (fun K hK => ?_) AllReadyH.nil)
            rw [if_pos (by rfl)]
            go_simp
            go_at_call 11
            (with_reducible refine (HVS.out _ _ I2.out.z I2.out.bq).mono ?_); rintro e w7 ⟨vs, rfl, hv, hb⟩
            have VS3 := hid hv
            clear hv
            have I3 := hid (I2.out.self hM hb)
            have J3 := hid (J2.out.self hM hb)
            have CV3 := hid (tcell_self CV2.out hb)
            have RV3 := hid (RV2.out.self hb)
            clear hb
            refine hK.out _ _ (⟨I3.out.bx, J3.out.bx, CV3.out⟩) (fun h1x => ?_)
            clear hK K
            try simp only [Act.put, lay_out]
            refine wpAnyH_ready (rs := [4]) (by kernel_rfl) (by simp) (AllReadyH.cons rfl (fun K hK => ?_) AllReadyH.nil)
            rw [if_pos (by rfl)]
            go_simp
            go_at_call 10
            (with_reducible refine (HVP.out _ _ VS3.out).mono ?_); rintro e w8 ⟨rfl, hb⟩
            have I4 := hid (I3.out.self hM hb)
            have J4 := hid (J3.out.self hM hb)
            have CV4 := hid (tcell_self CV3.out hb)
            have RV4 := hid (RV3.out.self hb)
            clear hb
            refine hK.out _ _ (⟨I4.out.bx, J4.out.bx, CV4.out⟩) (fun h2x => ?_)
            clear hK K
            try simp only [Act.put, lay_out]
            refine wpAnyH_take (i := 6) (v := .bool false) rfl (by kernel_rfl) (by kernel_rfl) (by kernel_rfl) (fun _ _ _ h => h) (.inl ⟨by rfl, fun w hw => by clear hw; go_simp⟩) h2x ?_
            try simp only [Act.put, lay_out]
            refine wpAnyH_take (i := 7) (v := .bool false) rfl (by kernel_rfl) (by kernel_rfl) (by kernel_rfl) (fun _ _ _ h => h) (.inl ⟨by rfl, fun w hw => by clear hw; go_simp⟩) h2x ?_
            try simp only [Act.put, lay_out]
            refine wpAnyH_take (i := 8) (v := .pointer (some ⟨q8, 1, none⟩)) rfl (by kernel_rfl) (by kernel_rfl) (by kernel_rfl) (fun _ _ _ h => h) (.inl ⟨by rfl, fun w hw => by clear hw; go_simp⟩) h2x ?_
            try simp only [Act.put, lay_out]
            refine wpAnyH_take (i := 9) (v := .pointer (some ⟨b, 0, none⟩)) rfl (by kernel_rfl) (by kernel_rfl) (by kernel_rfl) (fun _ _ _ h => h) (.inl ⟨by rfl, fun w' hw => by have hc := row_c (i := 1) (u := .pointer (some ⟨b, 0, none⟩)) hw.1 rfl; clear hw; go_simp⟩) h2x ?_
            try simp only [Act.put, lay_out]
            refine wpAnyH_take (i := 10) (v := .pointer (some ⟨b, 0, none⟩)) rfl (by kernel_rfl) (by kernel_rfl) (by kernel_rfl) (fun _ _ _ h => h) (.inl ⟨by rfl, fun w hw => by clear hw; go_simp⟩) h2x ?_
            try simp only [Act.put, lay_out]
            refine wpAnyH_take (i := 11) (v := .pointer (some ⟨b, 10, none⟩)) rfl (by kernel_rfl) (by kernel_rfl) (by kernel_rfl) (fun _ _ _ h => h) (.inl ⟨by rfl, fun w hw => by clear hw; go_simp⟩) h2x ?_
            try simp only [Act.put, lay_out]
            refine wpAnyH_take (i := 12) (v := .slice xv S'.L xc) rfl (by kernel_rfl) (by kernel_rfl) (by kernel_rfl) (fun _ _ _ h => h) (.inl ⟨by rfl, fun w' hw => by have hc := hw.2.2; clear hw; go_simp⟩) h2x ?_
            try simp only [Act.put, lay_out]
            refine wpAnyH_take (i := 13) (v := .agg (wdV R)) rfl (by kernel_rfl) (by kernel_rfl) (by kernel_rfl) (fun _ _ _ h => h) (yields_load_row (by rfl) 33 _ rfl b11 33 (wdV R) _ rfl (fun w h => h.2.1) Try.underlying33 rfl (by kernel_rfl)) h2x ?_
            try simp only [Act.put, lay_out]
            refine wpAnyH_take (i := 15) (v := .int .u64 (Z : Int)) rfl (by kernel_rfl) (by kernel_rfl) (by kernel_rfl) (fun _ _ _ h => h) (.inl ⟨by rfl, fun w hw => by clear hw; go_simp⟩) h2x ?_
            try simp only [Act.put, lay_out]
            refine wpAnyH_ready (rs := [14]) (by kernel_rfl) (by simp) (AllReadyH.cons rfl (fun K hK => ?_) AllReadyH.nil)
            rw [if_pos (by rfl)]
            go_simp
            go_at_call 12
            (with_reducible refine (HVD.out _ _ RV4.out).mono ?_); rintro e w9 ⟨rfl, hb⟩
            have I5 := hid (I4.out.self hM hb)
            have J5 := hid (J4.out.self hM hb)
            have CV5 := hid (tcell_self CV4.out hb)
            have RV5 := hid (RV4.out.self hb)
            clear hb
            refine hK.out _ _ (⟨I5.out.bx, J5.out.bx, CV5.out⟩) (fun h3x => ?_)
            clear hK K
            try simp only [Act.put, lay_out]
            refine wpAnyH_take (i := 16) (v := .bool false) rfl (by kernel_rfl) (by kernel_rfl) (by kernel_rfl) (fun _ _ _ h => h) (.inl ⟨by rfl, fun w hw => by clear hw; go_simp⟩) h3x ?_
            try simp only [Act.put, lay_out]
            refine wpAnyH_take (i := 17) (v := .bool false) rfl (by kernel_rfl) (by kernel_rfl) (by kernel_rfl) (fun _ _ _ h => h) (.inl ⟨by rfl, fun w hw => by clear hw; go_simp⟩) h3x ?_
            try simp only [Act.put, lay_out]
            refine wpAnyH_done (by kernel_rfl) ?_ _
            refine NoPanic.normal ?_
            clear h0 h1x h2x h3x
            try simp only [Act.put, lay_out]
            -- the word is kept
            have c82 := row_c (i := 2) (u := .slice la NL lc) I5.out.bx rfl
            have r0 := row_c (i := 0) (u := .int .i64 (R 0)) J5.out.bx rfl
            have r1 := row_c (i := 1) (u := .int .i64 (R 1)) J5.out.bx rfl
            have r2 := row_c (i := 2) (u := .int .i64 (R 2)) J5.out.bx rfl
            have hl := (Below.refl w9.heap.size w9).alloc (Nat.le_refl _) (.cells (wdV R) 33)
            have I6 := hid (I5.out.self hM hl)
            have HOW := hid (I6.out.L.ext (d := fun j => (wdV (updW WF NL R j)).toList) (fun j hj => by rw [updW_no _ _ (by omega)]))
            have HNS : Hid (∀ j u, (wdV (updW WF NL R NL)).toList[j]? = some u → (w9.alloc (.cells (wdV R) 33)).cell? ((⟨w9.heap.size, 0, none⟩ : Addr).add j) = some u) := hid (by rw [updW_at]; exact World.news_of_block (heap_alloc_new _ _))
            have HNLi := hid HI.out.nl
            have HCF : Hid (∀ u1, (w9.alloc (.cells (wdV R) 33)).grownBy u1 (Value.slice la NL lc).ownBlock → u1.cell? ⟨q8, 2, none⟩ = some (.slice la NL lc) ∧ u1.frozen? ⟨q8, 2, none⟩ = false) := hid (fun u1 hg => by
              have hbl := hg.block q8 (I6.out.z.xlt I6.out.x8) (fun e => I6.out.nl8 e.symm)
              exact ⟨row_c (hbl.trans I6.out.bx) rfl, frozen_of_row u1 q8 2 _ _ (hbl.trans I6.out.bx)⟩)
            have HLM : Hid (NL + 1 ≤ maxLen) := hid (by have := HNL.out; unfold maxLen; omega)
            have HLI : Hid ((NL + 1) * 24 ≤ 140737488355328) := hid (by have := HNL.out; omega)
            have HLI8 : Hid ((NL + 1) * 8 ≤ 140737488355328) := hid (by have := HNL.out; omega)
            have HONE : Hid (∀ u ∈ (wdV (updW WF NL R NL)).toList, u.oneCell' = true) := hid (by intro u hu; simp at hu; rcases hu with rfl | rfl | rfl <;> rfl)
            have HON2 : Hid (∀ u ∈ ([.int .u64 ((updN VF NL Z NL : Nat) : Int)] : List Value), u.oneCell' = true) := hid (by intro u hu; simp at hu; subst hu; rfl)
            clear hl
            go_upto_region 18 with (refine wpList_append_rec rfl (.tmp 76) (.tmp 78) 26 rfl W.heap.size 33 3 24 (.agg #[.int .i64 0, .int .i64 0, .int .i64 0]) Try.underlying26 sinfoWd (by rfl) (by decide) (.slice la NL lc) NL (fun j => (wdV (updW WF NL R j)).toList) rfl HOW.out ⟨w9.heap.size, 0, none⟩ 1 rfl rfl HONE.out HNS.out HLM.out HLI.out I6.out.z.los ?_; intro g cap u1 g1 g2 g3; obtain ⟨d82, f82⟩ := HCF.out _ g2; have GG := hid (And.intro g1 (And.intro g2 g3)); clear g1 g2 g3 c82 r0 r1 r2)
            have V1 := hid (Iw.addL hM I6.out GG.out.1 GG.out.2.1 GG.out.2.2)
            try clear d82 f82
            generalize u1.setCell ⟨q8, 2, none⟩ (.slice (some ⟨g, 0, none⟩) (NL + 1) cap) = w10 at *
            have c83 := row_c (i := 3) (u := .slice va NL vc) V1.out.bx rfl
            have hl := (Below.refl w10.heap.size w10).alloc (Nat.le_refl _) (.cells #[.int .u64 (Z : Int)] 34)
            have V2 := hid (V1.out.self hM hl)
            have HOV := hid (V2.out.V.ext (d := fun j => [.int .u64 ((updN VF NL Z j : Nat) : Int)]) (fun j hj => by rw [updN_no _ _ (by omega)]))
            have HCG : Hid (∀ u2, (w10.alloc (.cells #[.int .u64 (Z : Int)] 34)).grownBy u2 (Value.slice va NL vc).ownBlock → u2.cell? ⟨q8, 3, none⟩ = some (.slice va NL vc) ∧ u2.frozen? ⟨q8, 3, none⟩ = false) := hid (fun u2 hg => by
              have hbl := hg.block q8 (V2.out.z.xlt V2.out.x8) (fun e => V2.out.nv8 e.symm)
              exact ⟨row_c (hbl.trans V2.out.bx) rfl, frozen_of_row u2 q8 3 _ _ (hbl.trans V2.out.bx)⟩)
            have HNV : Hid (∀ j u, ([.int .u64 ((updN VF NL Z NL : Nat) : Int)] : List Value)[j]? = some u → (w10.alloc (.cells #[.int .u64 (Z : Int)] 34)).cell? ((⟨w10.heap.size, 0, none⟩ : Addr).add j) = some u) := hid (by rw [updN_at]; exact World.news_of_block (heap_alloc_new _ _))
            clear hl
            go_wp2_with (refine wpList_append_rec rfl (.tmp 82) (.tmp 84) 22 rfl W.heap.size 34 1 8 (.int .u64 0) Try.underlying22 sinfoU64 (by rfl) (by decide) (.slice va NL vc) NL (fun j => [.int .u64 ((updN VF NL Z j : Nat) : Int)]) rfl HOV.out ⟨w10.heap.size, 0, none⟩ 1 rfl rfl HON2.out HNV.out HLM.out HLI8.out V2.out.z.los ?_; intro g' cap' u2 g1 g2 g3; obtain ⟨d83, f83⟩ := HCG.out _ g2; have GH := hid (And.intro g1 (And.intro g2 g3)); clear g1 g2 g3 c83)
            have I8 := hid (Iv.addV (Z := Z) (i := i + 1) (n := n) hM V2.out ⟨I5.out.wb, I5.out.gw, I5.out.vl⟩ ⟨Nat.succ_le_succ HNLi.out, HBQ.out, I5.out.sk, I5.out.sn, I5.out.dr⟩ ⟨HWB.out, HGW.out, HZV.out.symm⟩ GH.out.1 GH.out.2.1 GH.out.2.2)
            go_roundw
            case rel => exact ⟨i + 1, _, _, _, _, _, _, _, by omega, by omega, by go_num, I8.out⟩
            case measure => simp [intOf]; omega
          · have q1 : ((S'.e : Int) != 0) = true := by simp [he]
            clear he
            go_wp2_with (go_at_call 9; (with_reducible refine (HAW.out _).mono ?_); rintro e w7 ⟨rfl, hb⟩; have I3 := hid (I2.out.self hM hb); clear hb c80 c81 c82 c83 ce)
            go_ret
            exact ⟨rfl, I3.out.z.low⟩
      · by_cases h1 : i < LL
        · have j3 : decide ((i : Int) < 100) = false := decide_eq_false (by omega)
          have j2 : (i : Int) < (LL : Int) := by omega
          clear hlt h1
          go_wp2_with (go_at_call 9; (with_reducible refine (HAW.out _).mono ?_); rintro e w5 ⟨rfl, hb⟩; have I5 := hid (HI.out.self hM hb); clear hb)
          go_ret
          exact ⟨rfl, I5.out.z.low⟩
        · obtain rfl : i = LL := by omega
          clear hlt h1
          go_wp2_with (go_at_call 9; (with_reducible refine (HAW.out _).mono ?_); rintro e w5 ⟨rfl, hb⟩; have I5 := hid (HI.out.self hM hb); clear hb)
          go_ret
          exact ⟨rfl, I5.out.z.low⟩
end Go.Proofs.Ytdgkofnboeepbaa
