import Derived.Test.YtffoinnllihdeaaProg
import Derived.Test.YtffoinnllihdeaaWdb
/- Wire: the document's machine: a row grows; blocks that end. -/
namespace Go.Proofs.Ytffoinnllihdeaa
open Go.RowKit
set_option maxRecDepth 100000
section
variable {lo : LoG} {b : Nat} {w w' : World} {S : Ms} {ov bv vv tv : Value}
theorem grown_at {r : Option Nat} (h : w.grownBy w' r) (b i : Nat) (u : Value) {k : Nat} (hk : k < w.heap.size) (hr : some k ≠ r) (hb : k ≠ b) : (w'.setCell ⟨b, i, none⟩ u).heap[k]? = w.heap[k]? := by
  rw [heap_setCell_other w' ⟨b, i, none⟩ k u hb]; exact h.block k hk hr
theorem row_in {B k n b : Nat} {E : TypeId} {v : Value} {c : Nat → List Value} (h : Orw w B E k v n c) (hb : v.ownBlock ≠ some b) (i : Nat) (u : Value) : Orw (w.setCell ⟨b, i, none⟩ u) B E k v n c :=
  h.stays fun j hj => heap_setCell_other w ⟨b, i, none⟩ j u (fun e => hb (by subst e; exact hj))
theorem Dm2.addBl (h : Dm2 lo w b S S.L ov bv vv tv) {g cap : Nat} {sp : Sp3} (hrow : Orw w' lo.lo 70 3 (.slice (some ⟨g, 0, none⟩) (S.M + 1) cap) (S.M + 1) (fun i => (spCs (updS S.g S.M sp i)).toList)) (hg : w.grownBy w' bv.ownBlock) (hp : bv.ownBlock = some g ∨ g = w.heap.size) :
    Dm2 lo (w'.setCell ⟨b, 9, none⟩ (.slice (some ⟨g, 0, none⟩) (S.M + 1) cap)) b { S with M := S.M + 1, g := updS S.g S.M sp } S.L ov (.slice (some ⟨g, 0, none⟩) (S.M + 1) cap) vv tv ∧ Tch (Ft b ov bv vv) w (w'.setCell ⟨b, 9, none⟩ (.slice (some ⟨g, 0, none⟩) (S.M + 1) cap)) ∧ (∀ k, Ft b ov (.slice (some ⟨g, 0, none⟩) (S.M + 1) cap) vv k → Ft b ov bv vv k ∨ w.heap.size ≤ k) := by
  have hgb : ((.slice (some ⟨g, 0, none⟩) (S.M + 1) cap) : Value).ownBlock ≠ some b := by
    intro e
    have e' : g = b := Option.some.inj e
    subst e'
    rcases hp with hp | hp
    · exact h.hbb hp
    · have := (Array.getElem?_eq_some_iff.1 h.blk).1; omega
  have hga_ov : ∀ k, g = k → ov.ownBlock ≠ some k := fun k e hk => by
    subst e
    rcases hp with hp | hp
    · exact (h.hobv g hk) hp
    · have := (h.ops.lt g hk).2; omega
  have hga_vv : ∀ k, g = k → vv.ownBlock ≠ some k := fun k e hk => by
    subst e
    rcases hp with hp | hp
    · exact (fun e => h.hbv g e hk) hp
    · have := (h.val.lt g hk).2; omega
  have hbl : w'.heap[b]? = w.heap[b]? := hg.block b (Array.getElem?_eq_some_iff.1 h.blk).1 (fun e => h.hbb e.symm)
  refine ⟨⟨?_, h.lob, ?_, ?_, ?_, h.hob, hgb, h.hvb, fun k hk e => hga_ov k (Option.some.inj e) hk, h.hov, fun k hk e => hga_vv k (Option.some.inj hk) e, ?_⟩, ?_, ?_⟩
  · rw [heap_setCell_same w' b 9 _ 40 _ (hbl.trans h.blk)]; rfl
  · exact h.ops.stays fun k hk => grown_at hg b 9 _ (h.ops.lt k hk).2 (fun e => (h.hobv k hk) e.symm) (fun e => h.hob (e ▸ hk))
  · exact row_in hrow hgb 9 _
  · exact h.val.stays fun k hk => grown_at hg b 9 _ (h.val.lt k hk).2 (fun e => (fun e => h.hbv k e hk) e.symm) (fun e => h.hvb (e ▸ hk))
  · obtain ⟨a, cp, e, h1, h2, h3, h4, h5⟩ := h.tap
    refine ⟨a, cp, e, h1, h2, h3, h4, fun h0 => ?_⟩
    obtain ⟨q, off, ea, ⟨f1, f2, f3, f4, f5⟩, hq, hc⟩ := h5 h0
    have hgq : g ≠ q := fun e => by
      subst e
      rcases hp with hp | hp
      · exact f3 hp
      · omega
    refine ⟨q, off, ea, ⟨f1, f2, fun e => hgq (Option.some.inj e), f4, f5⟩, by have := hg.size; simp [World.setCell]; omega, fun j hj => ?_⟩
    rw [World.cell?_of_block (grown_at hg b 9 _ hq (fun e => f3 e.symm) f1)]
    exact hc j hj
  · exact (Tch.of_grown hg (fun k e => .inr (.inr (.inl e)))).trans (tch_set b 9 _ w') (fun _ _ f => f)
  · rintro k (rfl | e | e | e)
    · exact .inl (.inl rfl)
    · exact .inl (.inr (.inl e))
    · have e' : g = k := Option.some.inj e
      subst e'
      rcases hp with hp | hp
      · exact .inl (.inr (.inr (.inl hp)))
      · exact .inr (by omega)
    · exact .inl (.inr (.inr (.inr e)))
theorem Dm2.addVal (h : Dm2 lo w b S S.L ov bv vv tv) {g cap : Nat} {x : Nat} (hrow : Orw w' lo.lo 41 1 (.slice (some ⟨g, 0, none⟩) (S.L + 1) cap) (S.L + 1) (fun i => [.int .u64 ((updN S.v S.L x i : Nat) : Int)])) (hg : w.grownBy w' vv.ownBlock) (hp : vv.ownBlock = some g ∨ g = w.heap.size) :
    Dm2 lo (w'.setCell ⟨b, 10, none⟩ (.slice (some ⟨g, 0, none⟩) (S.L + 1) cap)) b { S with v := updN S.v S.L x } (S.L + 1) ov bv (.slice (some ⟨g, 0, none⟩) (S.L + 1) cap) tv ∧ Tch (Ft b ov bv vv) w (w'.setCell ⟨b, 10, none⟩ (.slice (some ⟨g, 0, none⟩) (S.L + 1) cap)) ∧ (∀ k, Ft b ov bv (.slice (some ⟨g, 0, none⟩) (S.L + 1) cap) k → Ft b ov bv vv k ∨ w.heap.size ≤ k) := by
  have hgb : ((.slice (some ⟨g, 0, none⟩) (S.L + 1) cap) : Value).ownBlock ≠ some b := by
    intro e
    have e' : g = b := Option.some.inj e
    subst e'
    rcases hp with hp | hp
    · exact h.hvb hp
    · have := (Array.getElem?_eq_some_iff.1 h.blk).1; omega
  have hga_ov : ∀ k, g = k → ov.ownBlock ≠ some k := fun k e hk => by
    subst e
    rcases hp with hp | hp
    · exact (h.hov g hk) hp
    · have := (h.ops.lt g hk).2; omega
  have hga_bv : ∀ k, g = k → bv.ownBlock ≠ some k := fun k e hk => by
    subst e
    rcases hp with hp | hp
    · exact (h.hbv g hk) hp
    · have := (h.bls.lt g hk).2; omega
  have hbl : w'.heap[b]? = w.heap[b]? := hg.block b (Array.getElem?_eq_some_iff.1 h.blk).1 (fun e => h.hvb e.symm)
  refine ⟨⟨?_, h.lob, ?_, ?_, ?_, h.hob, h.hbb, hgb, h.hobv, fun k hk e => hga_ov k (Option.some.inj e) hk, fun k hk e => hga_bv k (Option.some.inj e) hk, ?_⟩, ?_, ?_⟩
  · rw [heap_setCell_same w' b 10 _ 40 _ (hbl.trans h.blk)]; rfl
  · exact h.ops.stays fun k hk => grown_at hg b 10 _ (h.ops.lt k hk).2 (fun e => (h.hov k hk) e.symm) (fun e => h.hob (e ▸ hk))
  · exact h.bls.stays fun k hk => grown_at hg b 10 _ (h.bls.lt k hk).2 (fun e => (h.hbv k hk) e.symm) (fun e => h.hbb (e ▸ hk))
  · exact row_in hrow hgb 10 _
  · obtain ⟨a, cp, e, h1, h2, h3, h4, h5⟩ := h.tap
    refine ⟨a, cp, e, h1, h2, h3, h4, fun h0 => ?_⟩
    obtain ⟨q, off, ea, ⟨f1, f2, f3, f4, f5⟩, hq, hc⟩ := h5 h0
    have hgq : g ≠ q := fun e => by
      subst e
      rcases hp with hp | hp
      · exact f4 hp
      · omega
    refine ⟨q, off, ea, ⟨f1, f2, f3, fun e => hgq (Option.some.inj e), f5⟩, by have := hg.size; simp [World.setCell]; omega, fun j hj => ?_⟩
    rw [World.cell?_of_block (grown_at hg b 10 _ hq (fun e => f4 e.symm) f1)]
    exact hc j hj
  · exact (Tch.of_grown hg (fun k e => .inr (.inr (.inr e)))).trans (tch_set b 10 _ w') (fun _ _ f => f)
  · rintro k (rfl | e | e | e)
    · exact .inl (.inl rfl)
    · exact .inl (.inr (.inl e))
    · exact .inl (.inr (.inr (.inl e)))
    · have e' : g = k := Option.some.inj e
      subst e'
      rcases hp with hp | hp
      · exact .inl (.inr (.inr (.inr hp)))
      · exact .inr (by omega)
theorem Dm2.addOps (h : Dm2 lo w b S (S.L + 1) ov bv vv tv) {g cap : Nat} {o : Op6} (hrow : Orw w' lo.lo 43 6 (.slice (some ⟨g, 0, none⟩) (S.L + 1) cap) (S.L + 1) (fun i => (opCs (updO S.f S.L o i)).toList)) (hg : w.grownBy w' ov.ownBlock) (hp : ov.ownBlock = some g ∨ g = w.heap.size) :
    Dm2 lo (w'.setCell ⟨b, 8, none⟩ (.slice (some ⟨g, 0, none⟩) (S.L + 1) cap)) b { S with L := S.L + 1, f := updO S.f S.L o } (S.L + 1) (.slice (some ⟨g, 0, none⟩) (S.L + 1) cap) bv vv tv ∧ Tch (Ft b ov bv vv) w (w'.setCell ⟨b, 8, none⟩ (.slice (some ⟨g, 0, none⟩) (S.L + 1) cap)) ∧ (∀ k, Ft b (.slice (some ⟨g, 0, none⟩) (S.L + 1) cap) bv vv k → Ft b ov bv vv k ∨ w.heap.size ≤ k) := by
  have hgb : ((.slice (some ⟨g, 0, none⟩) (S.L + 1) cap) : Value).ownBlock ≠ some b := by
    intro e
    have e' : g = b := Option.some.inj e
    subst e'
    rcases hp with hp | hp
    · exact h.hob hp
    · have := (Array.getElem?_eq_some_iff.1 h.blk).1; omega
  have hga_bv : ∀ k, g = k → bv.ownBlock ≠ some k := fun k e hk => by
    subst e
    rcases hp with hp | hp
    · exact (fun e => h.hobv g e hk) hp
    · have := (h.bls.lt g hk).2; omega
  have hga_vv : ∀ k, g = k → vv.ownBlock ≠ some k := fun k e hk => by
    subst e
    rcases hp with hp | hp
    · exact (fun e => h.hov g e hk) hp
    · have := (h.val.lt g hk).2; omega
  have hbl : w'.heap[b]? = w.heap[b]? := hg.block b (Array.getElem?_eq_some_iff.1 h.blk).1 (fun e => h.hob e.symm)
  refine ⟨⟨?_, h.lob, ?_, ?_, ?_, hgb, h.hbb, h.hvb, fun k hk e => hga_bv k (Option.some.inj hk) e, fun k hk e => hga_vv k (Option.some.inj hk) e, h.hbv, ?_⟩, ?_, ?_⟩
  · rw [heap_setCell_same w' b 8 _ 40 _ (hbl.trans h.blk)]; rfl
  · exact row_in hrow hgb 8 _
  · exact h.bls.stays fun k hk => grown_at hg b 8 _ (h.bls.lt k hk).2 (fun e => (fun e => h.hobv k e hk) e.symm) (fun e => h.hbb (e ▸ hk))
  · exact h.val.stays fun k hk => grown_at hg b 8 _ (h.val.lt k hk).2 (fun e => (fun e => h.hov k e hk) e.symm) (fun e => h.hvb (e ▸ hk))
  · obtain ⟨a, cp, e, h1, h2, h3, h4, h5⟩ := h.tap
    refine ⟨a, cp, e, h1, h2, h3, h4, fun h0 => ?_⟩
    obtain ⟨q, off, ea, ⟨f1, f2, f3, f4, f5⟩, hq, hc⟩ := h5 h0
    have hgq : g ≠ q := fun e => by
      subst e
      rcases hp with hp | hp
      · exact f2 hp
      · omega
    refine ⟨q, off, ea, ⟨f1, fun e => hgq (Option.some.inj e), f3, f4, f5⟩, by have := hg.size; simp [World.setCell]; omega, fun j hj => ?_⟩
    rw [World.cell?_of_block (grown_at hg b 8 _ hq (fun e => f2 e.symm) f1)]
    exact hc j hj
  · exact (Tch.of_grown hg (fun k e => .inr (.inl e))).trans (tch_set b 8 _ w') (fun _ _ f => f)
  · rintro k (rfl | e | e | e)
    · exact .inl (.inl rfl)
    · have e' : g = k := Option.some.inj e
      subst e'
      rcases hp with hp | hp
      · exact .inl (.inr (.inl hp))
      · exact .inr (by omega)
    · exact .inl (.inr (.inr (.inl e)))
    · exact .inl (.inr (.inr (.inr e)))
end
end Go.Proofs.Ytffoinnllihdeaa
