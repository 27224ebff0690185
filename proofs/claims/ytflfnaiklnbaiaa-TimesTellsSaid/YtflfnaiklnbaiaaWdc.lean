import Derived.Test.YtflfnaiklnbaiaaProg
import Derived.Test.YtflfnaiklnbaiaaTrm
import Derived.Test.YtflfnaiklnbaiaaGen
import Derived.Laws.LoneSync
import Derived.WalkSpells
import Derived.Outline
import Derived.Deep.RegionHeld3
import Derived.Deep.DrawnRows
import Derived.Lib.SliceRun
import Derived.Deep.DeepMust
/- Wire: the document's machine: a row grows; blocks that end. -/
namespace Go.Proofs.Ytflfnaiklnbaiaa
open Go.RowKit
set_option maxRecDepth 100000
section
variable {lo : LoG} {b : Nat} {w w' : World} {S : Ms} {ov bv vv tv : Value}
theorem grown_at {r : Option Nat} (h : w.grownBy w' r) (b i : Nat) (u : Value) {k : Nat} (hk : k < w.heap.size) (hr : some k ≠ r) (hb : k ≠ b) : (w'.setCell ⟨b, i, none⟩ u).heap[k]? = w.heap[k]? := by
  rw [heap_setCell_other w' ⟨b, i, none⟩ k u hb]; exact h.block k hk hr
theorem row_in {B k n b : Nat} {E : TypeId} {v : Value} {c : Nat → List Value} (h : Orw w B E k v n c) (hb : v.ownBlock ≠ some b) (i : Nat) (u : Value) : Orw (w.setCell ⟨b, i, none⟩ u) B E k v n c :=
  h.stays fun j hj => heap_setCell_other w ⟨b, i, none⟩ j u (fun e => hb (by subst e; exact hj))
theorem Dm2.addBl (h : Dm2 lo w b S S.L ov bv vv tv) {g cap : Nat} {sp : Sp3} (hrow : Orw w' lo.lo 78 3 (.slice (some ⟨g, 0, none⟩) (S.M + 1) cap) (S.M + 1) (fun i => (spCs (updS S.g S.M sp i)).toList)) (hg : w.grownBy w' bv.ownBlock) (hp : bv.ownBlock = some g ∨ g = w.heap.size) :
    Dm2 lo (w'.setCell ⟨b, 9, none⟩ (.slice (some ⟨g, 0, none⟩) (S.M + 1) cap)) b { S with M := S.M + 1, g := updS S.g S.M sp } S.L ov (.slice (some ⟨g, 0, none⟩) (S.M + 1) cap) vv tv ∧ Tch (Ft b ov bv vv) w (w'.setCell ⟨b, 9, none⟩ (.slice (some ⟨g, 0, none⟩) (S.M + 1) cap)) ∧ (∀ k, Ft b ov (.slice (some ⟨g, 0, none⟩) (S.M + 1) cap) vv k → Ft b ov bv vv k ∨ w.heap.size ≤ k) := by
  have hgb : ((.slice (some ⟨g, 0, none⟩) (S.M + 1) cap) : Value).ownBlock ≠ some b := by
    intro e
    have e' : g = b := Option.some.inj e
    subst e'
    rcases hp with hp | hp
    · exact h.hbb hp
    · have := (Array.getElem?_eq_some_iff.1 h.blk).1; omega
  have hga_ov : ∀ k, g = k → ov.ownBlock ≠ some k := fun k e hk => by
    subst e
    rcases hp with hp | hp
    · exact (h.hobv g hk) hp
    · have := (h.ops.lt g hk).2; omega
  have hga_vv : ∀ k, g = k → vv.ownBlock ≠ some k := fun k e hk => by
    subst e
    rcases hp with hp | hp
    · exact (fun e => h.hbv g e hk) hp
    · have := (h.val.lt g hk).2; omega
  have hbl : w'.heap[b]? = w.heap[b]? := hg.block b (Array.getElem?_eq_some_iff.1 h.blk).1 (fun e => h.hbb e.symm)
  refine ⟨⟨?_, h.lob, ?_, ?_, ?_, h.hob, hgb, h.hvb, fun k hk e => hga_ov k (Option.some.inj e) hk, h.hov, fun k hk e => hga_vv k (Option.some.inj hk) e, ?_⟩, ?_, ?_⟩
  · rw [heap_setCell_same w' b 9 _ 53 _ (hbl.trans h.blk)]; rfl
  · exact h.ops.stays fun k hk => grown_at hg b 9 _ (h.ops.lt k hk).2 (fun e => (h.hobv k hk) e.symm) (fun e => h.hob (e ▸ hk))
  · exact row_in hrow hgb 9 _
  · exact h.val.stays fun k hk => grown_at hg b 9 _ (h.val.lt k hk).2 (fun e => (fun e => h.hbv k e hk) e.symm) (fun e => h.hvb (e ▸ hk))
  · obtain ⟨a, cp, e, h1, h2, h3, h4, h5⟩ := h.tap
    refine ⟨a, cp, e, h1, h2, h3, h4, fun h0 => ?_⟩
    obtain ⟨q, off, ea, ⟨f1, f2, f3, f4, f5⟩, hq, hc⟩ := h5 h0
    have hgq : g ≠ q := fun e => by
      subst e
      rcases hp with hp | hp
      · exact f3 hp
      · omega
    refine ⟨q, off, ea, ⟨f1, f2, fun e => hgq (Option.some.inj e), f4, f5⟩, by have := hg.size; simp [World.setCell]; omega, fun j hj => ?_⟩
    rw [World.cell?_of_block (grown_at hg b 9 _ hq (fun e => f3 e.symm) f1)]
    exact hc j hj
  · exact (Tch.of_grown hg (fun k e => .inr (.inr (.inl e)))).trans (tch_set b 9 _ w') (fun _ _ f => f)
  · rintro k (rfl | e | e | e)
    · exact .inl (.inl rfl)
    · exact .inl (.inr (.inl e))
    · have e' : g = k := Option.some.inj e
      subst e'
      rcases hp with hp | hp
      · exact .inl (.inr (.inr (.inl hp)))
      · exact .inr (by omega)
    · exact .inl (.inr (.inr (.inr e)))
theorem Dm2.addVal (h : Dm2 lo w b S S.L ov bv vv tv) {g cap : Nat} {x : Nat} (hrow : Orw w' lo.lo 22 1 (.slice (some ⟨g, 0, none⟩) (S.L + 1) cap) (S.L + 1) (fun i => [.int .u64 ((updN S.v S.L x i : Nat) : Int)])) (hg : w.grownBy w' vv.ownBlock) (hp : vv.ownBlock = some g ∨ g = w.heap.size) :
    Dm2 lo (w'.setCell ⟨b, 10, none⟩ (.slice (some ⟨g, 0, none⟩) (S.L + 1) cap)) b { S with v := updN S.v S.L x } (S.L + 1) ov bv (.slice (some ⟨g, 0, none⟩) (S.L + 1) cap) tv ∧ Tch (Ft b ov bv vv) w (w'.setCell ⟨b, 10, none⟩ (.slice (some ⟨g, 0, none⟩) (S.L + 1) cap)) ∧ (∀ k, Ft b ov bv (.slice (some ⟨g, 0, none⟩) (S.L + 1) cap) k → Ft b ov bv vv k ∨ w.heap.size ≤ k) := by
  have hgb : ((.slice (some ⟨g, 0, none⟩) (S.L + 1) cap) : Value).ownBlock ≠ some b := by
    intro e
    have e' : g = b := Option.some.inj e
    subst e'
    rcases hp with hp | hp
    · exact h.hvb hp
    · have := (Array.getElem?_eq_some_iff.1 h.blk).1; omega
  have hga_ov : ∀ k, g = k → ov.ownBlock ≠ some k := fun k e hk => by
    subst e
    rcases hp with hp | hp
    · exact (h.hov g hk) hp
    · have := (h.ops.lt g hk).2; omega
  have hga_bv : ∀ k, g = k → bv.ownBlock ≠ some k := fun k e hk => by
    subst e
    rcases hp with hp | hp
    · exact (h.hbv g hk) hp
    · have := (h.bls.lt g hk).2; omega
  have hbl : w'.heap[b]? = w.heap[b]? := hg.block b (Array.getElem?_eq_some_iff.1 h.blk).1 (fun e => h.hvb e.symm)
  refine ⟨⟨?_, h.lob, ?_, ?_, ?_, h.hob, h.hbb, hgb, h.hobv, fun k hk e => hga_ov k (Option.some.inj e) hk, fun k hk e => hga_bv k (Option.some.inj e) hk, ?_⟩, ?_, ?_⟩
  · rw [heap_setCell_same w' b 10 _ 53 _ (hbl.trans h.blk)]; rfl
  · exact h.ops.stays fun k hk => grown_at hg b 10 _ (h.ops.lt k hk).2 (fun e => (h.hov k hk) e.symm) (fun e => h.hob (e ▸ hk))
  · exact h.bls.stays fun k hk => grown_at hg b 10 _ (h.bls.lt k hk).2 (fun e => (h.hbv k hk) e.symm) (fun e => h.hbb (e ▸ hk))
  · exact row_in hrow hgb 10 _
  · obtain ⟨a, cp, e, h1, h2, h3, h4, h5⟩ := h.tap
    refine ⟨a, cp, e, h1, h2, h3, h4, fun h0 => ?_⟩
    obtain ⟨q, off, ea, ⟨f1, f2, f3, f4, f5⟩, hq, hc⟩ := h5 h0
    have hgq : g ≠ q := fun e => by
      subst e
      rcases hp with hp | hp
      · exact f4 hp
      · omega
    refine ⟨q, off, ea, ⟨f1, f2, f3, fun e => hgq (Option.some.inj e), f5⟩, by have := hg.size; simp [World.setCell]; omega, fun j hj => ?_⟩
    rw [World.cell?_of_block (grown_at hg b 10 _ hq (fun e => f4 e.symm) f1)]
    exact hc j hj
  · exact (Tch.of_grown hg (fun k e => .inr (.inr (.inr e)))).trans (tch_set b 10 _ w') (fun _ _ f => f)
  · rintro k (rfl | e | e | e)
    · exact .inl (.inl rfl)
    · exact .inl (.inr (.inl e))
    · exact .inl (.inr (.inr (.inl e)))
    · have e' : g = k := Option.some.inj e
      subst e'
      rcases hp with hp | hp
      · exact .inl (.inr (.inr (.inr hp)))
      · exact .inr (by omega)
theorem Dm2.addOps (h : Dm2 lo w b S (S.L + 1) ov bv vv tv) {g cap : Nat} {o : Op6} (hrow : Orw w' lo.lo 43 6 (.slice (some ⟨g, 0, none⟩) (S.L + 1) cap) (S.L + 1) (fun i => (opCs (updO S.f S.L o i)).toList)) (hg : w.grownBy w' ov.ownBlock) (hp : ov.ownBlock = some g ∨ g = w.heap.size) :
    Dm2 lo (w'.setCell ⟨b, 8, none⟩ (.slice (some ⟨g, 0, none⟩) (S.L + 1) cap)) b { S with L := S.L + 1, f := updO S.f S.L o } (S.L + 1) (.slice (some ⟨g, 0, none⟩) (S.L + 1) cap) bv vv tv ∧ Tch (Ft b ov bv vv) w (w'.setCell ⟨b, 8, none⟩ (.slice (some ⟨g, 0, none⟩) (S.L + 1) cap)) ∧ (∀ k, Ft b (.slice (some ⟨g, 0, none⟩) (S.L + 1) cap) bv vv k → Ft b ov bv vv k ∨ w.heap.size ≤ k) := by
  have hgb : ((.slice (some ⟨g, 0, none⟩) (S.L + 1) cap) : Value).ownBlock ≠ some b := by
    intro e
    have e' : g = b := Option.some.inj e
    subst e'
    rcases hp with hp | hp
    · exact h.hob hp
    · have := (Array.getElem?_eq_some_iff.1 h.blk).1; omega
  have hga_bv : ∀ k, g = k → bv.ownBlock ≠ some k := fun k e hk => by
    subst e
    rcases hp with hp | hp
    · exact (fun e => h.hobv g e hk) hp
    · have := (h.bls.lt g hk).2; omega
  have hga_vv : ∀ k, g = k → vv.ownBlock ≠ some k := fun k e hk => by
    subst e
    rcases hp with hp | hp
    · exact (fun e => h.hov g e hk) hp
    · have := (h.val.lt g hk).2; omega
  have hbl : w'.heap[b]? = w.heap[b]? := hg.block b (Array.getElem?_eq_some_iff.1 h.blk).1 (fun e => h.hob e.symm)
  refine ⟨⟨?_, h.lob, ?_, ?_, ?_, hgb, h.hbb, h.hvb, fun k hk e => hga_bv k (Option.some.inj hk) e, fun k hk e => hga_vv k (Option.some.inj hk) e, h.hbv, ?_⟩, ?_, ?_⟩
  · rw [heap_setCell_same w' b 8 _ 53 _ (hbl.trans h.blk)]; rfl
  · exact row_in hrow hgb 8 _
  · exact h.bls.stays fun k hk => grown_at hg b 8 _ (h.bls.lt k hk).2 (fun e => (fun e => h.hobv k e hk) e.symm) (fun e => h.hbb (e ▸ hk))
  · exact h.val.stays fun k hk => grown_at hg b 8 _ (h.val.lt k hk).2 (fun e => (fun e => h.hov k e hk) e.symm) (fun e => h.hvb (e ▸ hk))
  · obtain ⟨a, cp, e, h1, h2, h3, h4, h5⟩ := h.tap
    refine ⟨a, cp, e, h1, h2, h3, h4, fun h0 => ?_⟩
    obtain ⟨q, off, ea, ⟨f1, f2, f3, f4, f5⟩, hq, hc⟩ := h5 h0
    have hgq : g ≠ q := fun e => by
      subst e
      rcases hp with hp | hp
      · exact f2 hp
      · omega
    refine ⟨q, off, ea, ⟨f1, fun e => hgq (Option.some.inj e), f3, f4, f5⟩, by have := hg.size; simp [World.setCell]; omega, fun j hj => ?_⟩
    rw [World.cell?_of_block (grown_at hg b 8 _ hq (fun e => f2 e.symm) f1)]
    exact hc j hj
  · exact (Tch.of_grown hg (fun k e => .inr (.inl e))).trans (tch_set b 8 _ w') (fun _ _ f => f)
  · rintro k (rfl | e | e | e)
    · exact .inl (.inl rfl)
    · have e' : g = k := Option.some.inj e
      subst e'
      rcases hp with hp | hp
      · exact .inl (.inr (.inl hp))
      · exact .inr (by omega)
    · exact .inl (.inr (.inr (.inl e)))
    · exact .inl (.inr (.inr (.inr e)))
end
end Go.Proofs.Ytflfnaiklnbaiaa

/- General: a slice of acts (an int, an op, a word) that comes in. No program is named. -/
namespace Go.Proofs.Ytflfnaiklnbaiaa
open Go.ChangeShapes Go.WideShapes Go.ChangeAt Go.RowKit Go.Deep

/-- An act. -/
structure Act8 where
  K : Int
  o : Op6
  X : Nat
def acwf (a : Act8) : Prop := (-9223372036854775808 ≤ a.K ∧ a.K ≤ 9223372036854775807) ∧ opwf a.o ∧ a.X < 18446744073709551616
/-- The cells of an act from offset n of block b on. -/
structure Ac (w : World) (q n : Nat) (a : Act8) : Prop where
  k : w.cell? ⟨q, n, none⟩ = some (.int .i64 a.K)
  o : Oc w q (n + 1) a.o
  x : w.cell? ⟨q, n + 7, none⟩ = some (.int .u64 (a.X : Int))
theorem Ac.self {w w' : World} {b n : Nat} {a : Act8} (h : Ac w b n a) (hb : Below w.heap.size w w') : Ac w' b n a :=
  ⟨tcell_self h.k hb, h.o.self hb, tcell_self h.x hb⟩
/-- v reads as the L acts f. -/
structure RAc (w : World) (v : Value) (L : Nat) (f : Nat → Act8) : Prop where
  lim : L ≤ 2300000000000
  wf : ∀ i, i < L → acwf (f i)
  at_ : ∃ a cap, v = .slice a L cap ∧ L ≤ cap ∧ cap ≤ maxLen ∧ (0 < L → ∃ b off, a = some ⟨b, off, none⟩ ∧ b < w.heap.size ∧ ∀ i, i < L → Ac w b (off + i * 8) (f i))
theorem RAc.self {w w' : World} {v : Value} {L : Nat} {f : Nat → Act8} (h : RAc w v L f) (hb : Below w.heap.size w w') : RAc w' v L f := by
  obtain ⟨a, cap, h1, h2, h3, h4⟩ := h.at_
  refine ⟨h.lim, h.wf, a, cap, h1, h2, h3, fun h0 => ?_⟩
  obtain ⟨b, off, e1, e2, e3⟩ := h4 h0
  exact ⟨b, off, e1, Nat.lt_of_lt_of_le e2 hb.size, fun i hi => (e3 i hi).self hb⟩
end Go.Proofs.Ytflfnaiklnbaiaa

/- General: the machine as numbers: bounds, acts, a dry machine, a new one. No program is named. -/
namespace Go.Proofs.Ytflfnaiklnbaiaa

namespace Ms
end Ms
/-- Bounds of a machine. -/
structure Bq (k : Nat) (S : Ms) : Prop where
  len : S.len ≤ k
  M : S.M ≤ k
  words : S.words ≤ k
  draws : S.draws ≤ k
  fr : S.fr ≤ k
  used : S.used ≤ 20000000000000
  free : S.free ≤ 20000000000000
  TN : S.TN ≤ 20000000000000
  v : ∀ i, i < S.L → S.v i < 2 ^ 64
  tw : ∀ i, i < S.TN → S.tw i < 2 ^ 64
  wet : S.dry = false → S.skip = 0
  ops : ∀ i, i < S.L → opwf (S.f i)
  sps : ∀ i, i < S.M → spwf (S.g i)
  kind : 0 ≤ S.kind ∧ S.kind ≤ 3
  n : -9223372036854775808 ≤ S.n ∧ S.n ≤ 9223372036854775807
  most : -9223372036854775808 ≤ S.most ∧ S.most ≤ 9223372036854775807
  e : S.e ≤ 4
theorem Bq.mono {k k' : Nat} {S : Ms} (h : Bq k S) (hk : k ≤ k') : Bq k' S :=
  ⟨Nat.le_trans h.len hk, Nat.le_trans h.M hk, Nat.le_trans h.words hk, Nat.le_trans h.draws hk, Nat.le_trans h.fr hk, h.used, h.free, h.TN, h.v, h.tw, h.wet, h.ops, h.sps, h.kind, h.n, h.most, h.e⟩
theorem Bq.fails {k : Nat} {S : Ms} (h : Bq k S) (e : Nat) (he : e ≤ 4) : Bq k { S with e := e } :=
  ⟨h.len, h.M, h.words, h.draws, h.fr, h.used, h.free, h.TN, h.v, h.tw, h.wet, h.ops, h.sps, h.kind, h.n, h.most, he⟩
theorem wordAt_lt {v : Nat → Nat} {L : Nat} (h : ∀ i, i < L → v i < 2 ^ 64) (r : Int) : wordAt v L r < 2 ^ 64 := by
  unfold wordAt
  split
  · rename_i hr; exact h _ (by omega)
  · decide
theorem Bq.does {k : Nat} {S : Ms} (h : Bq k S) {o : Op6} {x : Nat} (ho : opwf o) (hx : x < 2 ^ 64) : Bq (k + 1) (S.doS o x) := by
  unfold Ms.doS
  split
  · exact h.mono (by omega)
  · split
    · exact (h.fails 1 (by omega)).mono (by omega)
    · split
      · exact (h.fails 3 (by omega)).mono (by omega)
      · split
        · exact (h.fails 2 (by omega)).mono (by omega)
        · rename_i _ hb hf hout
          have hw : S.word o x < 2 ^ 64 := by
            unfold Ms.word
            split
            · rename_i e
              unfold Ms.out at hout
              rw [decide_eq_true e.1, e.2, Bool.not_false, Bool.true_and, Bool.true_and] at hout
              have h2 := of_decide_eq_false (Bool.not_eq_true _ ▸ hout)
              exact h.tw _ (by omega)
            · exact hx
          have hm : S.makes o x < 2 ^ 64 := evN_lt (by have := ho.2.2.2.2.2; omega) (wordAt_lt h.v _) (wordAt_lt h.v _) (wordAt_lt h.v _) hw
          have hl := h.len
          unfold Ms.len at hl
          refine ⟨by show S.skip + (S.L + 1) ≤ k + 1; omega, Nat.le_succ_of_le h.M, ?_, ?_, Nat.le_succ_of_le h.fr, ?_, ?_, h.TN, fun i hi => ?_, h.tw, h.wet, fun i hi => ?_, h.sps, h.kind, h.n, h.most, h.e⟩
          · show (if o.K = 2 then S.words + 1 else S.words) ≤ k + 1
            have := h.words
            split <;> omega
          · show (if o.K = 1 then S.draws + 1 else S.draws) ≤ k + 1
            have := h.draws
            split <;> omega
          · show (if o.K = 1 ∧ S.dry = false then S.used + 1 else S.used) ≤ 20000000000000
            have := h.used
            split
            · rename_i e
              unfold Ms.out at hout
              rw [decide_eq_true e.1, e.2, Bool.not_false, Bool.true_and, Bool.true_and] at hout
              have h2 := of_decide_eq_false (Bool.not_eq_true _ ▸ hout)
              have := h.TN
              omega
            · exact this
          · show (if o.K = 1 ∧ S.dry = false then S.free - 1 else S.free) ≤ 20000000000000
            have := h.free
            split <;> omega
          · show updN S.v S.L (S.makes o x) i < 2 ^ 64
            have hi' : i < S.L + 1 := hi
            by_cases e : i = S.L
            · subst e; rw [updN_at]; exact hm
            · rw [updN_no _ _ e]; exact h.v i (by omega)
          · show opwf (updO S.f S.L o i)
            have hi' : i < S.L + 1 := hi
            by_cases e : i = S.L
            · subst e; rw [updO_at]; exact ho
            · rw [updO_no _ _ e]; exact h.ops i (by omega)
theorem Bq.begins {k : Nat} {S : Ms} (h : Bq k S) (kd : Int) : Bq k (S.beginS kd) := by
  unfold Ms.beginS
  split
  · exact h
  · split
    · exact h.fails 1 (by omega)
    · rename_i _ e
      exact ⟨h.len, h.M, h.words, h.draws, h.len, h.used, h.free, h.TN, h.v, h.tw, h.wet, h.ops, h.sps, by show 0 ≤ kd ∧ kd ≤ 3; omega, h.n, h.most, h.e⟩
theorem Bq.ends {k : Nat} {S : Ms} (h : Bq k S) (hk : k ≤ 1000000) : Bq (k + 1) S.endS := by
  unfold Ms.endS
  split
  · exact h.mono (by omega)
  · split
    · exact (h.fails 1 (by omega)).mono (by omega)
    · have g : Bq (k + 1) { S with kind := 0 } := ⟨Nat.le_succ_of_le h.len, Nat.le_succ_of_le h.M, Nat.le_succ_of_le h.words, Nat.le_succ_of_le h.draws, Nat.le_succ_of_le h.fr, h.used, h.free, h.TN, h.v, h.tw, h.wet, h.ops, h.sps, by show (0 : Int) ≤ 0 ∧ (0 : Int) ≤ 3; decide, h.n, h.most, h.e⟩
      split
      · refine ⟨g.len, Nat.succ_le_succ h.M, g.words, g.draws, g.fr, h.used, h.free, h.TN, h.v, h.tw, h.wet, h.ops, fun i hi => ?_, g.kind, h.n, h.most, h.e⟩
        show spwf (updS S.g S.M ⟨S.kind, (S.fr : Int), (S.len : Int)⟩ i)
        have hi' : i < S.M + 1 := hi
        by_cases e : i = S.M
        · subst e
          rw [updS_at]
          have h1 := h.kind
          have h2 := h.fr
          have h3 := h.len
          exact ⟨by show _ ≤ S.kind ∧ S.kind ≤ _; omega, by show _ ≤ (S.fr : Int) ∧ (S.fr : Int) ≤ _; omega, by show _ ≤ (S.len : Int) ∧ (S.len : Int) ≤ _; omega⟩
        · rw [updS_no _ _ e]; exact h.sps i (by omega)
      · exact g
theorem doS_n (S : Ms) (o : Op6) (x : Nat) : (S.doS o x).n = S.n := by
  unfold Ms.doS
  repeat' split
  all_goals rfl
theorem doS_tw (S : Ms) (o : Op6) (x : Nat) : (S.doS o x).tw = S.tw := by
  unfold Ms.doS
  repeat' split
  all_goals rfl
theorem beginS_n (S : Ms) (k : Int) : (S.beginS k).n = S.n ∧ (S.beginS k).tw = S.tw ∧ (S.beginS k).TN = S.TN := by
  unfold Ms.beginS
  repeat' split
  all_goals exact ⟨rfl, rfl, rfl⟩
end Go.Proofs.Ytflfnaiklnbaiaa

namespace Go.Proofs.Ytflfnaiklnbaiaa
open Go.RowKit

/-- The atomic number, read and added to. -/
theorem aload_any (b o : Nat) (x : Int) (w : World) (hc : w.cell? ⟨b, o, none⟩ = some (.int .i64 x)) :
    Calls Try.prog 62 #[.pointer (some ⟨b, o, none⟩)] w fun e w' => e = .returned (.int .i64 x) ∧ w = w' := by
  have hl := run_call_load (P := Try.prog) Try.func71 (by kernel_rfl) (by kernel_rfl) (by kernel_rfl) .i64 (by kernel_rfl) hc
  go_enter Try.func62, Try.ntmps62
  go_wp2
  go_ret
  exact ⟨rfl, rfl⟩

theorem aadd_any (b o : Nat) (x : Int) (w : World) (hc : w.cell? ⟨b, o, none⟩ = some (.int .i64 x)) (hz : w.frozen? ⟨b, o, none⟩ = false) (h0 : 0 ≤ x) (h1 : x < 9223372036854775807) :
    Calls Try.prog 91 #[.pointer (some ⟨b, o, none⟩), .int .i64 1] w fun e w' => e = .returned (.int .i64 (x + 1)) ∧ w' = w.setCell ⟨b, o, none⟩ (.int .i64 (x + 1)) := by
  have hl := run_call_add (P := Try.prog) Try.func93 (by kernel_rfl) (by kernel_rfl) (by kernel_rfl) .i64 (by kernel_rfl) (y := 1) (s := x + 1) hc hz (by simp [go_sem]; rw [IntWalk.i64_in _ (by omega)])
  go_enter Try.func91, Try.ntmps91
  go_wp2
  go_ret
  exact ⟨rfl, rfl⟩

end Go.Proofs.Ytflfnaiklnbaiaa

namespace Go.Proofs.Ytflfnaiklnbaiaa
open Go.RowKit

/-! ### a slice whose cells lie in a block of a kind -/
/-! ### a tape -/
/-- At block b lies a tape: of the words zs d were drawn, and it may be drawn up to e. It and its words lie in the blocks from lo to hi. -/
def TapeAt (w : World) (lo hi b : Nat) (zs : List Int) (d e : Nat) : Prop :=
  ∃ wv, w.heap[b]? = some (.cells #[wv, .int .i64 d, .int .i64 e] 97 (0, 0)) ∧ RdS .u64 w (fun g => lo ≤ g ∧ g < hi ∧ g ≠ b) wv zs ∧ d ≤ e ∧ e ≤ zs.length ∧ lo ≤ b ∧ b < hi ∧ hi ≤ w.heap.size

theorem TapeAt.lt {w : World} {lo hi b : Nat} {zs : List Int} {d e : Nat} (h : TapeAt w lo hi b zs d e) : lo ≤ b ∧ b < hi ∧ hi ≤ w.heap.size := by
  obtain ⟨_, _, _, _, _, h⟩ := h; exact h
theorem TapeAt.only {w w' : World} {lo hi b c : Nat} {zs : List Int} {d e : Nat} (h : TapeAt w lo hi b zs d e) (o : Only c w w') (hn : c < lo ∨ hi ≤ c) : TapeAt w' lo hi b zs d e := by
  obtain ⟨wv, hb, hr, h3, h4, h5, h6, h7⟩ := h
  exact ⟨wv, (o.block b (by omega) (by omega)).trans hb, hr.only o (fun g hg => by omega), h3, h4, h5, h6, Nat.le_trans h7 o.size⟩
theorem TapeAt.below {w w' : World} {lo hi b : Nat} {zs : List Int} {d e : Nat} (h : TapeAt w lo hi b zs d e) (o : Below w.heap.size w w') : TapeAt w' lo hi b zs d e := by
  obtain ⟨wv, hb, hr, h3, h4, h5, h6, h7⟩ := h
  exact ⟨wv, (o.block b (by omega)).trans hb, hr.below o, h3, h4, h5, h6, Nat.le_trans h7 o.size⟩
theorem TapeAt.drew {w : World} {lo hi b : Nat} {zs : List Int} {d e : Nat} (h : TapeAt w lo hi b zs d e) : TapeAt w.drew lo hi b zs d e := h.below ((Below.refl _ _).drew)
theorem TapeAt.drewN {w : World} {lo hi b : Nat} {zs : List Int} {d e : Nat} (h : TapeAt w lo hi b zs d e) (n : Nat) : TapeAt (w.drewN n) lo hi b zs d e := h.below ⟨rfl, rfl, rfl, Nat.le_refl _, fun _ _ => rfl⟩
theorem TapeAt.len {w : World} {lo hi b : Nat} {zs : List Int} {d e : Nat} (h : TapeAt w lo hi b zs d e) : d ≤ e ∧ e ≤ zs.length ∧ zs.length ≤ 17592186043904 := by
  obtain ⟨_, _, ⟨_, _, _, _, _, h, _⟩, h1, h2, _⟩ := h
  refine ⟨h1, h2, ?_⟩
  simp [IntKind.bits] at h; omega

theorem TapeAt.setD {w : World} {lo hi b : Nat} {zs : List Int} {d e : Nat} (h : TapeAt w lo hi b zs d e) (d' : Nat) (hd : d' ≤ e) : TapeAt (w.setCell ⟨b, 1, none⟩ (.int .i64 d')) lo hi b zs d' e := by
  obtain ⟨wv, hb, hr, h3, h4, h5, h6, h7⟩ := h
  exact ⟨wv, set3_1 hb, hr.only (Only.set (g := b) w (p := ⟨b, 1, none⟩) rfl _) (fun g hg => hg.2.2), hd, h4, h5, h6, by simpa [World.setCell] using h7⟩
theorem TapeAt.setE {w : World} {lo hi b : Nat} {zs : List Int} {d e : Nat} (h : TapeAt w lo hi b zs d e) (e' : Nat) (hd : d ≤ e') (he : e' ≤ zs.length) : TapeAt (w.setCell ⟨b, 2, none⟩ (.int .i64 e')) lo hi b zs d e' := by
  obtain ⟨wv, hb, hr, h3, h4, h5, h6, h7⟩ := h
  exact ⟨wv, set3_2 hb, hr.only (Only.set (g := b) w (p := ⟨b, 2, none⟩) rfl _) (fun g hg => hg.2.2), hd, he, h5, h6, by simpa [World.setCell] using h7⟩

/-! ### the tape's functions -/
theorem used_any (lo hi b : Nat) (zs : List Int) (d e : Nat) (w : World) (h : TapeAt w lo hi b zs d e) :
    Calls Try.prog 48 #[.pointer (some ⟨b, 0, none⟩)] w fun r w' => r = .returned (.int .i64 d) ∧ w = w' := by
  obtain ⟨wv, hb, hr, h3, h4, h5, h6, h7⟩ := h
  obtain ⟨c0, c1, c2, hz⟩ := cells3 hb
  have C1 := hid c1
  clear hb hr hz
  go_enter Try.func48, Try.ntmps48
  go_wp2_with (go_at_call 62; refine (aload_any b 1 d _ C1.out).mono ?_; rintro r w' ⟨rfl, rfl⟩)
  go_ret
  exact ⟨rfl, rfl⟩

end Go.Proofs.Ytflfnaiklnbaiaa

namespace Go.Proofs.Ytflfnaiklnbaiaa
open Go.RowKit

set_option maxHeartbeats 400000 in
theorem left_any (lo hi b : Nat) (zs : List Int) (d e : Nat) (w : World) (h : TapeAt w lo hi b zs d e) :
    Calls Try.prog 47 #[.pointer (some ⟨b, 0, none⟩)] w fun r w' => r = .returned (.int .i64 ((zs.length : Int) - d)) ∧ ∃ n, w' = w.drewN n := by
  have hl := h.len
  have H := hid h
  obtain ⟨wv, hb, hr, h3, h4, h5, h6, h7⟩ := h
  obtain ⟨a, cap, rfl, _⟩ := hr
  obtain ⟨c0, c1, c2, hz⟩ := cells3 hb
  have hl1 := hl.2.2
  clear hb hz c1 c2
  have hsub : IntKind.i64.wrap ((zs.length : Int) - d) = (zs.length : Int) - d := IntWalk.i64_in _ (by omega)
  go_enter Try.func47, Try.ntmps47
  go_wp2
  go_quiet ((go_at_call 48; exact Calls.quiet_of_same ((used_any lo hi b zs d e _ (H.out.drewN _)).mono fun _ _ ⟨a, b⟩ => ⟨a, b.symm⟩)))
  go_wp2
  go_ret
  exact ⟨rfl, _, rfl⟩

set_option maxHeartbeats 400000 in
theorem allowed_any (lo hi b : Nat) (zs : List Int) (d e : Nat) (w : World) (h : TapeAt w lo hi b zs d e) :
    Calls Try.prog 90 #[.pointer (some ⟨b, 0, none⟩)] w fun r w' => r = .returned (.int .i64 ((e : Int) - d)) ∧ ∃ n, w' = w.drewN n := by
  have hl := h.len
  have H := hid h
  obtain ⟨wv, hb, hr, h3, h4, h5, h6, h7⟩ := h
  obtain ⟨a, cap, rfl, _⟩ := hr
  obtain ⟨c0, c1, c2, hz⟩ := cells3 hb
  have hl1 := hl.2.2
  clear hb hz c1 c0
  have hsub : IntKind.i64.wrap ((e : Int) - d) = (e : Int) - d := IntWalk.i64_in _ (by omega)
  go_enter Try.func90, Try.ntmps90
  go_wp2
  go_quiet ((go_at_call 48; exact Calls.quiet_of_same ((used_any lo hi b zs d e _ (H.out.drewN _)).mono fun _ _ ⟨a, b⟩ => ⟨a, b.symm⟩)))
  go_wp2
  go_ret
  exact ⟨rfl, _, rfl⟩

theorem reserve_ok (lo hi b : Nat) (zs : List Int) (d e n : Nat) (w : World) (h : TapeAt w lo hi b zs d e) (ho : d + n ≤ zs.length) :
    Calls Try.prog 25 #[.pointer (some ⟨b, 0, none⟩), .int .i64 n] w fun r w' => r = .returned (.int .i64 0) ∧ TapeAt w' lo hi b zs d (d + n) ∧ Only b w w' := by
  have hl := h.len
  have H := hid h
  obtain ⟨wv, hb, hr, h3, h4, h5, h6, h7⟩ := h
  obtain ⟨c0, c1, c2, hz⟩ := cells3 hb
  have hz2 := hz 2
  clear hb hz c1 c0 hr
  have hn2 : ¬ ((zs.length : Int) - d < n) := by omega
  go_enter Try.func25, Try.ntmps25
  go_wp2_with (first
    | (go_at_call 47; refine (left_any lo hi b zs d e _ H.out).mono ?_; rintro r w' ⟨rfl, nq, rfl⟩)
    | (go_at_call 48; refine (used_any lo hi b zs d e _ (H.out.drewN _)).mono ?_; rintro r w' ⟨rfl, rfl⟩))
  go_ret
  exact ⟨rfl, by have := (H.out.drewN nq).setE (d + n) (by omega) (by omega); simpa using this, (Only.drewN b w nq).trans (Only.set (g := b) (w.drewN nq) (p := ⟨b, 2, none⟩) rfl _)⟩

theorem draw_none (lo hi b : Nat) (zs : List Int) (d e : Nat) (w : World) (h : TapeAt w lo hi b zs d e) (he : e ≤ d) :
    Calls Try.prog 87 #[.pointer (some ⟨b, 0, none⟩)] w fun r w' => r = .returned (.tuple #[.int .u64 0, .bool false]) ∧ ∃ n, w' = w.drewN n := by
  have hl := h.len
  have H := hid h
  clear h
  have e0 : ((e : Int) - d == 0) = true := by simp; omega
  go_enter Try.func87, Try.ntmps87
  go_wp2_with (go_at_call 90; refine (allowed_any lo hi b zs d e _ H.out).mono ?_; rintro r w' ⟨rfl, nq, rfl⟩)
  go_ret2
  exact ⟨rfl, _, rfl⟩

theorem aadd_tape (lo hi b : Nat) (zs : List Int) (d e : Nat) (w : World) (h : TapeAt w lo hi b zs d e) (he : d < e) :
    Calls Try.prog 91 #[.pointer (some ⟨b, 1, none⟩), .int .i64 1] w fun r w' => r = .returned (.int .i64 ((d : Int) + 1)) ∧ TapeAt w' lo hi b zs (d + 1) e ∧ Only b w w' ∧ w'.cell? ⟨b, 0, none⟩ = w.cell? ⟨b, 0, none⟩ := by
  have hl := h.len
  have H := hid h
  obtain ⟨wv, hb, hr, h3, h4, h5, h6, h7⟩ := h
  obtain ⟨c0, c1, c2, hz⟩ := cells3 hb
  refine (aadd_any b 1 d w c1 (hz 1) (by omega) (by omega)).mono ?_
  rintro r w' ⟨rfl, rfl⟩
  exact ⟨rfl, H.out.setD (d + 1) he, Only.set (g := b) w (p := ⟨b, 1, none⟩) rfl _, World.cell?_setCell_other _ _ _ _ (by simp)⟩

set_option maxHeartbeats 800000 in
theorem draw_some (lo hi b : Nat) (zs : List Int) (d e : Nat) (w : World) (h : TapeAt w lo hi b zs d e) (he : d < e) :
    Calls Try.prog 87 #[.pointer (some ⟨b, 0, none⟩)] w fun r w' => r = .returned (.tuple #[.int .u64 (nth zs d), .bool true]) ∧ TapeAt w' lo hi b zs (d + 1) e ∧ Only b w w' := by
  have hl := h.len
  have H := hid h
  obtain ⟨wv, hb, hr, h3, h4, h5, h6, h7⟩ := h
  obtain ⟨a, cap, rfl, hcap1, hcap2, _, _, hr0⟩ := hr
  obtain ⟨g, off, rfl, hg0, hg, hr⟩ := hr0 (by omega)
  obtain ⟨c0, c1, c2, hz⟩ := cells3 hb
  have hz1 := hz 1
  have hrd := hr d (by omega)
  have hbg : ¬ g = b := hg0.2.2
  have hbg2 : ¬ b = g := fun e => hg0.2.2 e.symm
  clear hb hz hr hr0
  have e0 : ((e : Int) - d == 0) = false := by simp; omega
  have hi0 : (0 : Int) ≤ (d : Int) := by omega
  have hi1 : (d : Int) < (zs.length : Int) := by omega
  have hw1 : IntKind.i64.wrap (d : Int) = (d : Int) := IntWalk.i64_in _ (by omega)
  go_enter Try.func87, Try.ntmps87
  go_wp2_with (go_at_call 90; refine (allowed_any lo hi b zs d e _ H.out).mono ?_; rintro r w' ⟨rfl, nq, rfl⟩)
  go_region_with (go_at_call 91; (with_reducible refine (aadd_tape lo hi b zs d e _ (H.out.drewN _) he).mono ?_); rintro r w1 ⟨rfl, ht, ho, hc1⟩; have hc01 := hc1.trans c0; have hrd1 := (ho.cell (p := ⟨g, off + d, none⟩) hg hbg).trans hrd; have HT := hid ht; have HO := hid ho.undrewN; clear ht ho hrd hc1)
  all_goals
    go_wp2
    go_ret2
    exact ⟨rfl, HT.out, HO.out⟩
end Go.Proofs.Ytflfnaiklnbaiaa

namespace Go.Proofs.Ytflfnaiklnbaiaa
open Go.RowKit

theorem info25 : (Try.prog.info? 22).map (fun i => (i.zero, i.size, i.bytes)) = some (some (.int .u64 0), 1, 8) := by kernel_rfl

def OwnRes (w : World) (zs : List Int) (r : Ending) (w' : World) : Prop := ∃ u, r = .returned u ∧ Own .u64 w.heap.size 22 w' u zs ∧ Below w.heap.size w w'

theorem clone_any (v : Value) (zs : List Int) (w : World) (h : Rd .u64 w v zs) : Calls Try.prog 42 #[v] w (OwnRes w zs) := by
  have HR := hid h
  obtain ⟨a, cap, rfl, hl, hz, hc⟩ := h
  have hn := fun (a : Option Addr) (n c : Nat) => Lib.run_eql_slice_nil (P := Try.prog) w 24 22 a n c 0 0 Try.underlying24
  clear hc hz
  cases a with
  | none =>
    have h0 : zs = [] := by
      apply List.eq_nil_of_length_eq_zero
      obtain ⟨_, _, _, _, _, h⟩ := HR.out
      rcases Nat.eq_zero_or_pos zs.length with h0 | h0
      · exact h0
      · obtain ⟨_, _, e, _⟩ := h h0
        simp_all
    have H0 := hid h0
    clear h0
    go_enter Try.func42, Try.ntmps42
    go_wp2
    go_ret
    exact ⟨_, rfl, by rw [H0.out]; exact own_nil _ _ _ _, Below.refl _ _⟩
  | some a =>
    have HLI : Hid ((([] : List Int).length + zs.length) * (IntKind.u64.bits / 8) ≤ 140737488355328) := hid (by simp [IntKind.bits] at hl ⊢; omega)
    have HZ := hid (HR.out.self ((Below.refl w.heap.size w).alloc (Nat.le_refl _) (.cells #[] 22)))
    clear hl
    go_enter Try.func42, Try.ntmps42
    go_wp2_with (refine wpList_append_rd rfl (.tmp 5) (.tmp 6) 24 rfl .u64 w.heap.size 22 Try.underlying24 info25 (by decide) _ [] rfl (own_empty w (Nat.le_refl _)) _ zs rfl HZ.out HLI.out (by simp) w.heap.size w ((Below.refl _ _).alloc (Nat.le_refl _) _) (Nat.le_refl _) ?_; intro u w1 hown hlow hsz1; rw [List.nil_append] at hown; have HO := hid hown; have HL := hid hlow; clear hown hlow)
    go_ret
    exact ⟨_, rfl, HO.out, HL.out⟩

def NewRes (w : World) (zs : List Int) (r : Ending) (w' : World) : Prop := ∃ b, r = .returned (.pointer (some ⟨b, 0, none⟩)) ∧ TapeAt w' w.heap.size w'.heap.size b zs 0 0 ∧ Below w.heap.size w w'

theorem new_any (v : Value) (zs : List Int) (w : World) (h : Rd .u64 w v zs) : Calls Try.prog 24 #[v] w (NewRes w zs) := by
  have HR := hid h
  have hl : zs.length * 8 ≤ 140737488351232 := by obtain ⟨_, _, _, h, _⟩ := h; simpa [IntKind.bits] using h
  have HWF := hid (wfs_of h)
  have HL := hid hl
  clear h hl
  go_enter Try.func24, Try.ntmps24
  go_wp2_with (go_at_call 42; refine (clone_any v zs _ HR.out).mono ?_; rintro r w1 ⟨u, rfl, hown, hlow⟩; obtain ⟨pa, cp, rfl, hq1, hq2⟩ := hown.slice; clear hq1 hq2; have HO := hid hown; have HB := hid hlow; clear hown hlow)
  go_ret
  refine ⟨w1.heap.size, rfl, ⟨_, heap_alloc_new w1 _, ?_, Nat.le_refl _, Nat.zero_le _, HB.out.size, by simp, Nat.le_refl _⟩, HB.out.alloc HB.out.size _⟩
  refine ((HO.out.rds (by have := HL.out; simpa [IntKind.bits] using this) HWF.out).imp fun g hg _ => ⟨hg.1, by simp; omega, by omega⟩).below ((Below.refl _ _).alloc (Nat.le_refl _) _)
end Go.Proofs.Ytflfnaiklnbaiaa

namespace Go.Proofs.Ytflfnaiklnbaiaa
open Go.RowKit

/-- At block m lies the document's tape: its words that are left, how many were drawn, how many may be. -/
def ModelAt (w : World) (lo hi m : Nat) (zs : List Int) (u f : Nat) : Prop :=
  ∃ wv, w.heap[m]? = some (.cells #[wv, .int .i64 u, .int .i64 f] 51 (0, 0)) ∧ RdS .u64 w (fun g => lo ≤ g ∧ g < hi ∧ g ≠ m) wv zs ∧ lo ≤ m ∧ m < hi ∧ hi ≤ w.heap.size

theorem ModelAt.lt {w : World} {lo hi b : Nat} {zs : List Int} {d e : Nat} (h : ModelAt w lo hi b zs d e) : lo ≤ b ∧ b < hi ∧ hi ≤ w.heap.size := by
  obtain ⟨_, _, _, h⟩ := h; exact h
theorem ModelAt.only {w w' : World} {lo hi b c : Nat} {zs : List Int} {d e : Nat} (h : ModelAt w lo hi b zs d e) (o : Only c w w') (hn : c < lo ∨ hi ≤ c) : ModelAt w' lo hi b zs d e := by
  obtain ⟨wv, hb, hr, h5, h6, h7⟩ := h
  exact ⟨wv, (o.block b (by omega) (by omega)).trans hb, hr.only o (fun g hg => by omega), h5, h6, Nat.le_trans h7 o.size⟩
theorem ModelAt.below {w w' : World} {lo hi b : Nat} {zs : List Int} {d e : Nat} (h : ModelAt w lo hi b zs d e) (o : Below w.heap.size w w') : ModelAt w' lo hi b zs d e := by
  obtain ⟨wv, hb, hr, h5, h6, h7⟩ := h
  exact ⟨wv, (o.block b (by omega)).trans hb, hr.below o, h5, h6, Nat.le_trans h7 o.size⟩
theorem ModelAt.drew {w : World} {lo hi b : Nat} {zs : List Int} {d e : Nat} (h : ModelAt w lo hi b zs d e) : ModelAt w.drew lo hi b zs d e := h.below ((Below.refl _ _).drew)
theorem ModelAt.drewN {w : World} {lo hi b : Nat} {zs : List Int} {d e : Nat} (h : ModelAt w lo hi b zs d e) (n : Nat) : ModelAt (w.drewN n) lo hi b zs d e := h.below ⟨rfl, rfl, rfl, Nat.le_refl _, fun _ _ => rfl⟩
theorem ModelAt.len {w : World} {lo hi b : Nat} {zs : List Int} {d e : Nat} (h : ModelAt w lo hi b zs d e) : zs.length ≤ 17592186043904 := by
  obtain ⟨_, _, ⟨_, _, _, _, _, h, _⟩, _⟩ := h
  simp [IntKind.bits] at h; omega
/-- What is left of a slice without its first. -/
theorem RdS.tail {k : IntKind} {w : World} {S : Nat → Prop} {g off cap : Nat} {z : Int} {zs : List Int} (h : RdS k w S (.slice (some ⟨g, off, none⟩) (zs.length + 1) cap) (z :: zs)) (b : Option Addr) (hb : 0 < zs.length → b = some ⟨g, off + 1, none⟩) :
    RdS k w S (.slice b zs.length (cap - 1)) zs := by
  obtain ⟨a, c, h1, h2, h3, h4, h5, h7⟩ := h
  injection h1 with e1 e2 e3
  subst e3
  simp only [List.length_cons] at h2 h4
  refine ⟨b, cap - 1, rfl, by omega, by omega, by rw [Nat.add_mul] at h4; omega, fun x hx => h5 x (List.mem_cons_of_mem _ hx), fun hp => ?_⟩
  obtain ⟨g', off', e, hS, hlt, hc⟩ := h7 (by simp)
  rw [← e1] at e
  injection e with e
  injection e with e4 e5 e6
  subst e4; subst e5
  refine ⟨g, off + 1, hb hp, hS, hlt, fun j hj => ?_⟩
  have := hc (j + 1) (by simp; omega)
  rw [show off + 1 + j = off + (j + 1) by omega, this]
  rfl

theorem ModelAt.step {w : World} {lo hi m : Nat} {wv v' x y : Value} {zs : List Int} {u f : Nat} {u' f' : Int} (hb : w.heap[m]? = some (.cells #[wv, x, y] 51 (0, 0)))
    (hr : RdS .u64 w (fun g => lo ≤ g ∧ g < hi ∧ g ≠ m) v' zs) (h5 : lo ≤ m) (h6 : m < hi) (h7 : hi ≤ w.heap.size) (hu : u' = u) (hf : f' = f) :
    ModelAt (((w.setCell ⟨m, 0, none⟩ v').setCell ⟨m, 2, none⟩ (.int .i64 f')).setCell ⟨m, 1, none⟩ (.int .i64 u')) lo hi m zs u f ∧ Only m w (((w.setCell ⟨m, 0, none⟩ v').setCell ⟨m, 2, none⟩ (.int .i64 f')).setCell ⟨m, 1, none⟩ (.int .i64 u')) := by
  subst hu; subst hf
  have o : Only m w (((w.setCell ⟨m, 0, none⟩ v').setCell ⟨m, 2, none⟩ (.int .i64 f)).setCell ⟨m, 1, none⟩ (.int .i64 u)) :=
    ((Only.set (g := m) w (p := ⟨m, 0, none⟩) rfl _).trans (Only.set (g := m) _ (p := ⟨m, 2, none⟩) rfl _)).trans (Only.set (g := m) _ (p := ⟨m, 1, none⟩) rfl _)
  exact ⟨⟨v', set3_1 (set3_2 (set3_0 hb)), hr.only o (fun g hg => hg.2.2), h5, h6, by simpa [World.setCell] using h7⟩, o⟩

end Go.Proofs.Ytflfnaiklnbaiaa

/- General: whole stores and results of any row of cells (arrays, structs). No program is named. -/
namespace Go.Proofs.Ytflfnaiklnbaiaa
open Go.RowKit
theorem step_store_row {P : Program} {w : World} {ops : Array Oper} {rest : List Oper} {o : Oper} {a : Act} {Q : Exit → Act → World → Prop} (hgd : o.guard = none) (ty : TypeId) (x y : Operand) (ho : o.op = .store ty x y)
    (b : Nat) (t : TypeId) (cs cs' : Array Value) (hx : a.eval x = .pointer (some ⟨b, 0, none⟩)) (hy : a.eval y = .agg cs') (hA : w.heap[b]? = some (.cells cs t (0, 0))) (hi : (P.info? ty).map (·.size) = some cs'.size) (hs : cs.size = cs'.size) (h1 : cs'.all (·.oneCell') = true)
    (k : wpList P ops Q rest (a.put o.dst undef) (w.setRow b cs')) : wpList P ops Q (o :: rest) a w :=
  wpList_plain hgd fun _ hK => wp_store_row ty x y ho b _ hx hy t _ hA hi hs h1 (hK _ _ k)
theorem ret_row_tmp {P : Program} {fn : Func} {p u : Tmp} {ty : TypeId} {R : Ending → World → Prop} {a : Act} {w : World} {b : Nat} {t : TypeId} {cs : Array Value} {d : TypeDesc} (h : fn.results = #[.cell p ty, .tmp u])
    (hp : a.tmps.getD p undef = .pointer (some ⟨b, 0, none⟩)) (hA : w.heap[b]? = some (.cells cs t (0, 0))) (hu : P.underlying ty = some d) (hag : (match d with | .struct _ | .array _ _ => true | _ => false) = true) (hi : (P.info? ty).map (·.size) = some cs.size) (hd : a.defers = [])
    (k : R (.returned (.tuple #[.agg cs, a.tmps.getD u undef])) w) : bodyPost P fn R .ret a w := by
  refine bodyPost_ret ?_ hd k
  rw [results_cell_tmp h, hp]
  simp only [asAddr, Sem.run_pure, Result.andThen_ok, run_loadVar_row w b t ty cs (0, 0) d hA hu hag hi]
theorem yields_load_row {P : Program} {ops : Array Oper} {S : World → Prop} {o : Oper} {a : Act} (hw : Region.wanted o (yielded ops a.tmps) = true) (ty : TypeId) (x : Operand) (ho : o.op = .load ty x) (b : Nat) (t : TypeId) (cs : Array Value) (d : TypeDesc)
    (hx : a.eval x = .pointer (some ⟨b, 0, none⟩)) (hS : ∀ w, S w → w.heap[b]? = some (.cells cs t (0, 0))) (hu : P.underlying ty = some d) (hag : (match d with | .struct _ | .array _ _ => true | _ => false) = true) (hi : (P.info? ty).map (·.size) = some cs.size) : YieldsIf P ops S o (.agg cs) a :=
  .inl ⟨hw, fun w h => by
    unfold execOp
    simp only [ho, hx, Instr.loadAt, Instr.sureAddr, Sem.run_bind, Sem.run_pure, Result.andThen_ok, run_loadVar_row w b t ty cs (0, 0) d (hS w h) hu hag hi]⟩
end Go.Proofs.Ytflfnaiklnbaiaa

/- Op: may an op stand, by the program. -/
namespace Go.Proofs.Ytflfnaiklnbaiaa
open Go.RowKit
set_option maxRecDepth 100000
theorem oshares_yes (n : Int) (w : World) (h : n = 2 ∨ n = 3) : Calls Try.prog 83 #[.int .i64 n] w fun e w' => e = .returned (.bool true) ∧ w' = w := by
  rcases h with rfl | rfl
  all_goals
    go_enter Try.func83, Try.ntmps83
    go_wp2
    go_ret
    exact ⟨rfl, rfl⟩
theorem oshares_no (n : Int) (w : World) (h : ¬ (n = 2 ∨ n = 3)) : Calls Try.prog 83 #[.int .i64 n] w fun e w' => e = .returned (.bool false) ∧ w' = w := by
  have g2 : (n == 2) = false := by simp; omega
  have g3 : (n == 3) = false := by simp; omega
  clear h
  go_enter Try.func83, Try.ntmps83
  go_wp2
  go_ret
  exact ⟨rfl, rfl⟩
theorem oiskind_yes (K : Int) (w : World) (h : 1 ≤ K) (h2 : K ≤ 12) : Calls Try.prog 82 #[.int .i64 K] w fun e w' => e = .returned (.bool true) ∧ w' = w := by
  have q1 : decide (1 ≤ K) = true := by simp [h]
  have q2 : decide (K ≤ 12) = true := by simp [h2]
  go_enter Try.func82, Try.ntmps82
  go_wp2
  go_ret
  exact ⟨rfl, rfl⟩
theorem oiskind_no (K : Int) (w : World) (h : K < 1 ∨ 12 < K) : Calls Try.prog 82 #[.int .i64 K] w fun e w' => e = .returned (.bool false) ∧ w' = w := by
  by_cases h1 : 1 ≤ K
  · have q1 : decide (1 ≤ K) = true := by simp [h1]
    have q2 : decide (K ≤ 12) = false := by simp; omega
    go_enter Try.func82, Try.ntmps82
    go_wp2
    go_ret
    exact ⟨rfl, rfl⟩
  · have q1 : decide (1 ≤ K) = false := by simp; omega
    go_enter Try.func82, Try.ntmps82
    go_wp2
    go_ret
    exact ⟨rfl, rfl⟩
set_option maxHeartbeats 6400000 in
theorem oregs_any (K n : Int) (w : World) (hn : n = 2 ∨ n = 3) : Calls Try.prog 89 #[.int .i64 K, .int .i64 n] w fun e w' => e = .returned (.int .i64 (rgN K n)) ∧ w' = w := by
  have HS := hid (oshares_yes n w hn)
  rcases kindsL K with rfl | rfl | rfl | rfl | rfl | rfl | rfl | rfl | rfl | rfl | rfl | rfl | h
  rotate_right
  · rw [rgN_zero h]
    have q2 : ¬ K = 2 := by omega
    have q5 : ¬ K = 5 := by omega
    have q6 : ¬ K = 6 := by omega
    have q7 : ¬ K = 7 := by omega
    have q8 : ¬ K = 8 := by omega
    have q9 : ¬ K = 9 := by omega
    have q10 : ¬ K = 10 := by omega
    have q11 : ¬ K = 11 := by omega
    have q12 : ¬ K = 12 := by omega
    clear h hn
    go_enter Try.func89, Try.ntmps89
    go_wp2_with (go_at_call 83; (with_reducible refine (HS.out).mono ?_); rintro e w1 ⟨rfl, rfl⟩)
    go_ret
    exact ⟨rfl, rfl⟩
  all_goals
    rcases hn with rfl | rfl
    all_goals
      simp only [rgN, reduceIte, Int.reduceEq]
      go_enter Try.func89, Try.ntmps89
      go_wp2_with (go_at_call 83; (with_reducible refine (HS.out).mono ?_); rintro e w1 ⟨rfl, rfl⟩)
      go_ret
      exact ⟨rfl, rfl⟩
/-- The op's block. -/
theorem obox (o : Op6) (w : World) : (w.alloc (.cells #[.int .i64 o.K, .int .i64 o.D, .int .i64 o.A, .int .i64 o.B, .int .i64 o.E, .int .u64 (o.C : Int)] 43)).heap[w.heap.size]? = some (.cells #[.int .i64 o.K, .int .i64 o.D, .int .i64 o.A, .int .i64 o.B, .int .i64 o.E, .int .u64 (o.C : Int)] 43 (0, 0)) := heap_alloc_new w _
theorem orc_any (o : Op6) (w : World) : Calls Try.prog 86 #[.agg #[.int .i64 o.K, .int .i64 o.D, .int .i64 o.A, .int .i64 o.B, .int .i64 o.E, .int .u64 (o.C : Int)]] w fun e w' => e = .returned (.bool (okC o.K o.C)) ∧ Below w.heap.size w w' := by
  obtain ⟨K, D, A, B, E, C⟩ := o
  simp only at *
  have HB : Hid (Below w.heap.size w (w.alloc (.cells #[.int .i64 K, .int .i64 D, .int .i64 A, .int .i64 B, .int .i64 E, .int .u64 (C : Int)] 43))) := hid ((Below.refl _ _).alloc (Nat.le_refl _) _)
  have e1 : decide ((C : Int) < 64) = decide (C < 64) := by congr 1; simp; omega
  have e2 : decide ((C : Int) < 1048576) = decide (C < 1048576) := by congr 1; simp; omega
  have e3 : ((C : Int) == 0) = decide (C = 0) := by rw [Bool.eq_iff_iff]; simp
  rcases kindsL K with rfl | rfl | rfl | rfl | rfl | rfl | rfl | rfl | rfl | rfl | rfl | rfl | h
  rotate_right
  · have hq : okC K C = decide (C = 0) := by
      unfold okC
      rw [if_neg (by omega), if_neg (by omega), if_neg (by omega)]
    rw [hq]
    have q2 : ¬ K = 2 := by omega
    have q3 : ¬ K = 3 := by omega
    have q4 : ¬ K = 4 := by omega
    have q8 : ¬ K = 8 := by omega
    have q9 : ¬ K = 9 := by omega
    have q10 : ¬ K = 10 := by omega
    have q11 : ¬ K = 11 := by omega
    clear h hq e1 e2
    generalize decide (C = 0) = b at *
    go_enter Try.func86, Try.ntmps86
    go_wp2
    go_ret
    exact ⟨by first | rfl | rw [e3], HB.out⟩
  all_goals
    simp only [okC, reduceIte, Int.reduceEq, or_true, true_or, or_self]
    go_enter Try.func86, Try.ntmps86
    go_wp2
    go_ret
    exact ⟨by first | rfl | rw [e1] | rw [e2] | rw [e3], HB.out⟩
/-- The domain, and the rest. -/
def okD (o : Op6) (n : Int) : Bool := if o.K = 12 then decide (o.D = -1) else decide (-1 ≤ o.D) && decide (o.D < n)
theorem okOp_parts (o : Op6) (at_ n : Int) (hK : 1 ≤ o.K ∧ o.K ≤ 12) (hn : n = 2 ∨ n = 3) : okOp o at_ n = (allB (rgB o at_ n) 3 && okD o n && okC o.K o.C) := by
  unfold okOp okH okD
  have e : decide ((n = 2 ∨ n = 3) ∧ 1 ≤ o.K ∧ o.K ≤ 12 ∧ -1 ≤ o.D ∧ o.D < n ∧ (o.K = 12 → o.D = -1)) = (if o.K = 12 then decide (o.D = -1) else decide (-1 ≤ o.D) && decide (o.D < n)) := by
    rw [Bool.eq_iff_iff]
    by_cases h : o.K = 12
    · rw [if_pos h]
      simp only [decide_eq_true_eq]
      constructor
      · rintro ⟨_, _, _, _, _, h6⟩; exact h6 h
      · intro h6; exact ⟨hn, hK.1, hK.2, by omega, by omega, fun _ => h6⟩
    · rw [if_neg h]
      simp only [decide_eq_true_eq, Bool.and_eq_true]
      constructor
      · rintro ⟨_, _, _, h4, h5, _⟩; exact ⟨h4, h5⟩
      · rintro ⟨h4, h5⟩; exact ⟨hn, hK.1, hK.2, h4, h5, fun h' => absurd h' h⟩
  rw [e, Bool.and_comm (if o.K = 12 then _ else _)]
theorem okOp_no (o : Op6) (at_ n : Int) (h : (o.K < 1 ∨ 12 < o.K) ∨ ¬ (n = 2 ∨ n = 3)) : okOp o at_ n = false := okH_no (by omega) at_
theorem ord_any (o : Op6) (n : Int) (w : World) : Calls Try.prog 85 #[.agg #[.int .i64 o.K, .int .i64 o.D, .int .i64 o.A, .int .i64 o.B, .int .i64 o.E, .int .u64 (o.C : Int)], .int .i64 n] w fun e w' => e = .returned (.bool (okD o n)) ∧ Below w.heap.size w w' := by
  obtain ⟨K, D, A, B, E, C⟩ := o
  have HB : Hid (Below w.heap.size w (w.alloc (.cells #[.int .i64 K, .int .i64 D, .int .i64 A, .int .i64 B, .int .i64 E, .int .u64 (C : Int)] 43))) := hid ((Below.refl _ _).alloc (Nat.le_refl _) _)
  unfold okD
  simp only at *
  by_cases h : K = 12
  · subst h
    have e1 : (D == -1) = decide (D = -1) := by rw [Bool.eq_iff_iff]; simp
    rw [if_pos rfl, ← e1]
    clear e1
    go_enter Try.func85, Try.ntmps85
    go_wp2
    go_ret
    exact ⟨rfl, HB.out⟩
  · rw [if_neg h]
    by_cases h1 : -1 ≤ D
    · have q1 : decide (-1 ≤ D) = true := decide_eq_true h1
      rw [q1, Bool.true_and]
      go_enter Try.func85, Try.ntmps85
      go_wp2
      go_ret
      exact ⟨rfl, HB.out⟩
    · have q1 : decide (-1 ≤ D) = false := decide_eq_false h1
      rw [q1, Bool.false_and]
      go_enter Try.func85, Try.ntmps85
      go_wp2
      go_ret
      exact ⟨rfl, HB.out⟩
theorem rgL_get (o : Op6) (j : Nat) (hj : j < 3) : (#[.int .i64 o.A, .int .i64 o.B, .int .i64 o.E] : Array Value)[j]? = some (.int .i64 (rgL o j)) := by
  rcases (by omega : j = 0 ∨ j = 1 ∨ j = 2) with rfl | rfl | rfl <;> rfl
theorem rgL_index (o : Op6) (j : Nat) (hj : j < 3) (w : World) : (Instr.index 37 (.agg #[.int .i64 o.A, .int .i64 o.B, .int .i64 o.E]) (.int .i64 (j : Int))).run Try.prog w = .ok (.int .i64 (rgL o j)) w :=
  run_index_num w 37 3 3 _ j _ Try.underlying37 Try.underlying3 (by kernel_rfl) hj (rgL_get o j hj)
set_option maxHeartbeats 6400000 in
theorem orr_any (o : Op6) (at_ n : Int) (w : World) (hn : n = 2 ∨ n = 3) : Calls Try.prog 84 #[.agg #[.int .i64 o.K, .int .i64 o.D, .int .i64 o.A, .int .i64 o.B, .int .i64 o.E, .int .u64 (o.C : Int)], .int .i64 at_, .int .i64 n] w fun e w' => e = .returned (.bool (allB (rgB o at_ n) 3)) ∧ Below w.heap.size w w' := by
  have HX := hid (fun j hj w => rgL_index o j hj w)
  have HR := hid (fun w => oregs_any o.K n w hn)
  have HB : Hid (Below w.heap.size w (w.alloc (.cells #[.int .i64 o.K, .int .i64 o.D, .int .i64 o.A, .int .i64 o.B, .int .i64 o.E, .int .u64 (o.C : Int)] 43))) := hid ((Below.refl _ _).alloc (Nat.le_refl _) _)
  have HG : Hid (∀ j, rgB o at_ n j = if (j : Int) < rgN o.K n then decide (0 ≤ rgL o j ∧ rgL o j < at_) else decide (rgL o j = -1)) := hid (fun _ => rfl)
  have HA : Hid (∀ j, j < 3 → rgB o at_ n j = false → allB (rgB o at_ n) 3 = false) := hid (fun j hj h => allB_no hj h)
  have HT : Hid ((∀ j, j < 3 → rgB o at_ n j = true) → allB (rgB o at_ n) 3 = true) := hid allB_of
  generalize allB (rgB o at_ n) 3 = res at *
  generalize rgN o.K n = r at *
  generalize rgB o at_ n = gb at *
  clear hn
  go_enter Try.func84, Try.ntmps84
  go_wp2_with (go_at_call 89; (with_reducible refine (HR.out _).mono ?_); rintro e w1 ⟨rfl, rfl⟩)
  go_loop [21] (fun i => ∃ j : Nat, j ≤ 3 ∧ i = .int .i64 j ∧ ∀ k, k < j → gb k = true) (fun i => 3 - (intOf i).toNat)
  case atStart => exact ⟨0, by omega, rfl, fun k hk => by omega⟩
  case round =>
    obtain ⟨j, hj, rfl, hall⟩ := hrel
    have Hall := hid hall
    clear hall
    by_cases hlt : j < 3
    · have hidx := HX.out j hlt
      have hg := HG.out j
      have HAj := hid (HA.out j hlt)
      have j1 : (0 : Int) ≤ (j : Int) := by omega
      have j2 : (j : Int) < 3 := by omega
      generalize rgL o j = z at *
      by_cases hr : (j : Int) < r
      · rw [if_pos hr] at hg
        have hr2 : ¬ r ≤ (j : Int) := by omega
        by_cases z1 : z < 0
        · have Hf := hid (HAj.out (by rw [hg]; exact decide_eq_false (by omega)))
          clear hg
          go_wp2
          go_ret
          exact ⟨by rw [Hf.out]; rfl, HB.out⟩
        · by_cases z2 : at_ ≤ z
          · have Hf := hid (HAj.out (by rw [hg]; exact decide_eq_false (by omega)))
            clear hg
            go_wp2
            go_ret
            exact ⟨by rw [Hf.out]; rfl, HB.out⟩
          · have Hy : Hid (gb j = true) := hid (by rw [hg]; exact decide_eq_true (by omega))
            clear hg
            go_wp2
            go_round
            case rel => exact ⟨j + 1, by omega, by go_num, fun k hk => by
              by_cases e : k = j
              · subst e; exact Hy.out
              · exact Hall.out k (by omega)⟩
            case measure => simp [intOf]; omega
      · rw [if_neg hr] at hg
        have hr2 : r ≤ (j : Int) := by omega
        by_cases z1 : z = -1
        · have Hy : Hid (gb j = true) := hid (by rw [hg]; exact decide_eq_true z1)
          have zn : (z != -1) = false := by simp [z1]
          clear hg
          go_wp2
          go_round
          case rel => exact ⟨j + 1, by omega, by go_num, fun k hk => by
            by_cases e : k = j
            · subst e; exact Hy.out
            · exact Hall.out k (by omega)⟩
          case measure => simp [intOf]; omega
        · have Hf := hid (HAj.out (by rw [hg]; exact decide_eq_false z1))
          have zn : (z != -1) = true := by simp [z1]
          clear hg
          go_wp2
          go_ret
          exact ⟨by rw [Hf.out]; rfl, HB.out⟩
    · obtain rfl : j = 3 := by omega
      have Ht := hid (HT.out Hall.out)
      clear hlt hj
      go_wp2
      go_ret
      exact ⟨by rw [Ht.out]; rfl, HB.out⟩
theorem ocells {w : World} {b : Nat} {o : Op6} (h : w.heap[b]? = some (.cells #[.int .i64 o.K, .int .i64 o.D, .int .i64 o.A, .int .i64 o.B, .int .i64 o.E, .int .u64 (o.C : Int)] 43 (0, 0))) :
    w.cell? ⟨b, 0, none⟩ = some (.int .i64 o.K) ∧ w.cell? ⟨b, 1, none⟩ = some (.int .i64 o.D) ∧ w.cell? ⟨b, 2, none⟩ = some (.int .i64 o.A) ∧ w.cell? ⟨b, 3, none⟩ = some (.int .i64 o.B) ∧ w.cell? ⟨b, 4, none⟩ = some (.int .i64 o.E) ∧ w.cell? ⟨b, 5, none⟩ = some (.int .u64 (o.C : Int)) :=
  ⟨by rw [cell_of_row w _ 0 _ _ _ h]; rfl, by rw [cell_of_row w _ 1 _ _ _ h]; rfl, by rw [cell_of_row w _ 2 _ _ _ h]; rfl, by rw [cell_of_row w _ 3 _ _ _ h]; rfl, by rw [cell_of_row w _ 4 _ _ _ h]; rfl, by rw [cell_of_row w _ 5 _ _ _ h]; rfl⟩
theorem oright_head (o : Op6) (at_ : Nat) (n : Int) (w : World) (h : (o.K < 1 ∨ 12 < o.K) ∨ ¬ (n = 2 ∨ n = 3)) : Calls Try.prog 78 #[.agg #[.int .i64 o.K, .int .i64 o.D, .int .i64 o.A, .int .i64 o.B, .int .i64 o.E, .int .u64 (o.C : Int)], .int .i64 (at_ : Int), .int .i64 n] w fun e w' => e = .returned (.bool false) ∧ Below w.heap.size w w' := by
  have HB : Hid (Below w.heap.size w (w.alloc (.cells #[.int .i64 o.K, .int .i64 o.D, .int .i64 o.A, .int .i64 o.B, .int .i64 o.E, .int .u64 (o.C : Int)] 43))) := hid ((Below.refl _ _).alloc (Nat.le_refl _) _)
  by_cases hk : o.K < 1 ∨ 12 < o.K
  · have HI := hid (fun w => oiskind_no o.K w hk)
    clear h hk
    go_enter Try.func78, Try.ntmps78
    go_wp2_with (go_at_call 82; (with_reducible refine (HI.out _).mono ?_); rintro e w1 ⟨rfl, rfl⟩)
    go_ret
    exact ⟨rfl, HB.out⟩
  · have HI := hid (fun w => oiskind_yes o.K w (by omega) (by omega))
    have HS := hid (fun w => oshares_no n w (by omega))
    clear h hk
    go_enter Try.func78, Try.ntmps78
    go_wp2_with (first | (go_at_call 82; (with_reducible refine (HI.out _).mono ?_); rintro e w1 ⟨rfl, rfl⟩) | (go_at_call 83; (with_reducible refine (HS.out _).mono ?_); rintro e w1 ⟨rfl, rfl⟩))
    go_ret
    exact ⟨rfl, HB.out⟩
set_option maxHeartbeats 6400000 in
theorem oright_body (o : Op6) (at_ : Nat) (n : Int) (w : World) (hK : 1 ≤ o.K ∧ o.K ≤ 12) (hn : n = 2 ∨ n = 3) : Calls Try.prog 78 #[.agg #[.int .i64 o.K, .int .i64 o.D, .int .i64 o.A, .int .i64 o.B, .int .i64 o.E, .int .u64 (o.C : Int)], .int .i64 (at_ : Int), .int .i64 n] w fun e w' => e = .returned (.bool (okOp o at_ n)) ∧ Below w.heap.size w w' := by
  rw [okOp_parts o at_ n hK hn]
  have HI := hid (fun w => oiskind_yes o.K w hK.1 hK.2)
  have HS := hid (fun w => oshares_yes n w hn)
  have HR := hid (fun w => orr_any o at_ n w hn)
  have HD := hid (fun w => ord_any o n w)
  have HC := hid (fun w => orc_any o w)
  have HB : Hid (Below w.heap.size w (w.alloc (.cells #[.int .i64 o.K, .int .i64 o.D, .int .i64 o.A, .int .i64 o.B, .int .i64 o.E, .int .u64 (o.C : Int)] 43))) := hid ((Below.refl _ _).alloc (Nat.le_refl _) _)
  have HX := hid (obox o w)
  have ha : (0 : Int) ≤ (at_ : Int) := by omega
  generalize allB (rgB o at_ n) 3 = b1 at *
  generalize okD o n = b2 at *
  generalize okC o.K o.C = b3 at *
  clear hK hn
  go_enter Try.func78, Try.ntmps78
  cases b1
  all_goals cases b2
  all_goals
    go_wp2_with (first
      | (go_at_call 82; (with_reducible refine (HI.out _).mono ?_); rintro e w1 ⟨rfl, rfl⟩)
      | (go_at_call 83; (with_reducible refine (HS.out _).mono ?_); rintro e w1 ⟨rfl, rfl⟩)
      | (go_at_call 84; (with_reducible refine (HR.out _).mono ?_); rintro e w2 ⟨rfl, hb⟩; have HX2 := hid ((hb.block _ (by simp)).trans HX.out); have HB2 := hid (HB.out.trans (hb.mono HB.out.size)); obtain ⟨d0, d1, d2, d3, d4, d5⟩ := ocells HX2.out; clear hb)
      | (go_at_call 85; (with_reducible refine (HD.out _).mono ?_); rintro e w3 ⟨rfl, hb⟩; have HX3 := hid ((hb.block _ (Array.getElem?_eq_some_iff.1 HX2.out).1).trans HX2.out); have HB3 := hid (HB2.out.trans (hb.mono HB2.out.size)); clear d0 d1 d2 d3 d4 d5; obtain ⟨d0, d1, d2, d3, d4, d5⟩ := ocells HX3.out; clear hb)
      | (go_at_call 86; (with_reducible refine (HC.out _).mono ?_); rintro e w4 ⟨rfl, hb⟩; have HB4 := hid (HB3.out.trans (hb.mono HB3.out.size)); clear hb))
  · go_ret
    exact ⟨rfl, HB2.out⟩
  · go_ret
    exact ⟨rfl, HB2.out⟩
  · go_ret
    exact ⟨rfl, HB3.out⟩
  · go_ret
    exact ⟨rfl, HB4.out⟩
theorem oright_any (o : Op6) (at_ : Nat) (n : Int) (w : World) : Calls Try.prog 78 #[.agg #[.int .i64 o.K, .int .i64 o.D, .int .i64 o.A, .int .i64 o.B, .int .i64 o.E, .int .u64 (o.C : Int)], .int .i64 (at_ : Int), .int .i64 n] w fun e w' => e = .returned (.bool (okOp o at_ n)) ∧ Below w.heap.size w w' := by
  by_cases h : (o.K < 1 ∨ 12 < o.K) ∨ ¬ (n = 2 ∨ n = 3)
  · rw [okOp_no o at_ n h]
    exact oright_head o at_ n w h
  · exact oright_body o at_ n w (by omega) (by omega)
end Go.Proofs.Ytflfnaiklnbaiaa

/- Op: what an op makes, by the document. -/
namespace Go.Proofs.Ytflfnaiklnbaiaa
open Go.RowKit

theorem rotl_rtw {x m : Nat} (hx : x < 2 ^ 64) : rotl (x : Int) m = (rt x m : Nat) := by
  unfold rotl rt
  have d : ((x : Int) / 2 ^ (64 - m)) = ((x / 2 ^ (64 - m) : Nat) : Int) := by simp
  have e : IntKind.u64.wrap ((x : Int) * 2 ^ m) = ((x * 2 ^ m % 2 ^ 64 : Nat) : Int) := by rw [IntKind.wrap_u64]; simp
  rw [e, d, bits_or_u64_nat _ _ (Nat.mod_lt _ (by decide)) (by have := Nat.div_le_self x (2 ^ (64 - m)); omega)]
theorem orot_n {x m : Nat} {k : Int} (hx : x < 2 ^ 64) (hk : k % 64 = m) (w : World) :
    Calls Try.prog 88 #[.int .u64 (x : Int), .int .i64 k] w fun e w' => e = .returned (.int .u64 (rt x m : Nat)) ∧ w' = w := by
  have h := orot_any (x : Int) k w (by omega)
  rw [show (k % 64).toNat = m by omega, rotl_rtw hx] at h
  exact h
theorem refrot_n {x m : Nat} {k : Int} (hx : x < 2 ^ 64) (hk : k % 64 = m) (w : World) :
    Calls Try.prog 51 #[.int .u64 (x : Int), .int .i64 k] w fun e w' => e = .returned (.int .u64 (rt x m : Nat)) ∧ w' = w := by
  have h := refrot_any (x : Int) k w (by omega)
  rw [show (k % 64).toNat = m by omega, ← rot_math _ (by omega) m (by omega), rotl_rtw hx] at h
  exact h
theorem rlow_n : ∀ n : Nat, n ≤ 64 → rlow n = ((2 ^ n - 1 : Nat) : Int) := by decide +kernel
theorem reflow_n (n : Nat) (w : World) (hn : n ≤ 64) :
    Calls Try.prog 52 #[.int .i64 (n : Int)] w fun e w' => e = .returned (.int .u64 ((2 ^ n - 1 : Nat) : Int)) ∧ w' = w := by
  have h := reflow_any (n : Int) w
  rw [show (min (max (n : Int) 0) 64).toNat = n by omega, rlow_n n hn] at h
  exact h
/-- An op, as it comes in. -/
abbrev opV (K D A B E : Int) (C : Nat) : Value := .agg #[.int .i64 K, .int .i64 D, .int .i64 A, .int .i64 B, .int .i64 E, .int .u64 (C : Int)]
set_option maxRecDepth 100000 in
set_option maxHeartbeats 1600000 in
theorem refev_any (K D A B E : Int) (C a b d x : Nat) (w : World) (hC : C < 2 ^ 64) (ha : a < 2 ^ 64) (hb : b < 2 ^ 64) (hd : d < 2 ^ 64) (hx : x < 2 ^ 64) :
    Calls Try.prog 34 #[opV K D A B E C, .int .u64 (a : Int), .int .u64 (b : Int), .int .u64 (d : Int), .int .u64 (x : Int)] w fun e w' => e = .returned (.int .u64 (evN K C a b d x : Nat)) ∧ Below w.heap.size w w' := by
  have HB : Hid (Below w.heap.size w (w.alloc (.cells #[.int .i64 K, .int .i64 D, .int .i64 A, .int .i64 B, .int .i64 E, .int .u64 (C : Int)] 43))) := hid ((Below.refl _ _).alloc (Nat.le_refl _) _)
  obtain ⟨k, hk⟩ : ∃ k, C % 64 = k := ⟨_, rfl⟩
  have hk64 : k < 64 := by omega
  have m1 : (C : Int).tmod 64 = (k : Int) := by rw [← hk]; rfl
  have m2 : IntKind.i64.wrap (k : Int) = (k : Int) := by rw [IntKind.wrap_i64]; omega
  obtain ⟨r, hr⟩ : ∃ r, 64 - k = r := ⟨_, rfl⟩
  have m3 : (64 : Int) - (k : Int) = (r : Int) := by omega
  have m4 : IntKind.i64.wrap (r : Int) = (r : Int) := by rw [IntKind.wrap_i64]; omega
  have HLo := hid (fun w => reflow_n r w (by omega))
  have HR9 := hid (fun w => refrot_n (x := a &&& (2 ^ r - 1)) (m := k) (k := (k : Int)) (an_lt ha) (by omega) w)
  have HR10 := hid (fun w => refrot_n (x := a) (m := r % 64) (k := (r : Int)) ha (by omega) w)
  have HR11 := hid (fun w => refrot_n (x := a) (m := k) (k := (k : Int)) ha (by omega) w)
  have e9 : rt (a &&& (2 ^ r - 1)) k = wsl a k := by subst hr; exact wsl_doc ha hk64
  have e10 : rt a (r % 64) &&& (2 ^ r - 1) = wsr a k := by subst hr; exact wsr_doc ha hk64 rfl
  have lr : 2 ^ r - 1 < 2 ^ 64 := low_lt (by omega)
  have x1 := wx64 hx ha
  have x2 := wx64 (xr_lt hx ha) hb
  have x3 := wx64 ha hb
  have x4 := wx64 (xr_lt ha hb) hd
  have a1 := wn64 ha hb
  have a2 := wn64 ha hC
  have a3 := wn64 ha lr
  have a4 := wn64 (rt_lt (m := r % 64) ha) lr
  rw [e9] at HR9
  rw [e10] at a4
  have n1 : (18446744073709551615 : Int) - (a : Int) = (wnt a : Nat) := by unfold wnt; omega
  have n2 : IntKind.u64.wrap (wnt a : Nat) = (wnt a : Nat) := by rw [IntKind.wrap_u64]; have := wnt_lt a; omega
  unfold evN
  rw [hk]
  clear hC ha hb hd hx hk hr e9 e10 lr
  generalize 2 ^ r - 1 = L at *
  generalize a &&& L = aL at *
  generalize wnt a = na at *
  generalize x ^^^ a = xa at *
  generalize xa ^^^ b = xab at *
  generalize a ^^^ b = ab at *
  generalize ab ^^^ d = abd at *
  generalize a &&& b = anb at *
  generalize a &&& C = anc at *
  generalize rt a (r % 64) = ra at *
  generalize rt a k = ral at *
  generalize wsl a k = asl at *
  generalize wsr a k = asr at *
  rcases kinds12 K with rfl | rfl | rfl | rfl | rfl | rfl | rfl | rfl | rfl | rfl | rfl | rfl | h
  rotate_right
  · rw [if_neg (by omega), if_neg (by omega), if_neg (by omega), if_neg (by omega), if_neg (by omega), if_neg (by omega), if_neg (by omega), if_neg (by omega), if_neg (by omega), if_neg (by omega), if_neg (by omega), if_neg (by omega)]
    have q1 : ¬ K = 1 := by omega
    have q2 : ¬ K = 2 := by omega
    have q3 : ¬ K = 3 := by omega
    have q4 : ¬ K = 4 := by omega
    have q5 : ¬ K = 5 := by omega
    have q6 : ¬ K = 6 := by omega
    have q7 : ¬ K = 7 := by omega
    have q8 : ¬ K = 8 := by omega
    have q9 : ¬ K = 9 := by omega
    have q10 : ¬ K = 10 := by omega
    have q11 : ¬ K = 11 := by omega
    have q12 : ¬ K = 12 := by omega
    clear h
    go_enter Try.func34, Try.ntmps34
    go_wp2
    go_ret
    exact ⟨rfl, HB.out⟩
  all_goals
    simp only [reduceIte, Int.reduceEq]
    go_enter Try.func34, Try.ntmps34
    go_wp2_with (first
      | (go_at_call 52; (with_reducible refine (HLo.out _).mono ?_); rintro e w1 ⟨rfl, rfl⟩)
      | (go_at_call 51; (with_reducible refine (HR9.out _).mono ?_); rintro e w1 ⟨rfl, rfl⟩)
      | (go_at_call 51; (with_reducible refine (HR10.out _).mono ?_); rintro e w1 ⟨rfl, rfl⟩)
      | (go_at_call 51; (with_reducible refine (HR11.out _).mono ?_); rintro e w1 ⟨rfl, rfl⟩))
    go_ret
    exact ⟨rfl, HB.out⟩
end Go.Proofs.Ytflfnaiklnbaiaa

/- Op: what an op makes, by the program. -/
namespace Go.Proofs.Ytflfnaiklnbaiaa
open Go.RowKit

set_option maxRecDepth 100000 in
set_option maxHeartbeats 1600000 in
theorem oev_any (K D A B E : Int) (C a b d x : Nat) (w : World) (hC : C < 2 ^ 64) (ha : a < 2 ^ 64) (hb : b < 2 ^ 64) (hd : d < 2 ^ 64) (hx : x < 2 ^ 64) :
    Calls Try.prog 80 #[opV K D A B E C, .int .u64 (a : Int), .int .u64 (b : Int), .int .u64 (d : Int), .int .u64 (x : Int)] w fun e w' => e = .returned (.int .u64 (evN K C a b d x : Nat)) ∧ Below w.heap.size w w' := by
  have HB : Hid (Below w.heap.size w (w.alloc (.cells #[.int .i64 K, .int .i64 D, .int .i64 A, .int .i64 B, .int .i64 E, .int .u64 (C : Int)] 43))) := hid ((Below.refl _ _).alloc (Nat.le_refl _) _)
  obtain ⟨k, hk⟩ : ∃ k, C % 64 = k := ⟨_, rfl⟩
  have hk64 : k < 64 := by omega
  have m1 : (C : Int).tmod 64 = (k : Int) := by rw [← hk]; rfl
  have m2 : IntKind.i64.wrap (k : Int) = (k : Int) := by rw [IntKind.wrap_i64]; omega
  have HR11 := hid (fun w => orot_n (x := a) (m := k) (k := (k : Int)) ha (by omega) w)
  have x1 := wx64 hx ha
  have x2 := wx64 (xr_lt hx ha) hb
  have x3 := wx64 ha hb
  have x4 := wx64 (xr_lt ha hb) hd
  have a1 := wn64 ha hb
  have a2 := wn64 ha hC
  have f6 : bits .xor .u64 IntKind.u64.max (a : Int) = (wnt a : Nat) := by
    have h := wx64 (a := 2 ^ 64 - 1) (b := a) (by decide) ha
    rw [show ((2 ^ 64 - 1 : Nat) : Int) = IntKind.u64.max from rfl] at h
    rw [h, wnt_max ha]
  have f9 : IntKind.u64.wrap ((a : Int) * 2 ^ k) = (wsl a k : Nat) := by rw [IntKind.wrap_u64]; unfold wsl; simp
  have f10 : (a : Int) / 2 ^ k = (wsr a k : Nat) := by unfold wsr; simp
  unfold evN
  rw [hk]
  clear hC ha hb hd hx hk
  generalize wnt a = na at *
  generalize x ^^^ a = xa at *
  generalize xa ^^^ b = xab at *
  generalize a ^^^ b = ab at *
  generalize ab ^^^ d = abd at *
  generalize a &&& b = anb at *
  generalize a &&& C = anc at *
  generalize rt a k = ral at *
  generalize wsl a k = asl at *
  generalize wsr a k = asr at *
  rcases kinds12 K with rfl | rfl | rfl | rfl | rfl | rfl | rfl | rfl | rfl | rfl | rfl | rfl | h
  rotate_right
  · rw [if_neg (by omega), if_neg (by omega), if_neg (by omega), if_neg (by omega), if_neg (by omega), if_neg (by omega), if_neg (by omega), if_neg (by omega), if_neg (by omega), if_neg (by omega), if_neg (by omega), if_neg (by omega)]
    have q1 : ¬ K = 1 := by omega
    have q2 : ¬ K = 2 := by omega
    have q3 : ¬ K = 3 := by omega
    have q4 : ¬ K = 4 := by omega
    have q5 : ¬ K = 5 := by omega
    have q6 : ¬ K = 6 := by omega
    have q7 : ¬ K = 7 := by omega
    have q8 : ¬ K = 8 := by omega
    have q9 : ¬ K = 9 := by omega
    have q10 : ¬ K = 10 := by omega
    have q11 : ¬ K = 11 := by omega
    have q12 : ¬ K = 12 := by omega
    clear h
    go_enter Try.func80, Try.ntmps80
    go_wp2
    go_ret
    exact ⟨rfl, HB.out⟩
  all_goals
    simp only [reduceIte, Int.reduceEq]
    go_enter Try.func80, Try.ntmps80
    go_wp2_with (first
      | (go_at_call 88; (with_reducible refine (HR11.out _).mono ?_); rintro e w1 ⟨rfl, rfl⟩))
    go_ret
    exact ⟨rfl, HB.out⟩
end Go.Proofs.Ytflfnaiklnbaiaa
