import Derived.Test.YtpjgpiieminaoaaDoorProg
import Derived.Test.YtpjgpiieminaoaaDoorOrw
import Derived.Deep.CutRange
import Derived.Deep.CutBlock
import Derived.Test.YtpjgpiieminaoaaDoorGen
import Derived.Laws.LoneSync
import Derived.WalkSpells
import Derived.Outline
import Derived.Deep.RegionHeld3
import Derived.Deep.DrawnRows
import Derived.Lib.SliceRun
import Derived.Laws.StructEq
/- Wire: the document's machine: an op is done. -/
namespace Go.Proofs.YtpjgpiieminaoaaDoor
open Go.RowKit
set_option maxRecDepth 100000
/-- On the way through Do: the machine, and the op's box. -/
structure Dz (lo : LoG) (b : Nat) (w wx : World) (S : Ms) (o : Op6) (ov bv vv tv : Value) : Prop where
  dm : Dm lo wx b S ov bv vv tv
  op : wx.heap[w.heap.size]? = some (.cells (opCs o) 52 (0, 0))
  tch : Tch (Ft b ov bv vv) w wx
  no : ¬ Ft b ov bv vv w.heap.size
section
variable {lo : LoG} {b : Nat} {w wx wy : World} {S S' : Ms} {o : Op6} {ov bv vv tv tv' : Value}
theorem Dz.step (h : Dz lo b w wx S o ov bv vv tv) (hd : Dm lo wy b S' ov bv vv tv') (ht : Tch (Ft b ov bv vv) wx wy) : Dz lo b w wy S' o ov bv vv tv' :=
  ⟨hd, (ht.block _ (Array.getElem?_eq_some_iff.1 h.op).1 h.no).trans h.op, h.tch.trans ht (fun _ _ f => f), h.no⟩
theorem Dz.self (h : Dz lo b w wx S o ov bv vv tv) (hb : Below wx.heap.size wx wy) : Dz lo b w wy S o ov bv vv tv := h.step (h.dm.self hb) (Tch.of_below hb)
theorem Dz.drew (h : Dz lo b w wx S o ov bv vv tv) : Dz lo b w wx.drew S o ov bv vv tv := h.self ((Below.refl _ _).drew)
theorem Dz.drewN (h : Dz lo b w wx S o ov bv vv tv) (n : Nat) : Dz lo b w (wx.drewN n) S o ov bv vv tv := h.self (below_drewN wx n)
theorem Dm.no (h : Dm lo w b S ov bv vv tv) : ¬ Ft b ov bv vv w.heap.size := by
  rintro (e | e | e | e)
  · have := h.lt; omega
  · have := (h.ops.lt _ e).2; omega
  · have := (h.bls.lt _ e).2; omega
  · have := (h.val.lt _ e).2; omega
theorem Dz.start (h : Dm lo w b S ov bv vv tv) (o : Op6) : Dz lo b w (w.alloc (.cells (opCs o) 52)) S o ov bv vv tv :=
  ⟨h.self ((Below.refl _ _).alloc (Nat.le_refl _) _), heap_alloc_new w _, Tch.of_below ((Below.refl _ _).alloc (Nat.le_refl _) _), h.no⟩
end
namespace Ms
def p1 (S : Ms) (o : Op6) : Ms := { S with used := if o.K = 1 ∧ S.dry = false then S.used + 1 else S.used, free := if o.K = 1 ∧ S.dry = false then S.free - 1 else S.free }
def p2 (S : Ms) (o : Op6) : Ms := { S.p1 o with draws := if o.K = 1 then S.draws + 1 else S.draws }
def p3 (S : Ms) (o : Op6) : Ms := { S.p2 o with words := if o.K = 2 then S.words + 1 else S.words }
end Ms
theorem Dm2.self {lo : LoG} {b LV : Nat} {w w' : World} {S : Ms} {ov bv vv tv : Value} (h : Dm2 lo w b S LV ov bv vv tv) (hb : Below w.heap.size w w') : Dm2 lo w' b S LV ov bv vv tv :=
  ⟨(hb.block b (Array.getElem?_eq_some_iff.1 h.blk).1).trans h.blk, h.lob, h.ops.stays fun k hk => hb.block k (h.ops.lt k hk).2, h.bls.stays fun k hk => hb.block k (h.bls.lt k hk).2,
   h.val.stays fun k hk => hb.block k (h.val.lt k hk).2, h.hob, h.hbb, h.hvb, h.hobv, h.hov, h.hbv, rds_self h.tap hb⟩
theorem Dm2.lt {lo : LoG} {b LV : Nat} {w : World} {S : Ms} {ov bv vv tv : Value} (h : Dm2 lo w b S LV ov bv vv tv) : b < w.heap.size := (Array.getElem?_eq_some_iff.1 h.blk).1
theorem Dm2.c {lo : LoG} {b LV : Nat} {w : World} {S : Ms} {ov bv vv tv : Value} (h : Dm2 lo w b S LV ov bv vv tv) (i : Nat) {u : Value} (hu : (dmC S ov bv vv tv)[i]? = some u) : w.cell? ⟨b, i, none⟩ = some u := by
  rw [cell_of_row w b i _ _ _ h.blk]; exact hu
end Go.Proofs.YtpjgpiieminaoaaDoor

/- General: a slice of acts (an int, an op, a word) that comes in. No program is named. -/
namespace Go.Proofs.YtpjgpiieminaoaaDoor
open Go.ChangeShapes Go.WideShapes Go.ChangeAt Go.RowKit Go.Deep

/-- An act. -/
structure Act8 where
  K : Int
  o : Op6
  X : Nat
def acwf (a : Act8) : Prop := (-9223372036854775808 ≤ a.K ∧ a.K ≤ 9223372036854775807) ∧ opwf a.o ∧ a.X < 18446744073709551616
/-- The cells of an act from offset n of block b on. -/
structure Ac (w : World) (q n : Nat) (a : Act8) : Prop where
  k : w.cell? ⟨q, n, none⟩ = some (.int .i64 a.K)
  o : Oc w q (n + 1) a.o
  x : w.cell? ⟨q, n + 7, none⟩ = some (.int .u64 (a.X : Int))
theorem Ac.self {w w' : World} {b n : Nat} {a : Act8} (h : Ac w b n a) (hb : Below w.heap.size w w') : Ac w' b n a :=
  ⟨tcell_self h.k hb, h.o.self hb, tcell_self h.x hb⟩
/-- v reads as the L acts f. -/
structure RAc (w : World) (v : Value) (L : Nat) (f : Nat → Act8) : Prop where
  lim : L ≤ 2300000000000
  wf : ∀ i, i < L → acwf (f i)
  at_ : ∃ a cap, v = .slice a L cap ∧ L ≤ cap ∧ cap ≤ maxLen ∧ (0 < L → ∃ b off, a = some ⟨b, off, none⟩ ∧ b < w.heap.size ∧ ∀ i, i < L → Ac w b (off + i * 8) (f i))
theorem RAc.self {w w' : World} {v : Value} {L : Nat} {f : Nat → Act8} (h : RAc w v L f) (hb : Below w.heap.size w w') : RAc w' v L f := by
  obtain ⟨a, cap, h1, h2, h3, h4⟩ := h.at_
  refine ⟨h.lim, h.wf, a, cap, h1, h2, h3, fun h0 => ?_⟩
  obtain ⟨b, off, e1, e2, e3⟩ := h4 h0
  exact ⟨b, off, e1, Nat.lt_of_lt_of_le e2 hb.size, fun i hi => (e3 i hi).self hb⟩
end Go.Proofs.YtpjgpiieminaoaaDoor

/- General: the machine as numbers: bounds, acts, a dry machine, a new one. No program is named. -/
namespace Go.Proofs.YtpjgpiieminaoaaDoor

namespace Ms
/-- What is opened. -/
def opR (S : Ms) (o : Op6) : Nat := if S.doR o < 0 then 0 else if S.dry = true then 18446744073709551615 else (S.doS o 0).v S.len
end Ms
/-- Bounds of a machine. -/
structure Bq (k : Nat) (S : Ms) : Prop where
  len : S.len ≤ k
  M : S.M ≤ k
  words : S.words ≤ k
  draws : S.draws ≤ k
  fr : S.fr ≤ k
  used : S.used ≤ 20000000000000
  free : S.free ≤ 20000000000000
  TN : S.TN ≤ 20000000000000
  v : ∀ i, i < S.L → S.v i < 2 ^ 64
  tw : ∀ i, i < S.TN → S.tw i < 2 ^ 64
  wet : S.dry = false → S.skip = 0
  ops : ∀ i, i < S.L → opwf (S.f i)
  sps : ∀ i, i < S.M → spwf (S.g i)
  kind : 0 ≤ S.kind ∧ S.kind ≤ 3
  n : -9223372036854775808 ≤ S.n ∧ S.n ≤ 9223372036854775807
  most : -9223372036854775808 ≤ S.most ∧ S.most ≤ 9223372036854775807
  e : S.e ≤ 4
theorem Bq.mono {k k' : Nat} {S : Ms} (h : Bq k S) (hk : k ≤ k') : Bq k' S :=
  ⟨Nat.le_trans h.len hk, Nat.le_trans h.M hk, Nat.le_trans h.words hk, Nat.le_trans h.draws hk, Nat.le_trans h.fr hk, h.used, h.free, h.TN, h.v, h.tw, h.wet, h.ops, h.sps, h.kind, h.n, h.most, h.e⟩
theorem Bq.fails {k : Nat} {S : Ms} (h : Bq k S) (e : Nat) (he : e ≤ 4) : Bq k { S with e := e } :=
  ⟨h.len, h.M, h.words, h.draws, h.fr, h.used, h.free, h.TN, h.v, h.tw, h.wet, h.ops, h.sps, h.kind, h.n, h.most, he⟩
theorem wordAt_lt {v : Nat → Nat} {L : Nat} (h : ∀ i, i < L → v i < 2 ^ 64) (r : Int) : wordAt v L r < 2 ^ 64 := by
  unfold wordAt
  split
  · rename_i hr; exact h _ (by omega)
  · decide
theorem Bq.does {k : Nat} {S : Ms} (h : Bq k S) {o : Op6} {x : Nat} (ho : opwf o) (hx : x < 2 ^ 64) : Bq (k + 1) (S.doS o x) := by
  unfold Ms.doS
  split
  · exact h.mono (by omega)
  · split
    · exact (h.fails 1 (by omega)).mono (by omega)
    · split
      · exact (h.fails 3 (by omega)).mono (by omega)
      · split
        · exact (h.fails 2 (by omega)).mono (by omega)
        · rename_i _ hb hf hout
          have hw : S.word o x < 2 ^ 64 := by
            unfold Ms.word
            split
            · rename_i e
              unfold Ms.out at hout
              rw [decide_eq_true e.1, e.2, Bool.not_false, Bool.true_and, Bool.true_and] at hout
              have h2 := of_decide_eq_false (Bool.not_eq_true _ ▸ hout)
              exact h.tw _ (by omega)
            · exact hx
          have hm : S.makes o x < 2 ^ 64 := evN_lt (by have := ho.2.2.2.2.2; omega) (wordAt_lt h.v _) (wordAt_lt h.v _) (wordAt_lt h.v _) hw
          have hl := h.len
          unfold Ms.len at hl
          refine ⟨by show S.skip + (S.L + 1) ≤ k + 1; omega, Nat.le_succ_of_le h.M, ?_, ?_, Nat.le_succ_of_le h.fr, ?_, ?_, h.TN, fun i hi => ?_, h.tw, h.wet, fun i hi => ?_, h.sps, h.kind, h.n, h.most, h.e⟩
          · show (if o.K = 2 then S.words + 1 else S.words) ≤ k + 1
            have := h.words
            split <;> omega
          · show (if o.K = 1 then S.draws + 1 else S.draws) ≤ k + 1
            have := h.draws
            split <;> omega
          · show (if o.K = 1 ∧ S.dry = false then S.used + 1 else S.used) ≤ 20000000000000
            have := h.used
            split
            · rename_i e
              unfold Ms.out at hout
              rw [decide_eq_true e.1, e.2, Bool.not_false, Bool.true_and, Bool.true_and] at hout
              have h2 := of_decide_eq_false (Bool.not_eq_true _ ▸ hout)
              have := h.TN
              omega
            · exact this
          · show (if o.K = 1 ∧ S.dry = false then S.free - 1 else S.free) ≤ 20000000000000
            have := h.free
            split <;> omega
          · show updN S.v S.L (S.makes o x) i < 2 ^ 64
            have hi' : i < S.L + 1 := hi
            by_cases e : i = S.L
            · subst e; rw [updN_at]; exact hm
            · rw [updN_no _ _ e]; exact h.v i (by omega)
          · show opwf (updO S.f S.L o i)
            have hi' : i < S.L + 1 := hi
            by_cases e : i = S.L
            · subst e; rw [updO_at]; exact ho
            · rw [updO_no _ _ e]; exact h.ops i (by omega)
theorem Bq.begins {k : Nat} {S : Ms} (h : Bq k S) (kd : Int) : Bq k (S.beginS kd) := by
  unfold Ms.beginS
  split
  · exact h
  · split
    · exact h.fails 1 (by omega)
    · rename_i _ e
      exact ⟨h.len, h.M, h.words, h.draws, h.len, h.used, h.free, h.TN, h.v, h.tw, h.wet, h.ops, h.sps, by show 0 ≤ kd ∧ kd ≤ 3; omega, h.n, h.most, h.e⟩
theorem Bq.ends {k : Nat} {S : Ms} (h : Bq k S) (hk : k ≤ 1000000) : Bq (k + 1) S.endS := by
  unfold Ms.endS
  split
  · exact h.mono (by omega)
  · split
    · exact (h.fails 1 (by omega)).mono (by omega)
    · have g : Bq (k + 1) { S with kind := 0 } := ⟨Nat.le_succ_of_le h.len, Nat.le_succ_of_le h.M, Nat.le_succ_of_le h.words, Nat.le_succ_of_le h.draws, Nat.le_succ_of_le h.fr, h.used, h.free, h.TN, h.v, h.tw, h.wet, h.ops, h.sps, by show (0 : Int) ≤ 0 ∧ (0 : Int) ≤ 3; decide, h.n, h.most, h.e⟩
      split
      · refine ⟨g.len, Nat.succ_le_succ h.M, g.words, g.draws, g.fr, h.used, h.free, h.TN, h.v, h.tw, h.wet, h.ops, fun i hi => ?_, g.kind, h.n, h.most, h.e⟩
        show spwf (updS S.g S.M ⟨S.kind, (S.fr : Int), (S.len : Int)⟩ i)
        have hi' : i < S.M + 1 := hi
        by_cases e : i = S.M
        · subst e
          rw [updS_at]
          have h1 := h.kind
          have h2 := h.fr
          have h3 := h.len
          exact ⟨by show _ ≤ S.kind ∧ S.kind ≤ _; omega, by show _ ≤ (S.fr : Int) ∧ (S.fr : Int) ≤ _; omega, by show _ ≤ (S.len : Int) ∧ (S.len : Int) ≤ _; omega⟩
        · rw [updS_no _ _ e]; exact h.sps i (by omega)
      · exact g
theorem doR_yes {S : Ms} {o : Op6} (h : ¬ S.doR o < 0) : S.doR o = (S.len : Int) ∧ ∀ x, S.doS o x = S.put o x := by
  unfold Ms.doR at h ⊢
  by_cases e : S.e ≠ 0 ∨ S.bad o = true ∨ S.full = true ∨ S.out o = true
  · rw [if_pos e] at h; exact absurd (by decide) h
  · rw [if_neg e]
    refine ⟨rfl, fun x => ?_⟩
    unfold Ms.doS
    rw [if_neg (fun q => e (.inl q)), if_neg (fun q => e (.inr (.inl q))), if_neg (fun q => e (.inr (.inr (.inl q)))), if_neg (fun q => e (.inr (.inr (.inr q))))]
theorem doS_n (S : Ms) (o : Op6) (x : Nat) : (S.doS o x).n = S.n := by
  unfold Ms.doS
  repeat' split
  all_goals rfl
theorem doS_tw (S : Ms) (o : Op6) (x : Nat) : (S.doS o x).tw = S.tw := by
  unfold Ms.doS
  repeat' split
  all_goals rfl
theorem beginS_n (S : Ms) (k : Int) : (S.beginS k).n = S.n ∧ (S.beginS k).tw = S.tw ∧ (S.beginS k).TN = S.TN := by
  unfold Ms.beginS
  repeat' split
  all_goals exact ⟨rfl, rfl, rfl⟩
end Go.Proofs.YtpjgpiieminaoaaDoor

/- Wire: what the program's machine must tell, whatever it is made of. -/
namespace Go.Proofs.YtpjgpiieminaoaaDoor
open Go.RowKit
set_option maxRecDepth 100000
/-- What a method of the program's machine leaves. -/
def PmR (Pm : World → Nat → Ms → (Nat → Prop) → Prop) (b : Nat) (S' : Ms) (F : Nat → Prop) (w w' : World) : Prop := ∃ F', Pm w' b S' F' ∧ Tch F w w' ∧ ∀ k, F' k → F k ∨ w.heap.size ≤ k
/-- What is kept of ops and blocks: nothing by a dry machine. -/
def Ms.keep (S : Ms) (n : Nat) : Nat := if S.dry = true then 0 else n
/-- The program's machine: Pm w b S F: in w block b holds it, S its numbers, F the blocks that it owns. -/
structure Mach (Pm : World → Nat → Ms → (Nat → Prop) → Prop) : Prop where
  stays : ∀ {w w' : World} {b : Nat} {S : Ms} {F : Nat → Prop}, Pm w b S F → w.heap.size ≤ w'.heap.size → (∀ k, F k → w'.heap[k]? = w.heap[k]?) → Pm w' b S F
  lt : ∀ {w : World} {b : Nat} {S : Ms} {F : Nat → Prop}, Pm w b S F → ∀ k, F k → k < w.heap.size
  do_ : ∀ (b k : Nat) (S : Ms) (F : Nat → Prop) (o : Op6) (x : Nat) (w : World), Pm w b S F → Bq k S → k ≤ 1000000 → opwf o → x < 2 ^ 64 → Calls Tryd.prog 42 #[.pointer (some ⟨b, 0, none⟩), .agg (opCs o), .int .u64 (x : Int)] w fun e w' => e = .returned (.int .i64 (S.doR o)) ∧ PmR Pm b (S.doS o x) F w w'
  rand : ∀ (b k : Nat) (S : Ms) (F : Nat → Prop) (dom : Int) (w : World), Pm w b S F → Bq k S → k ≤ 1000000 → opwf ⟨1, dom, -1, -1, -1, 0⟩ → Calls Tryd.prog 22 #[.pointer (some ⟨b, 0, none⟩), .int .i64 dom] w fun e w' => e = .returned (.int .i64 (S.doR ⟨1, dom, -1, -1, -1, 0⟩)) ∧ PmR Pm b (S.doS ⟨1, dom, -1, -1, -1, 0⟩ 0) F w w'
  key : ∀ (b k : Nat) (S : Ms) (F : Nat → Prop) (x : Nat) (p q : Int) (w : World), Pm w b S F → Bq k S → k ≤ 1000000 → opwf ⟨2, 0, p, q, -1, S.words⟩ → x < 2 ^ 64 → Calls Tryd.prog 23 #[.pointer (some ⟨b, 0, none⟩), .int .u64 (x : Int), .int .i64 p, .int .i64 q] w fun e w' => e = .returned (.int .i64 (S.doR ⟨2, 0, p, q, -1, S.words⟩)) ∧ PmR Pm b (S.doS ⟨2, 0, p, q, -1, S.words⟩ x) F w w'
  const_ : ∀ (b k : Nat) (S : Ms) (F : Nat → Prop) (dom : Int) (c : Nat) (w : World), Pm w b S F → Bq k S → k ≤ 1000000 → opwf ⟨3, dom, -1, -1, -1, c⟩ → Calls Tryd.prog 26 #[.pointer (some ⟨b, 0, none⟩), .int .i64 dom, .int .u64 (c : Int)] w fun e w' => e = .returned (.int .i64 (S.doR ⟨3, dom, -1, -1, -1, c⟩)) ∧ PmR Pm b (S.doS ⟨3, dom, -1, -1, -1, c⟩ 0) F w w'
  two : ∀ (b k : Nat) (S : Ms) (F : Nat → Prop) (kd dom p q : Int) (w : World), Pm w b S F → Bq k S → k ≤ 1000000 → opwf ⟨kd, dom, p, q, -1, 0⟩ → Calls Tryd.prog 81 #[.pointer (some ⟨b, 0, none⟩), .int .i64 kd, .int .i64 dom, .int .i64 p, .int .i64 q] w fun e w' => e = .returned (.int .i64 (S.doR ⟨kd, dom, p, q, -1, 0⟩)) ∧ PmR Pm b (S.doS ⟨kd, dom, p, q, -1, 0⟩ 0) F w w'
  one : ∀ (b k : Nat) (S : Ms) (F : Nat → Prop) (kd dom p : Int) (c : Nat) (w : World), Pm w b S F → Bq k S → k ≤ 1000000 → opwf ⟨kd, dom, p, -1, -1, c⟩ → Calls Tryd.prog 49 #[.pointer (some ⟨b, 0, none⟩), .int .i64 kd, .int .i64 dom, .int .i64 p, .int .u64 (c : Int)] w fun e w' => e = .returned (.int .i64 (S.doR ⟨kd, dom, p, -1, -1, c⟩)) ∧ PmR Pm b (S.doS ⟨kd, dom, p, -1, -1, c⟩ 0) F w w'
  open_ : ∀ (b k : Nat) (S : Ms) (F : Nat → Prop) (p q r : Int) (w : World), Pm w b S F → Bq k S → k ≤ 1000000 → opwf ⟨12, -1, p, q, r, 0⟩ → Calls Tryd.prog 60 #[.pointer (some ⟨b, 0, none⟩), .int .i64 p, .int .i64 q, .int .i64 r] w fun e w' => e = .returned (.int .u64 (S.opR ⟨12, -1, p, q, r, 0⟩ : Nat)) ∧ PmR Pm b (S.doS ⟨12, -1, p, q, r, 0⟩ 0) F w w'
  begin_ : ∀ (b k : Nat) (S : Ms) (F : Nat → Prop) (kd : Int) (w : World), Pm w b S F → Bq k S → k ≤ 1000000 → Calls Tryd.prog 19 #[.pointer (some ⟨b, 0, none⟩), .int .i64 kd] w fun e w' => e = .returned (.tuple #[]) ∧ PmR Pm b (S.beginS kd) F w w'
  end_ : ∀ (b k : Nat) (S : Ms) (F : Nat → Prop) (w : World), Pm w b S F → Bq k S → k ≤ 1000000 → Calls Tryd.prog 24 #[.pointer (some ⟨b, 0, none⟩)] w fun e w' => e = .returned (.tuple #[]) ∧ PmR Pm b S.endS F w w'
  n : ∀ (b k : Nat) (S : Ms) (F : Nat → Prop) (w : World), Pm w b S F → Bq k S → k ≤ 1000000 → Calls Tryd.prog 40 #[.pointer (some ⟨b, 0, none⟩)] w fun e w' => e = .returned (.int .i64 S.n) ∧ Below w.heap.size w w'
  err : ∀ (b k : Nat) (S : Ms) (F : Nat → Prop) (w : World), Pm w b S F → Bq k S → k ≤ 1000000 → Calls Tryd.prog 8 #[.pointer (some ⟨b, 0, none⟩)] w fun e w' => e = .returned (.int .i64 (S.e : Nat)) ∧ Below w.heap.size w w'
  trace : ∀ (b k : Nat) (S : Ms) (F : Nat → Prop) (w : World), Pm w b S F → Bq k S → k ≤ 1000000 → Calls Tryd.prog 10 #[.pointer (some ⟨b, 0, none⟩)] w fun e w' => ∃ v0 v1, e = .returned (.agg #[.int .i64 S.n, v0, v1]) ∧ ROp w' v0 (S.keep S.L) S.f ∧ RSp w' v1 (S.keep S.M) S.g ∧ Below w.heap.size w w'
  values : ∀ (b k : Nat) (S : Ms) (F : Nat → Prop) (w : World), Pm w b S F → Bq k S → k ≤ 1000000 → Calls Tryd.prog 12 #[.pointer (some ⟨b, 0, none⟩)] w fun e w' => ∃ v, e = .returned v ∧ Rd .u64 w' v (wdL S.v (S.keep S.L)) ∧ Below w.heap.size w w'
theorem row_c {w : World} {n i : Nat} {cs : Array Value} {T : TypeId} {u : Value} (h : w.heap[n]? = some (.cells cs T (0, 0))) (hu : cs[i]? = some u) : w.cell? ⟨n, i, none⟩ = some u := by
  rw [cell_of_row w n i _ _ _ h]; exact hu
theorem Dm.ftlt {lo : LoG} {b : Nat} {w : World} {S : Ms} {ov bv vv tv : Value} (h : Dm lo w b S ov bv vv tv) {k : Nat} (hk : Ft b ov bv vv k) : k < w.heap.size := by
  rcases hk with rfl | e | e | e
  · exact h.lt
  · exact (h.ops.lt k e).2
  · exact (h.bls.lt k e).2
  · exact (h.val.lt k e).2
theorem Dm.stays {lo : LoG} {b : Nat} {w w' : World} {S : Ms} {ov bv vv tv : Value} (h : Dm lo w b S ov bv vv tv) (hs : w.heap.size ≤ w'.heap.size) (ho : ∀ k, Ft b ov bv vv k → w'.heap[k]? = w.heap[k]?) (hg : ∀ k, lo.G k → k < w.heap.size → w'.heap[k]? = w.heap[k]?) : Dm lo w' b S ov bv vv tv :=
  ⟨(ho b (.inl rfl)).trans h.blk, h.lob, h.ops.stays fun k hk => ho k (.inr (.inl hk)), h.bls.stays fun k hk => ho k (.inr (.inr (.inl hk))), h.val.stays fun k hk => ho k (.inr (.inr (.inr hk))),
   h.hob, h.hbb, h.hvb, h.hobv, h.hov, h.hbv, rds_stays h.tap hs fun g hF hlt => hg g hF.2.2.2.2 hlt⟩
/-- Both machines, in one world: the program's with the numbers S1 in block p, the document's with S2 in block b; X: blocks that are neither's. -/
def Bz (Pm : World → Nat → Ms → (Nat → Prop) → Prop) (lo : Nat) (X : Nat → Prop) (W wx : World) (p b : Nat) (S1 S2 : Ms) : Prop :=
  ∃ F G ov bv vv tv, Pm wx p S1 F ∧ Dm ⟨lo, G⟩ wx b S2 ov bv vv tv ∧ (∀ k, F k → lo ≤ k ∧ ¬ Ft b ov bv vv k ∧ ¬ G k ∧ ¬ X k) ∧ (∀ k, X k → k < wx.heap.size ∧ ¬ Ft b ov bv vv k ∧ ¬ G k) ∧ (∀ k, G k → k < wx.heap.size) ∧ Below lo W wx ∧ lo ≤ wx.heap.size
section
variable {Pm : World → Nat → Ms → (Nat → Prop) → Prop} {lo : Nat} {X : Nat → Prop} {W wx wy : World} {p b : Nat} {S1 S2 S' : Ms}
theorem Bz.low (h : Bz Pm lo X W wx p b S1 S2) : Below lo W wx := by
  obtain ⟨_, _, _, _, _, _, _, _, _, _, _, h, _⟩ := h; exact h
theorem Bz.los (h : Bz Pm lo X W wx p b S1 S2) : lo ≤ wx.heap.size := by
  obtain ⟨_, _, _, _, _, _, _, _, _, _, _, _, h⟩ := h; exact h
theorem Bz.words (h : Bz Pm lo X W wx p b S1 S2) : wx.cell? ⟨b, 2, none⟩ = some (.int .i64 (S2.words : Int)) := by
  obtain ⟨F, G, ov, bv, vv, tv, h1, h2, _⟩ := h
  exact h2.c_words
theorem Bz.dry (h : Bz Pm lo X W wx p b S1 S2) : wx.cell? ⟨b, 14, none⟩ = some (.bool S2.dry) := by
  obtain ⟨F, G, ov, bv, vv, tv, h1, h2, _⟩ := h
  exact h2.c_dry
theorem Bz.vals (h : Bz Pm lo X W wx p b S1 S2) : ∃ a cap, wx.cell? ⟨b, 10, none⟩ = some (.slice a S2.L cap) ∧ (0 < S2.L → ∃ g, a = some ⟨g, 0, none⟩ ∧ ∀ i, i < S2.L → wx.cell? ⟨g, i, none⟩ = some (.int .u64 (S2.v i : Int))) := by
  obtain ⟨F, G, ov, bv, vv, tv, h1, h2, _⟩ := h
  obtain ⟨a, cap, rfl, hc⟩ := h2.vals
  exact ⟨a, cap, h2.c_vv, hc⟩
/-- New blocks alone. -/
theorem Bz.self (hM : Mach Pm) (h : Bz Pm lo X W wx p b S1 S2) (hb : Below wx.heap.size wx wy) : Bz Pm lo X W wy p b S1 S2 := by
  obtain ⟨F, G, ov, bv, vv, tv, h1, h2, h3, h4, h5, h6, h7⟩ := h
  exact ⟨F, G, ov, bv, vv, tv, hM.stays h1 hb.size (fun k hk => hb.block k (hM.lt h1 k hk)), h2.self hb, h3, fun k hk => ⟨Nat.lt_of_lt_of_le (h4 k hk).1 hb.size, (h4 k hk).2⟩, fun k hk => Nat.lt_of_lt_of_le (h5 k hk) hb.size, h6.trans (hb.mono h7), Nat.le_trans h7 hb.size⟩
theorem Bz.drew (hM : Mach Pm) (h : Bz Pm lo X W wx p b S1 S2) : Bz Pm lo X W wx.drew p b S1 S2 := h.self hM ((Below.refl _ _).drew)
/-- More blocks that are neither's. -/
theorem Bz.more (hM : Mach Pm) (h : Bz Pm lo X W wx p b S1 S2) (hb : Below wx.heap.size wx wy) : Bz Pm lo (fun k => X k ∨ wx.heap.size ≤ k ∧ k < wy.heap.size) W wy p b S1 S2 := by
  obtain ⟨F, G, ov, bv, vv, tv, h1, h2, h3, h4, h5, h6, h7⟩ := h
  refine ⟨F, G, ov, bv, vv, tv, hM.stays h1 hb.size (fun k hk => hb.block k (hM.lt h1 k hk)), h2.self hb, fun k hk => ⟨(h3 k hk).1, (h3 k hk).2.1, (h3 k hk).2.2.1, ?_⟩, fun k hk => ?_, fun k hk => Nat.lt_of_lt_of_le (h5 k hk) hb.size, h6.trans (hb.mono h7), Nat.le_trans h7 hb.size⟩
  · rintro (e | e)
    · exact (h3 k hk).2.2.2 e
    · have := hM.lt h1 k hk; omega
  · rcases hk with e | e
    · exact ⟨Nat.lt_of_lt_of_le (h4 k e).1 hb.size, (h4 k e).2⟩
    · exact ⟨e.2, fun f => by have := h2.ftlt f; omega, fun g => by have := h5 k g; omega⟩
/-- What is neither machine's is turned. -/
theorem Bz.apart (hM : Mach Pm) {H : Nat → Prop} (h : Bz Pm lo X W wx p b S1 S2) (hb : Tch H wx wy) (hH : ∀ k, H k → X k ∧ lo ≤ k) : Bz Pm lo X W wy p b S1 S2 := by
  obtain ⟨F, G, ov, bv, vv, tv, h1, h2, h3, h4, h5, h6, h7⟩ := h
  exact ⟨F, G, ov, bv, vv, tv, hM.stays h1 hb.size (fun k hk => hb.block k (hM.lt h1 k hk) (fun f => (h3 k hk).2.2.2 (hH k f).1)), h2.stays hb.size (fun k hk => hb.block k (h2.ftlt hk) (fun f => (h4 k (hH k f).1).2.1 hk)) (fun k hk hlt => hb.block k hlt (fun f => (h4 k (hH k f).1).2.2 hk)), h3, fun k hk => ⟨Nat.lt_of_lt_of_le (h4 k hk).1 hb.size, (h4 k hk).2⟩, fun k hk => Nat.lt_of_lt_of_le (h5 k hk) hb.size, h6.trans (hb.below (fun k f => (hH k f).2) h7), Nat.le_trans h7 hb.size⟩
/-- Fewer. -/
theorem Bz.less {Y : Nat → Prop} (h : Bz Pm lo X W wx p b S1 S2) (hY : ∀ k, Y k → X k) : Bz Pm lo Y W wx p b S1 S2 := by
  obtain ⟨F, G, ov, bv, vv, tv, h1, h2, h3, h4, h5, h6, h7⟩ := h
  exact ⟨F, G, ov, bv, vv, tv, h1, h2, fun k hk => ⟨(h3 k hk).1, (h3 k hk).2.1, (h3 k hk).2.2.1, fun e => (h3 k hk).2.2.2 (hY k e)⟩, fun k hk => h4 k (hY k hk), h5, h6, h7⟩
/-- The program's machine goes on. -/
theorem Bz.prog (_hM : Mach Pm) {F G : Nat → Prop} {p' : Nat} {ov bv vv tv : Value} (_h1 : Pm wx p S1 F) (h2 : Dm ⟨lo, G⟩ wx b S2 ov bv vv tv) (h3 : ∀ k, F k → lo ≤ k ∧ ¬ Ft b ov bv vv k ∧ ¬ G k ∧ ¬ X k) (h4 : ∀ k, X k → k < wx.heap.size ∧ ¬ Ft b ov bv vv k ∧ ¬ G k) (h5 : ∀ k, G k → k < wx.heap.size) (h6 : Below lo W wx) (h7 : lo ≤ wx.heap.size)
    (hr : PmR Pm p' S' F wx wy) : Bz Pm lo X W wy p' b S' S2 ∧ ∀ k, X k → wy.heap[k]? = wx.heap[k]? := by
  obtain ⟨F', g1, g2, g3⟩ := hr
  refine ⟨⟨F', G, ov, bv, vv, tv, g1, h2.stays g2.size (fun k hk => g2.block k (h2.ftlt hk) (fun f => (h3 k f).2.1 hk)) (fun k hk hlt => g2.block k hlt (fun f => (h3 k f).2.2.1 hk)), fun k hk => ?_, fun k hk => ⟨Nat.lt_of_lt_of_le (h4 k hk).1 g2.size, (h4 k hk).2⟩, fun k hk => Nat.lt_of_lt_of_le (h5 k hk) g2.size, h6.trans (g2.below (fun k f => (h3 k f).1) h7), Nat.le_trans h7 g2.size⟩, fun k hk => g2.block k (h4 k hk).1 (fun f => (h3 k f).2.2.2 hk)⟩
  rcases g3 k hk with f | f
  · exact h3 k f
  · exact ⟨by omega, fun e => by have := h2.ftlt e; omega, fun e => by have := h5 k e; omega, fun e => by have := (h4 k e).1; omega⟩
end
section
variable {Pm : World → Nat → Ms → (Nat → Prop) → Prop} (hM : Mach Pm) {lo : Nat} {X : Nat → Prop} {W w : World} {b bd k : Nat} {S S2 : Ms}
include hM
theorem zopen_ (p q r : Int) (h : Bz Pm lo X W w b bd S S2) (hq : Bq k S) (hk : k ≤ 1000000) (ho : opwf ⟨12, -1, p, q, r, 0⟩) :
    Calls Tryd.prog 60 #[.pointer (some ⟨b, 0, none⟩), .int .i64 p, .int .i64 q, .int .i64 r] w fun e w' => e = .returned (.int .u64 (S.opR ⟨12, -1, p, q, r, 0⟩ : Nat)) ∧ Bz Pm lo X W w' b bd (S.doS ⟨12, -1, p, q, r, 0⟩ 0) S2 ∧ ∀ k, X k → w'.heap[k]? = w.heap[k]? := by
  obtain ⟨F, G, ov, bv, vv, tv, h1, h2, h3, h4, h5, h6, h7⟩ := h
  exact (hM.open_ b k S F p q r w h1 hq hk ho).mono fun e w' hr => ⟨hr.1, Bz.prog hM h1 h2 h3 h4 h5 h6 h7 hr.2⟩
end
end Go.Proofs.YtpjgpiieminaoaaDoor

namespace Go.Proofs.YtpjgpiieminaoaaDoor
open Go.RowKit

/-- The atomic number, read and added to. -/
theorem aload_any (b o : Nat) (x : Int) (w : World) (hc : w.cell? ⟨b, o, none⟩ = some (.int .i64 x)) :
    Calls Tryd.prog 48 #[.pointer (some ⟨b, o, none⟩)] w fun e w' => e = .returned (.int .i64 x) ∧ w = w' := by
  have hl := run_call_load (P := Tryd.prog) Tryd.func55 (by kernel_rfl) (by kernel_rfl) (by kernel_rfl) .i64 (by kernel_rfl) hc
  go_enter Tryd.func48, Tryd.ntmps48
  go_wp2
  go_ret
  exact ⟨rfl, rfl⟩

theorem aadd_any (b o : Nat) (x : Int) (w : World) (hc : w.cell? ⟨b, o, none⟩ = some (.int .i64 x)) (hz : w.frozen? ⟨b, o, none⟩ = false) (h0 : 0 ≤ x) (h1 : x < 9223372036854775807) :
    Calls Tryd.prog 79 #[.pointer (some ⟨b, o, none⟩), .int .i64 1] w fun e w' => e = .returned (.int .i64 (x + 1)) ∧ w' = w.setCell ⟨b, o, none⟩ (.int .i64 (x + 1)) := by
  have hl := run_call_add (P := Tryd.prog) Tryd.func82 (by kernel_rfl) (by kernel_rfl) (by kernel_rfl) .i64 (by kernel_rfl) (y := 1) (s := x + 1) hc hz (by simp [go_sem]; rw [IntWalk.i64_in _ (by omega)])
  go_enter Tryd.func79, Tryd.ntmps79
  go_wp2
  go_ret
  exact ⟨rfl, rfl⟩

end Go.Proofs.YtpjgpiieminaoaaDoor

namespace Go.Proofs.YtpjgpiieminaoaaDoor
open Go.RowKit

/-! ### a slice whose cells lie in a block of a kind -/
/-! ### a tape -/
/-- At block b lies a tape: of the words zs d were drawn, and it may be drawn up to e. It and its words lie in the blocks from lo to hi. -/
def TapeAt (w : World) (lo hi b : Nat) (zs : List Int) (d e : Nat) : Prop :=
  ∃ wv, w.heap[b]? = some (.cells #[wv, .int .i64 d, .int .i64 e] 85 (0, 0)) ∧ RdS .u64 w (fun g => lo ≤ g ∧ g < hi ∧ g ≠ b) wv zs ∧ d ≤ e ∧ e ≤ zs.length ∧ lo ≤ b ∧ b < hi ∧ hi ≤ w.heap.size

theorem TapeAt.lt {w : World} {lo hi b : Nat} {zs : List Int} {d e : Nat} (h : TapeAt w lo hi b zs d e) : lo ≤ b ∧ b < hi ∧ hi ≤ w.heap.size := by
  obtain ⟨_, _, _, _, _, h⟩ := h; exact h
theorem TapeAt.only {w w' : World} {lo hi b c : Nat} {zs : List Int} {d e : Nat} (h : TapeAt w lo hi b zs d e) (o : Only c w w') (hn : c < lo ∨ hi ≤ c) : TapeAt w' lo hi b zs d e := by
  obtain ⟨wv, hb, hr, h3, h4, h5, h6, h7⟩ := h
  exact ⟨wv, (o.block b (by omega) (by omega)).trans hb, hr.only o (fun g hg => by omega), h3, h4, h5, h6, Nat.le_trans h7 o.size⟩
theorem TapeAt.below {w w' : World} {lo hi b : Nat} {zs : List Int} {d e : Nat} (h : TapeAt w lo hi b zs d e) (o : Below w.heap.size w w') : TapeAt w' lo hi b zs d e := by
  obtain ⟨wv, hb, hr, h3, h4, h5, h6, h7⟩ := h
  exact ⟨wv, (o.block b (by omega)).trans hb, hr.below o, h3, h4, h5, h6, Nat.le_trans h7 o.size⟩
theorem TapeAt.drew {w : World} {lo hi b : Nat} {zs : List Int} {d e : Nat} (h : TapeAt w lo hi b zs d e) : TapeAt w.drew lo hi b zs d e := h.below ((Below.refl _ _).drew)
theorem TapeAt.drewN {w : World} {lo hi b : Nat} {zs : List Int} {d e : Nat} (h : TapeAt w lo hi b zs d e) (n : Nat) : TapeAt (w.drewN n) lo hi b zs d e := h.below ⟨rfl, rfl, rfl, Nat.le_refl _, fun _ _ => rfl⟩
theorem TapeAt.len {w : World} {lo hi b : Nat} {zs : List Int} {d e : Nat} (h : TapeAt w lo hi b zs d e) : d ≤ e ∧ e ≤ zs.length ∧ zs.length ≤ 17592186043904 := by
  obtain ⟨_, _, ⟨_, _, _, _, _, h, _⟩, h1, h2, _⟩ := h
  refine ⟨h1, h2, ?_⟩
  simp [IntKind.bits] at h; omega

theorem TapeAt.setD {w : World} {lo hi b : Nat} {zs : List Int} {d e : Nat} (h : TapeAt w lo hi b zs d e) (d' : Nat) (hd : d' ≤ e) : TapeAt (w.setCell ⟨b, 1, none⟩ (.int .i64 d')) lo hi b zs d' e := by
  obtain ⟨wv, hb, hr, h3, h4, h5, h6, h7⟩ := h
  exact ⟨wv, set3_1 hb, hr.only (Only.set (g := b) w (p := ⟨b, 1, none⟩) rfl _) (fun g hg => hg.2.2), hd, h4, h5, h6, by simpa [World.setCell] using h7⟩
theorem TapeAt.setE {w : World} {lo hi b : Nat} {zs : List Int} {d e : Nat} (h : TapeAt w lo hi b zs d e) (e' : Nat) (hd : d ≤ e') (he : e' ≤ zs.length) : TapeAt (w.setCell ⟨b, 2, none⟩ (.int .i64 e')) lo hi b zs d e' := by
  obtain ⟨wv, hb, hr, h3, h4, h5, h6, h7⟩ := h
  exact ⟨wv, set3_2 hb, hr.only (Only.set (g := b) w (p := ⟨b, 2, none⟩) rfl _) (fun g hg => hg.2.2), hd, he, h5, h6, by simpa [World.setCell] using h7⟩

/-! ### the tape's functions -/
theorem used_any (lo hi b : Nat) (zs : List Int) (d e : Nat) (w : World) (h : TapeAt w lo hi b zs d e) :
    Calls Tryd.prog 36 #[.pointer (some ⟨b, 0, none⟩)] w fun r w' => r = .returned (.int .i64 d) ∧ w = w' := by
  obtain ⟨wv, hb, hr, h3, h4, h5, h6, h7⟩ := h
  obtain ⟨c0, c1, c2, hz⟩ := cells3 hb
  have C1 := hid c1
  clear hb hr hz
  go_enter Tryd.func36, Tryd.ntmps36
  go_wp2_with (go_at_call 48; refine (aload_any b 1 d _ C1.out).mono ?_; rintro r w' ⟨rfl, rfl⟩)
  go_ret
  exact ⟨rfl, rfl⟩

end Go.Proofs.YtpjgpiieminaoaaDoor

namespace Go.Proofs.YtpjgpiieminaoaaDoor
open Go.RowKit

set_option maxHeartbeats 400000 in
theorem left_any (lo hi b : Nat) (zs : List Int) (d e : Nat) (w : World) (h : TapeAt w lo hi b zs d e) :
    Calls Tryd.prog 35 #[.pointer (some ⟨b, 0, none⟩)] w fun r w' => r = .returned (.int .i64 ((zs.length : Int) - d)) ∧ ∃ n, w' = w.drewN n := by
  have hl := h.len
  have H := hid h
  obtain ⟨wv, hb, hr, h3, h4, h5, h6, h7⟩ := h
  obtain ⟨a, cap, rfl, _⟩ := hr
  obtain ⟨c0, c1, c2, hz⟩ := cells3 hb
  have hl1 := hl.2.2
  clear hb hz c1 c2
  have hsub : IntKind.i64.wrap ((zs.length : Int) - d) = (zs.length : Int) - d := IntWalk.i64_in _ (by omega)
  go_enter Tryd.func35, Tryd.ntmps35
  go_wp2
  go_quiet ((go_at_call 36; exact Calls.quiet_of_same ((used_any lo hi b zs d e _ (H.out.drewN _)).mono fun _ _ ⟨a, b⟩ => ⟨a, b.symm⟩)))
  go_wp2
  go_ret
  exact ⟨rfl, _, rfl⟩

set_option maxHeartbeats 400000 in
theorem allowed_any (lo hi b : Nat) (zs : List Int) (d e : Nat) (w : World) (h : TapeAt w lo hi b zs d e) :
    Calls Tryd.prog 78 #[.pointer (some ⟨b, 0, none⟩)] w fun r w' => r = .returned (.int .i64 ((e : Int) - d)) ∧ ∃ n, w' = w.drewN n := by
  have hl := h.len
  have H := hid h
  obtain ⟨wv, hb, hr, h3, h4, h5, h6, h7⟩ := h
  obtain ⟨a, cap, rfl, _⟩ := hr
  obtain ⟨c0, c1, c2, hz⟩ := cells3 hb
  have hl1 := hl.2.2
  clear hb hz c1 c0
  have hsub : IntKind.i64.wrap ((e : Int) - d) = (e : Int) - d := IntWalk.i64_in _ (by omega)
  go_enter Tryd.func78, Tryd.ntmps78
  go_wp2
  go_quiet ((go_at_call 36; exact Calls.quiet_of_same ((used_any lo hi b zs d e _ (H.out.drewN _)).mono fun _ _ ⟨a, b⟩ => ⟨a, b.symm⟩)))
  go_wp2
  go_ret
  exact ⟨rfl, _, rfl⟩

theorem reserve_ok (lo hi b : Nat) (zs : List Int) (d e n : Nat) (w : World) (h : TapeAt w lo hi b zs d e) (ho : d + n ≤ zs.length) :
    Calls Tryd.prog 16 #[.pointer (some ⟨b, 0, none⟩), .int .i64 n] w fun r w' => r = .returned (.int .i64 0) ∧ TapeAt w' lo hi b zs d (d + n) ∧ Only b w w' := by
  have hl := h.len
  have H := hid h
  obtain ⟨wv, hb, hr, h3, h4, h5, h6, h7⟩ := h
  obtain ⟨c0, c1, c2, hz⟩ := cells3 hb
  have hz2 := hz 2
  clear hb hz c1 c0 hr
  have hn2 : ¬ ((zs.length : Int) - d < n) := by omega
  go_enter Tryd.func16, Tryd.ntmps16
  go_wp2_with (first
    | (go_at_call 35; refine (left_any lo hi b zs d e _ H.out).mono ?_; rintro r w' ⟨rfl, nq, rfl⟩)
    | (go_at_call 36; refine (used_any lo hi b zs d e _ (H.out.drewN _)).mono ?_; rintro r w' ⟨rfl, rfl⟩))
  go_ret
  exact ⟨rfl, by have := (H.out.drewN nq).setE (d + n) (by omega) (by omega); simpa using this, (Only.drewN b w nq).trans (Only.set (g := b) (w.drewN nq) (p := ⟨b, 2, none⟩) rfl _)⟩

theorem draw_none (lo hi b : Nat) (zs : List Int) (d e : Nat) (w : World) (h : TapeAt w lo hi b zs d e) (he : e ≤ d) :
    Calls Tryd.prog 73 #[.pointer (some ⟨b, 0, none⟩)] w fun r w' => r = .returned (.tuple #[.int .u64 0, .bool false]) ∧ ∃ n, w' = w.drewN n := by
  have hl := h.len
  have H := hid h
  clear h
  have e0 : ((e : Int) - d == 0) = true := by simp; omega
  go_enter Tryd.func73, Tryd.ntmps73
  go_wp2_with (go_at_call 78; refine (allowed_any lo hi b zs d e _ H.out).mono ?_; rintro r w' ⟨rfl, nq, rfl⟩)
  go_ret2
  exact ⟨rfl, _, rfl⟩

theorem aadd_tape (lo hi b : Nat) (zs : List Int) (d e : Nat) (w : World) (h : TapeAt w lo hi b zs d e) (he : d < e) :
    Calls Tryd.prog 79 #[.pointer (some ⟨b, 1, none⟩), .int .i64 1] w fun r w' => r = .returned (.int .i64 ((d : Int) + 1)) ∧ TapeAt w' lo hi b zs (d + 1) e ∧ Only b w w' ∧ w'.cell? ⟨b, 0, none⟩ = w.cell? ⟨b, 0, none⟩ := by
  have hl := h.len
  have H := hid h
  obtain ⟨wv, hb, hr, h3, h4, h5, h6, h7⟩ := h
  obtain ⟨c0, c1, c2, hz⟩ := cells3 hb
  refine (aadd_any b 1 d w c1 (hz 1) (by omega) (by omega)).mono ?_
  rintro r w' ⟨rfl, rfl⟩
  exact ⟨rfl, H.out.setD (d + 1) he, Only.set (g := b) w (p := ⟨b, 1, none⟩) rfl _, World.cell?_setCell_other _ _ _ _ (by simp)⟩

set_option maxHeartbeats 800000 in
theorem draw_some (lo hi b : Nat) (zs : List Int) (d e : Nat) (w : World) (h : TapeAt w lo hi b zs d e) (he : d < e) :
    Calls Tryd.prog 73 #[.pointer (some ⟨b, 0, none⟩)] w fun r w' => r = .returned (.tuple #[.int .u64 (nth zs d), .bool true]) ∧ TapeAt w' lo hi b zs (d + 1) e ∧ Only b w w' := by
  have hl := h.len
  have H := hid h
  obtain ⟨wv, hb, hr, h3, h4, h5, h6, h7⟩ := h
  obtain ⟨a, cap, rfl, hcap1, hcap2, _, _, hr0⟩ := hr
  obtain ⟨g, off, rfl, hg0, hg, hr⟩ := hr0 (by omega)
  obtain ⟨c0, c1, c2, hz⟩ := cells3 hb
  have hz1 := hz 1
  have hrd := hr d (by omega)
  have hbg : ¬ g = b := hg0.2.2
  have hbg2 : ¬ b = g := fun e => hg0.2.2 e.symm
  clear hb hz hr hr0
  have e0 : ((e : Int) - d == 0) = false := by simp; omega
  have hi0 : (0 : Int) ≤ (d : Int) := by omega
  have hi1 : (d : Int) < (zs.length : Int) := by omega
  have hw1 : IntKind.i64.wrap (d : Int) = (d : Int) := IntWalk.i64_in _ (by omega)
  go_enter Tryd.func73, Tryd.ntmps73
  go_wp2_with (go_at_call 78; refine (allowed_any lo hi b zs d e _ H.out).mono ?_; rintro r w' ⟨rfl, nq, rfl⟩)
  go_region_with (go_at_call 79; (with_reducible refine (aadd_tape lo hi b zs d e _ (H.out.drewN _) he).mono ?_); rintro r w1 ⟨rfl, ht, ho, hc1⟩; have hc01 := hc1.trans c0; have hrd1 := (ho.cell (p := ⟨g, off + d, none⟩) hg hbg).trans hrd; have HT := hid ht; have HO := hid ho.undrewN; clear ht ho hrd hc1)
  all_goals
    go_wp2
    go_ret2
    exact ⟨rfl, HT.out, HO.out⟩
end Go.Proofs.YtpjgpiieminaoaaDoor

namespace Go.Proofs.YtpjgpiieminaoaaDoor
open Go.RowKit

theorem info25 : (Tryd.prog.info? 22).map (fun i => (i.zero, i.size, i.bytes)) = some (some (.int .u64 0), 1, 8) := by kernel_rfl

def OwnRes (w : World) (zs : List Int) (r : Ending) (w' : World) : Prop := ∃ u, r = .returned u ∧ Own .u64 w.heap.size 22 w' u zs ∧ Below w.heap.size w w'

theorem clone_any (v : Value) (zs : List Int) (w : World) (h : Rd .u64 w v zs) : Calls Tryd.prog 34 #[v] w (OwnRes w zs) := by
  have HR := hid h
  obtain ⟨a, cap, rfl, hl, hz, hc⟩ := h
  have hn := fun (a : Option Addr) (n c : Nat) => Lib.run_eql_slice_nil (P := Tryd.prog) w 28 22 a n c 0 0 Tryd.underlying28
  clear hc hz
  cases a with
  | none =>
    have h0 : zs = [] := by
      apply List.eq_nil_of_length_eq_zero
      obtain ⟨_, _, _, _, _, h⟩ := HR.out
      rcases Nat.eq_zero_or_pos zs.length with h0 | h0
      · exact h0
      · obtain ⟨_, _, e, _⟩ := h h0
        simp_all
    have H0 := hid h0
    clear h0
    go_enter Tryd.func34, Tryd.ntmps34
    go_wp2
    go_ret
    exact ⟨_, rfl, by rw [H0.out]; exact own_nil _ _ _ _, Below.refl _ _⟩
  | some a =>
    have HLI : Hid ((([] : List Int).length + zs.length) * (IntKind.u64.bits / 8) ≤ 140737488355328) := hid (by simp [IntKind.bits] at hl ⊢; omega)
    have HZ := hid (HR.out.self ((Below.refl w.heap.size w).alloc (Nat.le_refl _) (.cells #[] 22)))
    clear hl
    go_enter Tryd.func34, Tryd.ntmps34
    go_wp2_with (refine wpList_append_rd rfl (.tmp 5) (.tmp 6) 28 rfl .u64 w.heap.size 22 Tryd.underlying28 info25 (by decide) _ [] rfl (own_empty w (Nat.le_refl _)) _ zs rfl HZ.out HLI.out (by simp) w.heap.size w ((Below.refl _ _).alloc (Nat.le_refl _) _) (Nat.le_refl _) ?_; intro u w1 hown hlow hsz1; rw [List.nil_append] at hown; have HO := hid hown; have HL := hid hlow; clear hown hlow)
    go_ret
    exact ⟨_, rfl, HO.out, HL.out⟩

def NewRes (w : World) (zs : List Int) (r : Ending) (w' : World) : Prop := ∃ b, r = .returned (.pointer (some ⟨b, 0, none⟩)) ∧ TapeAt w' w.heap.size w'.heap.size b zs 0 0 ∧ Below w.heap.size w w'

theorem new_any (v : Value) (zs : List Int) (w : World) (h : Rd .u64 w v zs) : Calls Tryd.prog 15 #[v] w (NewRes w zs) := by
  have HR := hid h
  have hl : zs.length * 8 ≤ 140737488351232 := by obtain ⟨_, _, _, h, _⟩ := h; simpa [IntKind.bits] using h
  have HWF := hid (wfs_of h)
  have HL := hid hl
  clear h hl
  go_enter Tryd.func15, Tryd.ntmps15
  go_wp2_with (go_at_call 34; refine (clone_any v zs _ HR.out).mono ?_; rintro r w1 ⟨u, rfl, hown, hlow⟩; obtain ⟨pa, cp, rfl, hq1, hq2⟩ := hown.slice; clear hq1 hq2; have HO := hid hown; have HB := hid hlow; clear hown hlow)
  go_ret
  refine ⟨w1.heap.size, rfl, ⟨_, heap_alloc_new w1 _, ?_, Nat.le_refl _, Nat.zero_le _, HB.out.size, by simp, Nat.le_refl _⟩, HB.out.alloc HB.out.size _⟩
  refine ((HO.out.rds (by have := HL.out; simpa [IntKind.bits] using this) HWF.out).imp fun g hg _ => ⟨hg.1, by simp; omega, by omega⟩).below ((Below.refl _ _).alloc (Nat.le_refl _) _)
end Go.Proofs.YtpjgpiieminaoaaDoor

/- Wire: the law's rows of words: a tape's words, rows that are alike. -/
namespace Go.Proofs.YtpjgpiieminaoaaDoor
open Go.RowKit
set_option maxRecDepth 100000
/-- The words that a tape is made of. -/
structure Lcg (T : Nat → Nat) : Prop where
  z : T 0 = 1
  s : ∀ i, T (i + 1) = (T i * 6364136223846793005 + 1442695040888963407) % 18446744073709551616
theorem Lcg.lt {T : Nat → Nat} (h : Lcg T) : ∀ i, T i < 18446744073709551616
  | 0 => by rw [h.z]; decide
  | i + 1 => by rw [h.s]; exact Nat.mod_lt _ (by decide)
end Go.Proofs.YtpjgpiieminaoaaDoor

/- Wire: the document's machine: a new one, a trace of it. -/
namespace Go.Proofs.YtpjgpiieminaoaaDoor
open Go.RowKit
set_option maxRecDepth 100000
/-- A new machine. -/
def startS (n most : Int) (tw : Nat → Nat) (TN free : Nat) : Ms :=
  ⟨n, most, 0, 0, 0, 0, 0, 0, 0, fun _ => ⟨0, 0, 0, 0, 0, 0⟩, 0, fun _ => ⟨0, 0, 0⟩, fun _ => 0, tw, TN, 0, free, false⟩
theorem orw_nil (w : World) (B : Nat) (E : TypeId) (k : Nat) (c : Nat → List Value) : Orw w B E k (.slice none 0 0) 0 c := ⟨by simp [recs], .inl ⟨rfl, rfl⟩⟩
theorem dnew_any (lo : LoG) (n most : Int) (tw : Nat → Nat) (TN : Nat) (v : Value) (w : World) (h : RdS .u64 w lo.G v (wdL tw TN)) (hlo : lo.lo ≤ w.heap.size) :
    Calls Tryd.prog 18 #[.int .i64 n, v, .int .i64 most] w fun e w' => e = .returned (.pointer (some ⟨w.heap.size, 0, none⟩)) ∧ Dm lo w' w.heap.size (startS n most tw TN TN) (.slice none 0 0) (.slice none 0 0) (.slice none 0 0) v ∧ Below w.heap.size w w' := by
  obtain ⟨a, cap, rfl, h2⟩ := id h
  rw [wdL_len] at h
  have HN : Hid (Dm lo (w.alloc (.cells (dmC (startS n most tw TN TN) (.slice none 0 0) (.slice none 0 0) (.slice none 0 0) (.slice a TN cap)) 90)) w.heap.size (startS n most tw TN TN) (.slice none 0 0) (.slice none 0 0) (.slice none 0 0) (.slice a TN cap)) := hid ⟨heap_alloc_new _ _, hlo, orw_nil _ _ _ _ _, orw_nil _ _ _ _ _, orw_nil _ _ _ _ _, by simp [Value.ownBlock], by simp [Value.ownBlock], by simp [Value.ownBlock], by simp [Value.ownBlock], by simp [Value.ownBlock], by simp [Value.ownBlock], by
    show RdS .u64 _ _ _ (wdL (fun i => tw (0 + i)) (TN - 0))
    have e : (fun i => tw (0 + i)) = tw := funext fun i => by rw [Nat.zero_add]
    rw [e, Nat.sub_zero]
    have h3 := h.imp (T := fun g => g ≠ w.heap.size ∧ (Value.slice none 0 0).ownBlock ≠ some g ∧ (Value.slice none 0 0).ownBlock ≠ some g ∧ (Value.slice none 0 0).ownBlock ≠ some g ∧ lo.G g) (fun g hg hlt => ⟨by omega, by simp [Value.ownBlock], by simp [Value.ownBlock], by simp [Value.ownBlock], hg⟩)
    exact rds_self h3 ((Below.refl _ _).alloc (Nat.le_refl _) _)⟩
  have HB : Hid (Below w.heap.size w (w.alloc (.cells (dmC (startS n most tw TN TN) (.slice none 0 0) (.slice none 0 0) (.slice none 0 0) (.slice a TN cap)) 90))) := hid ((Below.refl _ _).alloc (Nat.le_refl _) _)
  rw [wdL_len]
  clear h h2
  go_enter Tryd.func18, Tryd.ntmps18
  go_wp2
  go_ret
  exact ⟨rfl, HN.out, HB.out⟩
end Go.Proofs.YtpjgpiieminaoaaDoor

/- Wire: traces held against each other, by the document; only such as are alike. -/
namespace Go.Proofs.YtpjgpiieminaoaaDoor
open Go.RowKit
set_option maxRecDepth 100000
/-- Two traces in their boxes. -/
structure Tbw (A B : Array Value) (w wr : World) : Prop where
  one : wr.heap[w.heap.size]? = some (.cells A 47 (0, 0))
  two : wr.heap[w.heap.size + 1]? = some (.cells B 47 (0, 0))
  low : Below w.heap.size w wr
theorem Tbw.start (A B : Array Value) (w : World) : Tbw A B w ((w.alloc (.cells A 47)).alloc (.cells B 47)) := by
  refine ⟨?_, ?_, ((Below.refl _ w).alloc (Nat.le_refl _) _).alloc (by simp) _⟩
  · rw [heap_alloc_old _ _ (by simp)]; exact heap_alloc_new w _
  · have := heap_alloc_new (w.alloc (.cells A 47)) (.cells B 47)
    rw [show (w.alloc (.cells A 47)).heap.size = w.heap.size + 1 by simp] at this
    exact this
theorem Tbw.self {A B : Array Value} {w wr w1 : World} (h : Tbw A B w wr) (hb : Below wr.heap.size wr w1) : Tbw A B w w1 :=
  ⟨(hb.block _ (Array.getElem?_eq_some_iff.1 h.one).1).trans h.one, (hb.block _ (Array.getElem?_eq_some_iff.1 h.two).1).trans h.two, h.low.trans (hb.mono h.low.size)⟩
end Go.Proofs.YtpjgpiieminaoaaDoor

/- Wire: is a machine as the document's is? -/
namespace Go.Proofs.YtpjgpiieminaoaaDoor
open Go.RowKit
set_option maxRecDepth 100000
theorem orw_rd {w : World} {B : Nat} {v : Value} {f : Nat → Nat} {L : Nat} (h : Orw w B 22 1 v L (fun i => [.int .u64 (f i : Int)])) (hL : L ≤ 1000000) (hf : ∀ i, i < L → f i < 2 ^ 64) : Rd .u64 w v (wdL f L) := by
  obtain ⟨a, cap, rfl, h1, h2, h3, h4⟩ := h.slice
  refine ⟨a, cap, by rw [wdL_len], by rw [wdL_len]; show L * 8 ≤ _; omega, fun z hz => ?_, fun h0 => ?_⟩
  · unfold wdL at hz
    obtain ⟨i, hi, rfl⟩ := List.mem_map.1 hz
    exact WalkArith.wf_u64 (by have := hf i (List.mem_range.1 hi); omega)
  · rw [wdL_len] at h0 ⊢
    obtain ⟨g, rfl⟩ := h4 h0
    refine ⟨g, 0, rfl, (Orw.lt h g rfl).2, fun j hj => ?_⟩
    have := Orw.cell h (fun _ => rfl) hj (by decide : 0 < 1) (u := .int .u64 (f j : Int)) rfl
    rw [wdL_nth f hj]
    simpa using this
theorem orw_rop {w : World} {B : Nat} {v : Value} {f : Nat → Op6} {L : Nat} (h : Orw w B 52 6 v L (fun i => (opCs (f i)).toList)) (hL : L ≤ 1000000) (hf : ∀ i, i < L → opwf (f i)) : ROp w v L f := by
  obtain ⟨a, cap, rfl, h1, h2, h3, h4⟩ := h.slice
  refine ⟨by omega, hf, a, cap, rfl, h1, h2, fun h0 => ?_⟩
  obtain ⟨g, rfl⟩ := h4 h0
  refine ⟨g, 0, rfl, (Orw.lt h g rfl).2, fun i hi => ?_⟩
  have hc : ∀ j u, j < 6 → (opCs (f i)).toList[j]? = some u → w.cell? ⟨g, 0 + i * 6 + j, none⟩ = some u := fun j u hj hu => by
    rw [Nat.zero_add]; exact Orw.cell h (fun _ => rfl) hi hj hu
  exact ⟨hc 0 _ (by decide) rfl, hc 1 _ (by decide) rfl, hc 2 _ (by decide) rfl, hc 3 _ (by decide) rfl, hc 4 _ (by decide) rfl, hc 5 _ (by decide) rfl⟩
theorem orw_rsp {w : World} {B : Nat} {v : Value} {f : Nat → Sp3} {L : Nat} (h : Orw w B 69 3 v L (fun i => (spCs (f i)).toList)) (hL : L ≤ 1000000) (hf : ∀ i, i < L → spwf (f i)) : RSp w v L f := by
  obtain ⟨a, cap, rfl, h1, h2, h3, h4⟩ := h.slice
  refine ⟨by omega, hf, a, cap, rfl, h1, h2, fun h0 => ?_⟩
  obtain ⟨g, rfl⟩ := h4 h0
  refine ⟨g, 0, rfl, (Orw.lt h g rfl).2, fun i hi => ?_⟩
  have hc : ∀ j u, j < 3 → (spCs (f i)).toList[j]? = some u → w.cell? ⟨g, 0 + i * 3 + j, none⟩ = some u := fun j u hj hu => by
    rw [Nat.zero_add]; exact Orw.cell h (fun _ => rfl) hi hj hu
  exact ⟨hc 0 _ (by decide) rfl, hc 1 _ (by decide) rfl, hc 2 _ (by decide) rfl⟩
section
variable {Pm : World → Nat → Ms → (Nat → Prop) → Prop} (hM : Mach Pm) {lo : Nat} {X : Nat → Prop} {W w : World} {p b k : Nat} {S S2 : Ms}
include hM
theorem zn (h : Bz Pm lo X W w p b S S2) (hq : Bq k S) (hk : k ≤ 1000000) : Calls Tryd.prog 40 #[.pointer (some ⟨p, 0, none⟩)] w fun e w' => e = .returned (.int .i64 S.n) ∧ Below w.heap.size w w' := by
  obtain ⟨F, G, ov, bv, vv, tv, h1, h2, h3, h4, h5, h6, h7⟩ := h
  exact hM.n p k S F w h1 hq hk
theorem zerr (h : Bz Pm lo X W w p b S S2) (hq : Bq k S) (hk : k ≤ 1000000) : Calls Tryd.prog 8 #[.pointer (some ⟨p, 0, none⟩)] w fun e w' => e = .returned (.int .i64 (S.e : Nat)) ∧ Below w.heap.size w w' := by
  obtain ⟨F, G, ov, bv, vv, tv, h1, h2, h3, h4, h5, h6, h7⟩ := h
  exact hM.err p k S F w h1 hq hk
theorem ztrace (h : Bz Pm lo X W w p b S S2) (hq : Bq k S) (hk : k ≤ 1000000) : Calls Tryd.prog 10 #[.pointer (some ⟨p, 0, none⟩)] w fun e w' => ∃ v0 v1, e = .returned (.agg #[.int .i64 S.n, v0, v1]) ∧ ROp w' v0 (S.keep S.L) S.f ∧ RSp w' v1 (S.keep S.M) S.g ∧ Below w.heap.size w w' := by
  obtain ⟨F, G, ov, bv, vv, tv, h1, h2, h3, h4, h5, h6, h7⟩ := h
  exact hM.trace p k S F w h1 hq hk
theorem zvalues (h : Bz Pm lo X W w p b S S2) (hq : Bq k S) (hk : k ≤ 1000000) : Calls Tryd.prog 12 #[.pointer (some ⟨p, 0, none⟩)] w fun e w' => ∃ v, e = .returned v ∧ Rd .u64 w' v (wdL S.v (S.keep S.L)) ∧ Below w.heap.size w w' := by
  obtain ⟨F, G, ov, bv, vv, tv, h1, h2, h3, h4, h5, h6, h7⟩ := h
  exact hM.values p k S F w h1 hq hk
omit hM
theorem Bz.c0 (h : Bz Pm lo X W w p b S2 S) : w.cell? ⟨b, 0, none⟩ = some (.int .i64 S.n) ∧ w.cell? ⟨b, 3, none⟩ = some (.int .i64 (S.draws : Int)) ∧ w.cell? ⟨b, 7, none⟩ = some (.int .i64 (S.e : Int)) ∧ w.cell? ⟨b, 14, none⟩ = some (.bool S.dry) := by
  obtain ⟨F, G, ov, bv, vv, tv, h1, h2, h3, h4, h5, h6, h7⟩ := h
  exact ⟨h2.c_n, h2.c_draws, h2.c_e, h2.c_dry⟩
end
end Go.Proofs.YtpjgpiieminaoaaDoor

/- General: words as shares, as numbers: registers that are made share by share. No program is named. -/
namespace Go.Proofs.YtpjgpiieminaoaaDoor

def updI (W : Nat → Int) (j : Nat) (z : Int) : Nat → Int := fun i => if i = j then z else W i
theorem updI_at (W : Nat → Int) (j : Nat) (z : Int) : updI W j z j = z := by simp [updI]
theorem updI_no (W : Nat → Int) {j i : Nat} (z : Int) (h : i ≠ j) : updI W j z i = W i := by simp [updI, h]
/-- A number that an int holds. -/
def I64 (z : Int) : Prop := -9223372036854775808 ≤ z ∧ z ≤ 9223372036854775807
def Wb (W : Nat → Int) : Prop := ∀ i, I64 (W i)
theorem I64.m1 : I64 (-1) := by unfold I64; omega
theorem Wb.upd {W : Nat → Int} (h : Wb W) {j : Nat} {z : Int} (hz : I64 z) : Wb (updI W j z) := fun i => by
  by_cases e : i = j
  · subst e; rw [updI_at]; exact hz
  · rw [updI_no _ _ e]; exact h i
theorem doR_bd {k : Nat} {S : Ms} (h : Bq k S) (hk : k ≤ 1000000) (o : Op6) : I64 (S.doR o) := by
  have := h.len
  unfold Ms.doR I64
  split <;> omega
/-- The machine behind m ops, op (lo) .. op (lo + m - 1), without outside words. -/
def eaS (S : Ms) (op : Nat → Op6) (lo : Nat) : Nat → Ms
  | 0 => S
  | m + 1 => (eaS S op lo m).doS (op (lo + m)) 0
/-- The registers that they make. -/
def eaR (S : Ms) (op : Nat → Op6) (lo : Nat) (W : Nat → Int) : Nat → Nat → Int
  | 0 => W
  | m + 1 => updI (eaR S op lo W m) (lo + m) ((eaS S op lo m).doR (op (lo + m)))
theorem eaS_bq {k : Nat} {S : Ms} (h : Bq k S) {op : Nat → Op6} (lo : Nat) : ∀ m, (∀ j, j < m → opwf (op (lo + j))) → Bq (k + m) (eaS S op lo m)
  | 0, _ => h
  | m + 1, ho => (eaS_bq h lo m (fun j hj => ho j (by omega))).does (ho m (by omega)) (by decide)
theorem eaS_n (S : Ms) (op : Nat → Op6) (lo : Nat) : ∀ m, (eaS S op lo m).n = S.n
  | 0 => rfl
  | m + 1 => by rw [eaS, doS_n, eaS_n S op lo m]
theorem eaR_wb {k : Nat} {S : Ms} (h : Bq k S) {op : Nat → Op6} (lo : Nat) {W : Nat → Int} (hW : Wb W) : ∀ m, (∀ j, j < m → opwf (op (lo + j))) → k + m ≤ 1000000 → Wb (eaR S op lo W m)
  | 0, _, _ => hW
  | m + 1, ho, hk => (eaR_wb h lo hW m (fun j hj => ho j (by omega)) (by omega)).upd (doR_bd (eaS_bq h lo m (fun j hj => ho j (by omega))) (by omega) _)
/-- How many shares. -/
def Ms.sh (S : Ms) : Nat := S.n.toNat
def none3 : Nat → Int := fun _ => -1
theorem none3_wb : Wb none3 := fun _ => I64.m1
/-! ### the gadgets of words -/
def opRand (i : Nat) : Op6 := ⟨1, (i : Int), -1, -1, -1, 0⟩
def opCst (K : Int) (c : Nat) (i : Nat) : Op6 := if i = 0 then ⟨K, 0, -1, -1, -1, c⟩ else ⟨3, (i : Int), -1, -1, -1, 0⟩
def opOne (K : Int) (A : Nat → Int) (c : Nat) (i : Nat) : Op6 := ⟨K, (i : Int), A i, -1, -1, c⟩
def cstS (S : Ms) (K : Int) (c : Nat) : Ms := eaS S (opCst K c) 0 S.sh
def cstR (S : Ms) (K : Int) (c : Nat) : Nat → Int := eaR S (opCst K c) 0 none3 S.sh
def oneS (S : Ms) (K : Int) (A : Nat → Int) (c : Nat) : Ms := eaS S (opOne K A c) 0 S.sh
def oneR (S : Ms) (K : Int) (A : Nat → Int) (c : Nat) : Nat → Int := eaR S (opOne K A c) 0 none3 S.sh
/-- Encode: the machine behind its masks, and their registers. -/
def enS1 (S : Ms) : Ms := eaS (S.beginS 1) opRand 1 (S.sh - 1)
def enR1 (S : Ms) : Nat → Int := eaR (S.beginS 1) opRand 1 none3 (S.sh - 1)
def opEn (S : Ms) : Op6 := ⟨2, 0, enR1 S 1, enR1 S 2, -1, (enS1 S).words⟩
def encS (S : Ms) (x : Nat) : Ms := ((enS1 S).doS (opEn S) x).endS
def encR (S : Ms) : Nat → Int := updI (enR1 S) 0 ((enS1 S).doR (opEn S))
theorem i64c (z : Int) (h : 0 ≤ z) (h2 : z ≤ 1000) : -9223372036854775808 ≤ z ∧ z ≤ 9223372036854775807 := by omega
theorem opRand_wf {i : Nat} (hi : i ≤ 100) : opwf (opRand i) := ⟨i64c 1 (by decide) (by decide), by show _ ≤ (i : Int) ∧ (i : Int) ≤ _; omega, I64.m1, I64.m1, I64.m1, by show 0 < _; omega⟩
theorem opCst_wf {K : Int} (hK : I64 K) {c i : Nat} (hc : c < 2 ^ 64) (hi : i ≤ 100) : opwf (opCst K c i) := by
  unfold opCst
  split
  · exact ⟨hK, i64c 0 (by decide) (by decide), I64.m1, I64.m1, I64.m1, by show c < _; omega⟩
  · exact ⟨i64c 3 (by decide) (by decide), by show _ ≤ (i : Int) ∧ (i : Int) ≤ _; omega, I64.m1, I64.m1, I64.m1, by show 0 < _; omega⟩
theorem opOne_wf {K : Int} (hK : I64 K) {A : Nat → Int} (hA : Wb A) {c i : Nat} (hc : c < 2 ^ 64) (hi : i ≤ 100) : opwf (opOne K A c i) := ⟨hK, by show _ ≤ (i : Int) ∧ (i : Int) ≤ _; omega, hA i, I64.m1, I64.m1, by show c < _; omega⟩
end Go.Proofs.YtpjgpiieminaoaaDoor

/- Share: words, by the document: boxes beside two machines. -/
namespace Go.Proofs.YtpjgpiieminaoaaDoor
open Go.RowKit
set_option maxRecDepth 100000
abbrev wdV (W : Nat → Int) : Array Value := #[.int .i64 (W 0), .int .i64 (W 1), .int .i64 (W 2)]
theorem wdV_upd (W : Nat → Int) (j : Nat) (z : Int) (hj : j < 3) : (wdV W).setIfInBounds j (.int .i64 z) = wdV (updI W j z) := by
  rcases (by omega : j = 0 ∨ j = 1 ∨ j = 2) with rfl | rfl | rfl <;> simp [wdV, updI]
theorem wdV_at (W : Nat → Int) (j : Nat) (hj : j < 3) : (wdV W)[j]? = some (.int .i64 (W j)) := by
  rcases (by omega : j = 0 ∨ j = 1 ∨ j = 2) with rfl | rfl | rfl <;> rfl
/-- Both machines, and boxes of words (new since w0) beside them; X0: what is left alone. -/
structure Gz (Pm : World → Nat → Ms → (Nat → Prop) → Prop) (lo : Nat) (X0 : Nat → Prop) (W w0 wx : World) (p b : Nat) (S1 S2 : Ms) (bs : List (Nat × Array Value)) : Prop where
  z : Bz Pm lo (fun k => X0 k ∨ ∃ q ∈ bs, q.1 = k) W wx p b S1 S2
  bx : ∀ q ∈ bs, w0.heap.size ≤ q.1 ∧ wx.heap[q.1]? = some (.cells q.2 35 (0, 0))
  st : ∀ k, X0 k → k < w0.heap.size ∧ wx.heap[k]? = w0.heap[k]?
  lo : lo ≤ w0.heap.size
section
variable {Pm : World → Nat → Ms → (Nat → Prop) → Prop} {lo : Nat} {X0 : Nat → Prop} {W w0 wx wy : World} {p b : Nat} {S1 S2 S1' S2' : Ms} {bs : List (Nat × Array Value)}
theorem Gz.start (h : Bz Pm lo X0 W w0 p b S1 S2) : Gz Pm lo X0 W w0 w0 p b S1 S2 [] := by
  have hX : ∀ k, X0 k → k < w0.heap.size := by
    obtain ⟨F, G, ov, bv, vv, tv, h1, h2, h3, h4, h5, h6, h7⟩ := h
    exact fun k hk => (h4 k hk).1
  refine ⟨h.less (fun k hk => ?_), fun q hq => (List.not_mem_nil hq).elim, fun k hk => ⟨hX k hk, rfl⟩, h.los⟩
  rcases hk with e | ⟨q, hq, _⟩
  · exact e
  · exact (List.not_mem_nil hq).elim
theorem Gz.self (hM : Mach Pm) (h : Gz Pm lo X0 W w0 wx p b S1 S2 bs) (hb : Below wx.heap.size wx wy) : Gz Pm lo X0 W w0 wy p b S1 S2 bs :=
  ⟨h.z.self hM hb, fun q hq => ⟨(h.bx q hq).1, (hb.block _ (Array.getElem?_eq_some_iff.1 (h.bx q hq).2).1).trans (h.bx q hq).2⟩, fun k hk => ⟨(h.st k hk).1, (hb.block k (by
    obtain ⟨F, G, ov, bv, vv, tv, h1, h2, h3, h4, h5, h6, h7⟩ := h.z
    exact (h4 k (.inl hk)).1)).trans (h.st k hk).2⟩, h.lo⟩
/-- A machine goes on. -/
theorem Gz.on {p' : Nat} (h : Gz Pm lo X0 W w0 wx p b S1 S2 bs) (hz : Bz Pm lo (fun k => X0 k ∨ ∃ q ∈ bs, q.1 = k) W wy p' b S1' S2') (hs : ∀ k, (X0 k ∨ ∃ q ∈ bs, q.1 = k) → wy.heap[k]? = wx.heap[k]?) : Gz Pm lo X0 W w0 wy p' b S1' S2' bs :=
  ⟨hz, fun q hq => ⟨(h.bx q hq).1, (hs _ (.inr ⟨q, hq, rfl⟩)).trans (h.bx q hq).2⟩, fun k hk => ⟨(h.st k hk).1, (hs k (.inl hk)).trans (h.st k hk).2⟩, h.lo⟩
/-- The first box is turned. -/
theorem Gz.cell (hM : Mach Pm) {n : Nat} {cs : Array Value} (h : Gz Pm lo X0 W w0 wx p b S1 S2 ((n, cs) :: bs)) (hn : ∀ q ∈ bs, q.1 ≠ n) (i : Nat) (v : Value) : Gz Pm lo X0 W w0 (wx.setCell ⟨n, i, none⟩ v) p b S1 S2 ((n, cs.setIfInBounds i v) :: bs) := by
  have hnb := h.bx (n, cs) (List.mem_cons_self ..)
  have hT : Tch (fun k => k = n) wx (wx.setCell ⟨n, i, none⟩ v) := Tch.set wx v rfl
  refine ⟨(h.z.apart hM hT (fun k hk => ?_)).less (fun k hk => ?_), fun q hq => ?_, fun k hk => ⟨(h.st k hk).1, (heap_setCell_other wx ⟨n, i, none⟩ k v (by have := (h.st k hk).1; have := hnb.1; show k ≠ n; omega)).trans (h.st k hk).2⟩, h.lo⟩
  · subst hk
    exact ⟨.inr ⟨(k, cs), List.mem_cons_self .., rfl⟩, Nat.le_trans h.lo hnb.1⟩
  · rcases hk with e | ⟨q, hq, rfl⟩
    · exact .inl e
    · rcases List.mem_cons.1 hq with rfl | hq
      · exact .inr ⟨(n, cs), List.mem_cons_self .., rfl⟩
      · exact .inr ⟨q, List.mem_cons_of_mem _ hq, rfl⟩
  · rcases List.mem_cons.1 hq with rfl | hq
    · exact ⟨hnb.1, heap_setCell_same wx n i cs 35 v hnb.2⟩
    · exact ⟨(h.bx q (List.mem_cons_of_mem _ hq)).1, (heap_setCell_other wx ⟨n, i, none⟩ q.1 v (hn q hq)).trans (h.bx q (List.mem_cons_of_mem _ hq)).2⟩
/-- A box is turned whole. -/
theorem Gz.row (hM : Mach Pm) {n : Nat} {cs : Array Value} (h : Gz Pm lo X0 W w0 wx p b S1 S2 ((n, cs) :: bs)) (hn : ∀ q ∈ bs, q.1 ≠ n) (cs' : Array Value) : Gz Pm lo X0 W w0 (wx.setRow n cs') p b S1 S2 ((n, cs') :: bs) := by
  have hnb := h.bx (n, cs) (List.mem_cons_self ..)
  have hT : Tch (fun k => k = n) wx (wx.setRow n cs') := ⟨rfl, rfl, rfl, by simp [World.setRow], fun k hk hF => setRow_other wx n k cs' hF⟩
  refine ⟨(h.z.apart hM hT (fun k hk => ?_)).less (fun k hk => ?_), fun q hq => ?_, fun k hk => ⟨(h.st k hk).1, (setRow_other wx n k cs' (by have := (h.st k hk).1; have := hnb.1; omega)).trans (h.st k hk).2⟩, h.lo⟩
  · subst hk
    exact ⟨.inr ⟨(k, cs), List.mem_cons_self .., rfl⟩, Nat.le_trans h.lo hnb.1⟩
  · rcases hk with e | ⟨q, hq, rfl⟩
    · exact .inl e
    · rcases List.mem_cons.1 hq with rfl | hq
      · exact .inr ⟨(n, cs), List.mem_cons_self .., rfl⟩
      · exact .inr ⟨q, List.mem_cons_of_mem _ hq, rfl⟩
  · rcases List.mem_cons.1 hq with rfl | hq
    · exact ⟨hnb.1, setRow_heap wx n cs cs' 35 _ hnb.2⟩
    · exact ⟨(h.bx q (List.mem_cons_of_mem _ hq)).1, (setRow_other wx n q.1 cs' (hn q hq)).trans (h.bx q (List.mem_cons_of_mem _ hq)).2⟩
/-- The boxes in another order, or fewer. -/
theorem Gz.swap {bs' : List (Nat × Array Value)} (h : Gz Pm lo X0 W w0 wx p b S1 S2 bs) (hs : ∀ q ∈ bs', q ∈ bs) : Gz Pm lo X0 W w0 wx p b S1 S2 bs' :=
  ⟨h.z.less (fun _ hk => hk.imp id (fun ⟨q, hq, e⟩ => ⟨q, hs q hq, e⟩)), fun q hq => h.bx q (hs q hq), h.st, h.lo⟩
theorem Gz.fin (h : Gz Pm lo X0 W w0 wx p b S1 S2 bs) : Bz Pm lo X0 W wx p b S1 S2 ∧ ∀ k, X0 k → wx.heap[k]? = w0.heap[k]? := ⟨h.z.less (fun _ hk => .inl hk), fun k hk => (h.st k hk).2⟩
theorem Gz.sh (h : Gz Pm lo X0 W w0 wx p b S1 S2 bs) : wx.cell? ⟨b, 0, none⟩ = some (.int .i64 S2.n) := h.z.c0.1
end
end Go.Proofs.YtpjgpiieminaoaaDoor

/- General: what words stand for. No program is named. -/
namespace Go.Proofs.YtpjgpiieminaoaaDoor

def vlP (v : Nat → Nat) (L : Nat) (A : Nat → Int) : Nat → Nat
  | 0 => 0
  | m + 1 => vlP v L A m ^^^ wordAt v L (A m)
/-- What a word stands for. -/
abbrev vlN (v : Nat → Nat) (L : Nat) (A : Nat → Int) : Nat := vlP v L A 3
theorem vlP_lt {v : Nat → Nat} {L : Nat} (h : ∀ i, i < L → v i < 2 ^ 64) (A : Nat → Int) : ∀ m, vlP v L A m < 2 ^ 64
  | 0 => by show 0 < _; decide
  | m + 1 => xr_lt (vlP_lt h A m) (wordAt_lt h _)
theorem vl_three (v : Nat → Nat) (L : Nat) (A : Nat → Int) : vlN v L A = wordAt v L (A 0) ^^^ wordAt v L (A 1) ^^^ wordAt v L (A 2) := by
  show ((0 ^^^ wordAt v L (A 0)) ^^^ wordAt v L (A 1)) ^^^ wordAt v L (A 2) = _
  rw [Nat.zero_xor]
/-- A machine that went on: the words that there were are as they were. -/
structure Ext (S S' : Ms) : Prop where
  L : S.L ≤ S'.L
  v : ∀ i, i < S.L → S'.v i = S.v i
  n : S'.n = S.n
  dry : S'.dry = S.dry
  skip : S'.skip = S.skip
theorem Ext.refl (S : Ms) : Ext S S := ⟨Nat.le_refl _, fun _ _ => rfl, rfl, rfl, rfl⟩
theorem Ext.trans {S S' S2 : Ms} (h : Ext S S') (k : Ext S' S2) : Ext S S2 :=
  ⟨Nat.le_trans h.L k.L, fun i hi => (k.v i (Nat.lt_of_lt_of_le hi h.L)).trans (h.v i hi), k.n.trans h.n, k.dry.trans h.dry, k.skip.trans h.skip⟩
theorem doS_ext (S : Ms) (o : Op6) (x : Nat) : Ext S (S.doS o x) := by
  unfold Ms.doS
  repeat' split
  · exact Ext.refl S
  · exact ⟨Nat.le_refl _, fun _ _ => rfl, rfl, rfl, rfl⟩
  · exact ⟨Nat.le_refl _, fun _ _ => rfl, rfl, rfl, rfl⟩
  · exact ⟨Nat.le_refl _, fun _ _ => rfl, rfl, rfl, rfl⟩
  · exact ⟨Nat.le_succ _, fun i hi => updN_no _ _ (by omega), rfl, rfl, rfl⟩
theorem beginS_ext (S : Ms) (k : Int) : Ext S (S.beginS k) := by
  unfold Ms.beginS
  repeat' split
  all_goals exact ⟨Nat.le_refl _, fun _ _ => rfl, rfl, rfl, rfl⟩
theorem endS_ext (S : Ms) : Ext S S.endS := by
  unfold Ms.endS
  repeat' split
  all_goals exact ⟨Nat.le_refl _, fun _ _ => rfl, rfl, rfl, rfl⟩
theorem eaS_ext (S : Ms) (op : Nat → Op6) (lo : Nat) : ∀ m, Ext S (eaS S op lo m)
  | 0 => Ext.refl S
  | m + 1 => (eaS_ext S op lo m).trans (doS_ext _ _ _)
theorem wordAt_ext {S S' : Ms} (h : Ext S S') {r : Int} (hr : r < (S.L : Int)) : wordAt S'.v S'.L r = wordAt S.v S.L r := by
  have hL := h.L
  unfold wordAt
  by_cases h0 : 0 ≤ r
  · rw [if_pos ⟨h0, by omega⟩, if_pos ⟨h0, hr⟩, h.v _ (by omega)]
  · rw [if_neg (fun e => h0 e.1), if_neg (fun e => h0 e.1)]
theorem vl_ext {S S' : Ms} (h : Ext S S') {A : Nat → Int} (hA : ∀ i, i < 3 → A i < (S.L : Int)) : vlN S'.v S'.L A = vlN S.v S.L A := by
  rw [vl_three, vl_three, wordAt_ext h (hA 0 (by omega)), wordAt_ext h (hA 1 (by omega)), wordAt_ext h (hA 2 (by omega))]
/-- An op that is done. -/
theorem do_ok {S : Ms} {o : Op6} {x : Nat} (h : (S.doS o x).e = 0) : S.e = 0 ∧ S.doS o x = S.put o x ∧ S.doR o = (S.len : Int) ∧ S.bad o = false := by
  have he : S.e = 0 := by
    by_cases e : S.e = 0
    · exact e
    · unfold Ms.doS at h; rw [if_pos e] at h; exact absurd h e
  have hb : ¬ S.bad o = true := fun e => by unfold Ms.doS at h; rw [if_neg (by omega), if_pos e] at h; simp at h
  have hf : ¬ S.full = true := fun e => by unfold Ms.doS at h; rw [if_neg (by omega), if_neg hb, if_pos e] at h; simp at h
  have ho : ¬ S.out o = true := fun e => by unfold Ms.doS at h; rw [if_neg (by omega), if_neg hb, if_neg hf, if_pos e] at h; simp at h
  refine ⟨he, ?_, ?_, by simpa using hb⟩
  · unfold Ms.doS
    rw [if_neg (by omega), if_neg hb, if_neg hf, if_neg ho]
  · unfold Ms.doR
    rw [if_neg (by rintro (q | q | q | q) <;> contradiction)]
/-- A wet machine's op: the word that it makes. -/
theorem do_word {S : Ms} {o : Op6} {x : Nat} (h : (S.doS o x).e = 0) (hs : S.skip = 0) : S.doR o = (S.L : Int) ∧ (S.doS o x).L = S.L + 1 ∧ wordAt (S.doS o x).v (S.doS o x).L (S.doR o) = S.makes o x := by
  obtain ⟨_, h2, h3, _⟩ := do_ok h
  have hl : S.len = S.L := by unfold Ms.len; rw [hs, Nat.zero_add]
  rw [hl] at h3
  refine ⟨h3, by rw [h2]; rfl, ?_⟩
  rw [h2, h3]
  show wordAt (updN S.v S.L (S.makes o x)) (S.L + 1) (S.L : Int) = _
  unfold wordAt
  rw [if_pos ⟨by omega, by omega⟩, show ((S.L : Int)).toNat = S.L by omega, updN_at]
theorem eaS_e {S : Ms} {op : Nat → Op6} {lo : Nat} : ∀ {m}, (eaS S op lo m).e = 0 → ∀ j, j ≤ m → (eaS S op lo j).e = 0
  | 0, h, j, hj => by obtain rfl : j = 0 := by omega
                      exact h
  | m + 1, h, j, hj => by
    by_cases e : j = m + 1
    · subst e; exact h
    · exact eaS_e (do_ok h).1 j (by omega)
theorem eaR_keep (S : Ms) (op : Nat → Op6) (lo : Nat) (W : Nat → Int) : ∀ m i, (i < lo ∨ lo + m ≤ i) → eaR S op lo W m i = W i
  | 0, _, _ => rfl
  | m + 1, i, h => by rw [eaR, updI_no _ _ (by omega), eaR_keep S op lo W m i (by omega)]
theorem eaR_at (S : Ms) (op : Nat → Op6) (lo : Nat) (W : Nat → Int) : ∀ m j, j < m → eaR S op lo W m (lo + j) = (eaS S op lo j).doR (op (lo + j))
  | m + 1, j, h => by
    by_cases e : j = m
    · subst e; rw [eaR, updI_at]
    · rw [eaR, updI_no _ _ (by omega), eaR_at S op lo W m j (by omega)]
/-- Registers that are made share by share: the word of each. -/
theorem ea_word {S : Ms} {op : Nat → Op6} {lo m : Nat} (W : Nat → Int) (h : (eaS S op lo m).e = 0) (hs : S.skip = 0) {j : Nat} (hj : j < m) (hA : (op (lo + j)).A < (S.L : Int)) (hB : (op (lo + j)).B < (S.L : Int)) (hE : (op (lo + j)).E < (S.L : Int)) :
    eaR S op lo W m (lo + j) = ((eaS S op lo j).L : Int) ∧ (eaS S op lo j).L < (eaS S op lo m).L ∧
    wordAt (eaS S op lo m).v (eaS S op lo m).L (eaR S op lo W m (lo + j)) = evN (op (lo + j)).K (op (lo + j)).C (wordAt S.v S.L (op (lo + j)).A) (wordAt S.v S.L (op (lo + j)).B) (wordAt S.v S.L (op (lo + j)).E) ((eaS S op lo j).word (op (lo + j)) 0) := by
  have hj1 : (eaS S op lo (j + 1)).e = 0 := eaS_e h _ (by omega)
  have hX := eaS_ext S op lo j
  obtain ⟨w1, w2, w3⟩ := do_word (x := 0) hj1 (hX.skip.trans hs)
  have hxt : Ext (eaS S op lo (j + 1)) (eaS S op lo m) := by
    have : ∀ d, Ext (eaS S op lo (j + 1)) (eaS S op lo (j + 1 + d)) := fun d => by
      induction d with
      | zero => exact Ext.refl _
      | succ d ih => exact ih.trans (doS_ext _ _ _)
    have e := this (m - (j + 1))
    rw [show j + 1 + (m - (j + 1)) = m by omega] at e
    exact e
  have hL : (eaS S op lo (j + 1)).L = (eaS S op lo j).L + 1 := w2
  have hlt : (eaS S op lo j).L < (eaS S op lo m).L := by have := hxt.L; omega
  refine ⟨(eaR_at S op lo W m j hj).trans w1, hlt, ?_⟩
  rw [eaR_at S op lo W m j hj, wordAt_ext hxt (by rw [w1, hL]; omega)]
  refine w3.trans ?_
  unfold Ms.makes
  rw [wordAt_ext hX hA, wordAt_ext hX hB, wordAt_ext hX hE]
/-- A word whose registers there are; of two shares the third is none. -/
structure Gw (S : Ms) (A : Nat → Int) : Prop where
  lt : ∀ i, i < 3 → A i < (S.L : Int)
  no : ∀ i, S.sh ≤ i → i < 3 → A i < 0
theorem Gw.ext {S S' : Ms} {A : Nat → Int} (h : Gw S A) (k : Ext S S') : Gw S' A :=
  ⟨fun i hi => by have := h.lt i hi; have := k.L; omega, fun i hi hj => h.no i (by unfold Ms.sh at hi ⊢; rw [k.n] at hi; exact hi) hj⟩
theorem wordAt_neg {v : Nat → Nat} {L : Nat} {r : Int} (h : r < 0) : wordAt v L r = 0 := if_neg (by omega)
/-- What is made share by share: each share's word by itself. -/
theorem ea_vl {S : Ms} {op : Nat → Op6} (h : (eaS S op 0 S.sh).e = 0) (hs : S.skip = 0) (h2 : 2 ≤ S.sh) (h3 : S.sh ≤ 3) (F : Nat → Nat)
    (hA : ∀ j, j < 3 → (op j).A < (S.L : Int) ∧ (op j).B < (S.L : Int) ∧ (op j).E < (S.L : Int))
    (hF : ∀ j, j < S.sh → evN (op j).K (op j).C (wordAt S.v S.L (op j).A) (wordAt S.v S.L (op j).B) (wordAt S.v S.L (op j).E) ((eaS S op 0 j).word (op j) 0) = F j) (hF3 : S.sh = 2 → F 2 = 0) :
    vlN (eaS S op 0 S.sh).v (eaS S op 0 S.sh).L (eaR S op 0 none3 S.sh) = F 0 ^^^ F 1 ^^^ F 2 ∧ Gw (eaS S op 0 S.sh) (eaR S op 0 none3 S.sh) := by
  have key : ∀ j, j < S.sh → eaR S op 0 none3 S.sh j < ((eaS S op 0 S.sh).L : Int) ∧ wordAt (eaS S op 0 S.sh).v (eaS S op 0 S.sh).L (eaR S op 0 none3 S.sh j) = F j := fun j hj => by
    have a := hA j (by omega)
    have w := ea_word (lo := 0) none3 h hs hj (by rw [Nat.zero_add]; exact a.1) (by rw [Nat.zero_add]; exact a.2.1) (by rw [Nat.zero_add]; exact a.2.2)
    rw [Nat.zero_add] at w
    exact ⟨by rw [w.1]; have := w.2.1; omega, w.2.2.trans (hF j hj)⟩
  have n2 : S.sh = 2 → eaR S op 0 none3 S.sh 2 = -1 := fun e => eaR_keep S op 0 none3 S.sh 2 (by omega)
  have k2 : wordAt (eaS S op 0 S.sh).v (eaS S op 0 S.sh).L (eaR S op 0 none3 S.sh 2) = F 2 := by
    by_cases e : S.sh = 2
    · rw [n2 e, hF3 e]; exact wordAt_neg (by omega)
    · exact (key 2 (by omega)).2
  refine ⟨by rw [vl_three, (key 0 (by omega)).2, (key 1 (by omega)).2, k2], ⟨fun i hi => ?_, fun i hi hj => ?_⟩⟩
  · by_cases e : i < S.sh
    · exact (key i e).1
    · obtain rfl : i = 2 := by omega
      rw [n2 (by omega)]; omega
  · have hse : (eaS S op 0 S.sh).sh = S.sh := by unfold Ms.sh; rw [eaS_n]
    rw [hse] at hi
    obtain rfl : i = 2 := by omega
    rw [n2 (by omega)]; omega
end Go.Proofs.YtpjgpiieminaoaaDoor

/- General: what the gadgets of words make, as what words stand for. No program is named. -/
namespace Go.Proofs.YtpjgpiieminaoaaDoor

/-- A constant. -/
theorem cst_vl {S : Ms} {K : Int} {c : Nat} (h : (cstS S K c).e = 0) (hs : S.skip = 0) (hn : S.n = 2 ∨ S.n = 3) (hK : K = 3 ∨ K = 4) :
    vlN (cstS S K c).v (cstS S K c).L (cstR S K c) = c ∧ Gw (cstS S K c) (cstR S K c) := by
  have h2 : 2 ≤ S.sh ∧ S.sh ≤ 3 := by unfold Ms.sh; omega
  have hev : ∀ C a b d x, evN K C a b d x = C := fun C a b d x => by rcases hK with rfl | rfl; exact ev3 C a b d x; exact ev4 C a b d x
  have := ea_vl (op := opCst K c) h hs h2.1 h2.2 (fun j => if j = 0 then c else 0) (fun j _ => by unfold opCst; split <;> exact ⟨by show (-1 : Int) < _; omega, by show (-1 : Int) < _; omega, by show (-1 : Int) < _; omega⟩)
    (fun j _ => by
      unfold opCst
      by_cases e : j = 0
      · rw [if_pos e, if_pos e]; exact hev _ _ _ _ _
      · rw [if_neg e, if_neg e]; exact ev3 _ _ _ _ _) (fun _ => rfl)
  refine ⟨this.1.trans ?_, this.2⟩
  simp
/-- What a move or a mask makes of a word. -/
def mvN (K : Int) (c a : Nat) : Nat := evN K c a 0 0 0
theorem mvN_xor {K : Int} (hK : K = 8 ∨ K = 9 ∨ K = 10 ∨ K = 11) {c a b : Nat} (ha : a < 2 ^ 64) (hb : b < 2 ^ 64) : mvN K c (a ^^^ b) = mvN K c a ^^^ mvN K c b := by
  unfold mvN
  rcases hK with rfl | rfl | rfl | rfl
  · rw [ev8, ev8, ev8]; exact wmk_xor
  · rw [ev9, ev9, ev9]; exact wsl_xor _ _ _
  · rw [ev10, ev10, ev10]; exact wsr_xor ha hb _
  · rw [ev11, ev11, ev11]; exact rt_xor ha hb (by omega)
theorem mvN_any {K : Int} (hK : K = 8 ∨ K = 9 ∨ K = 10 ∨ K = 11) (c a b d x : Nat) : evN K c a b d x = mvN K c a := by
  unfold mvN
  rcases hK with rfl | rfl | rfl | rfl
  · rw [ev8, ev8]
  · rw [ev9, ev9]
  · rw [ev10, ev10]
  · rw [ev11, ev11]
theorem mvN_zero {K : Int} (hK : K = 8 ∨ K = 9 ∨ K = 10 ∨ K = 11) (c : Nat) : mvN K c 0 = 0 := by
  have h := mvN_xor hK (c := c) (a := 0) (b := 0) (by decide) (by decide)
  rw [Nat.xor_self] at h
  rw [h]; exact Nat.xor_self _
theorem one_vl {S : Ms} {K : Int} {A : Nat → Int} {c : Nat} (h : (oneS S K A c).e = 0) (hs : S.skip = 0) (hn : S.n = 2 ∨ S.n = 3) (hK : K = 8 ∨ K = 9 ∨ K = 10 ∨ K = 11) (hv : ∀ i, i < S.L → S.v i < 2 ^ 64) (hA : Gw S A) :
    vlN (oneS S K A c).v (oneS S K A c).L (oneR S K A c) = mvN K c (vlN S.v S.L A) ∧ Gw (oneS S K A c) (oneR S K A c) := by
  have h2 : 2 ≤ S.sh ∧ S.sh ≤ 3 := by unfold Ms.sh; omega
  have := ea_vl (op := opOne K A c) h hs h2.1 h2.2 (fun j => mvN K c (wordAt S.v S.L (A j))) (fun j hj => ⟨hA.lt j hj, by show (-1 : Int) < _; omega, by show (-1 : Int) < _; omega⟩)
    (fun j _ => mvN_any hK _ _ _ _ _) (fun e => by show mvN K c (wordAt S.v S.L (A 2)) = 0; rw [wordAt_neg (hA.no 2 (by omega) (by omega))]; exact mvN_zero hK c)
  refine ⟨this.1.trans ?_, this.2⟩
  have l := fun i => wordAt_lt hv (A i)
  rw [vl_three, mvN_xor hK (xr_lt (l 0) (l 1)) (l 2), mvN_xor hK (l 0) (l 1)]
end Go.Proofs.YtpjgpiieminaoaaDoor
