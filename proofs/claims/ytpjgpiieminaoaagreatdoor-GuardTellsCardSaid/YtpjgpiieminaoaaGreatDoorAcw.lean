import Derived.Test.YtpjgpiieminaoaaGreatDoorGen
import Derived.Test.YtpjgpiieminaoaaGreatDoorOrw
import Derived.Test.YtpjgpiieminaoaaGreatDoorProg
import Derived.Test.YtpjgpiieminaoaaGreatDoorWdg
import Derived.Laws.LoneSync
import Derived.WalkSpells
import Derived.Outline
import Derived.Deep.RegionHeld3
import Derived.Deep.DrawnRows
import Derived.Lib.SliceRun
import Derived.Test.YtpjgpiieminaoaaGreatDoorWda
/- General: a slice of acts (an int, an op, a word) that comes in. No program is named. -/
namespace Go.Proofs.YtpjgpiieminaoaaGreatDoor
open Go.ChangeShapes Go.WideShapes Go.ChangeAt Go.RowKit Go.Deep

/-- An act. -/
structure Act8 where
  K : Int
  o : Op6
  X : Nat
def acwf (a : Act8) : Prop := (-9223372036854775808 ≤ a.K ∧ a.K ≤ 9223372036854775807) ∧ opwf a.o ∧ a.X < 18446744073709551616
/-- The cells of an act from offset n of block b on. -/
structure Ac (w : World) (q n : Nat) (a : Act8) : Prop where
  k : w.cell? ⟨q, n, none⟩ = some (.int .i64 a.K)
  o : Oc w q (n + 1) a.o
  x : w.cell? ⟨q, n + 7, none⟩ = some (.int .u64 (a.X : Int))
theorem Ac.self {w w' : World} {b n : Nat} {a : Act8} (h : Ac w b n a) (hb : Below w.heap.size w w') : Ac w' b n a :=
  ⟨tcell_self h.k hb, h.o.self hb, tcell_self h.x hb⟩
/-- v reads as the L acts f. -/
structure RAc (w : World) (v : Value) (L : Nat) (f : Nat → Act8) : Prop where
  lim : L ≤ 2300000000000
  wf : ∀ i, i < L → acwf (f i)
  at_ : ∃ a cap, v = .slice a L cap ∧ L ≤ cap ∧ cap ≤ maxLen ∧ (0 < L → ∃ b off, a = some ⟨b, off, none⟩ ∧ b < w.heap.size ∧ ∀ i, i < L → Ac w b (off + i * 8) (f i))
theorem RAc.self {w w' : World} {v : Value} {L : Nat} {f : Nat → Act8} (h : RAc w v L f) (hb : Below w.heap.size w w') : RAc w' v L f := by
  obtain ⟨a, cap, h1, h2, h3, h4⟩ := h.at_
  refine ⟨h.lim, h.wf, a, cap, h1, h2, h3, fun h0 => ?_⟩
  obtain ⟨b, off, e1, e2, e3⟩ := h4 h0
  exact ⟨b, off, e1, Nat.lt_of_lt_of_le e2 hb.size, fun i hi => (e3 i hi).self hb⟩
end Go.Proofs.YtpjgpiieminaoaaGreatDoor

/- General: the machine as numbers: bounds, acts, a dry machine, a new one. No program is named. -/
namespace Go.Proofs.YtpjgpiieminaoaaGreatDoor

namespace Ms
/-- What is opened. -/
def opR (S : Ms) (o : Op6) : Nat := if S.doR o < 0 then 0 else if S.dry = true then 18446744073709551615 else (S.doS o 0).v S.len
end Ms
/-- Bounds of a machine. -/
structure Bq (k : Nat) (S : Ms) : Prop where
  len : S.len ≤ k
  M : S.M ≤ k
  words : S.words ≤ k
  draws : S.draws ≤ k
  fr : S.fr ≤ k
  used : S.used ≤ 20000000000000
  free : S.free ≤ 20000000000000
  TN : S.TN ≤ 20000000000000
  v : ∀ i, i < S.L → S.v i < 2 ^ 64
  tw : ∀ i, i < S.TN → S.tw i < 2 ^ 64
  wet : S.dry = false → S.skip = 0
  ops : ∀ i, i < S.L → opwf (S.f i)
  sps : ∀ i, i < S.M → spwf (S.g i)
  kind : 0 ≤ S.kind ∧ S.kind ≤ 3
  n : -9223372036854775808 ≤ S.n ∧ S.n ≤ 9223372036854775807
  most : -9223372036854775808 ≤ S.most ∧ S.most ≤ 9223372036854775807
  e : S.e ≤ 4
theorem Bq.mono {k k' : Nat} {S : Ms} (h : Bq k S) (hk : k ≤ k') : Bq k' S :=
  ⟨Nat.le_trans h.len hk, Nat.le_trans h.M hk, Nat.le_trans h.words hk, Nat.le_trans h.draws hk, Nat.le_trans h.fr hk, h.used, h.free, h.TN, h.v, h.tw, h.wet, h.ops, h.sps, h.kind, h.n, h.most, h.e⟩
theorem Bq.fails {k : Nat} {S : Ms} (h : Bq k S) (e : Nat) (he : e ≤ 4) : Bq k { S with e := e } :=
  ⟨h.len, h.M, h.words, h.draws, h.fr, h.used, h.free, h.TN, h.v, h.tw, h.wet, h.ops, h.sps, h.kind, h.n, h.most, he⟩
theorem wordAt_lt {v : Nat → Nat} {L : Nat} (h : ∀ i, i < L → v i < 2 ^ 64) (r : Int) : wordAt v L r < 2 ^ 64 := by
  unfold wordAt
  split
  · rename_i hr; exact h _ (by omega)
  · decide
theorem Bq.does {k : Nat} {S : Ms} (h : Bq k S) {o : Op6} {x : Nat} (ho : opwf o) (hx : x < 2 ^ 64) : Bq (k + 1) (S.doS o x) := by
  unfold Ms.doS
  split
  · exact h.mono (by omega)
  · split
    · exact (h.fails 1 (by omega)).mono (by omega)
    · split
      · exact (h.fails 3 (by omega)).mono (by omega)
      · split
        · exact (h.fails 2 (by omega)).mono (by omega)
        · rename_i _ hb hf hout
          have hw : S.word o x < 2 ^ 64 := by
            unfold Ms.word
            split
            · rename_i e
              unfold Ms.out at hout
              rw [decide_eq_true e.1, e.2, Bool.not_false, Bool.true_and, Bool.true_and] at hout
              have h2 := of_decide_eq_false (Bool.not_eq_true _ ▸ hout)
              exact h.tw _ (by omega)
            · exact hx
          have hm : S.makes o x < 2 ^ 64 := evN_lt (by have := ho.2.2.2.2.2; omega) (wordAt_lt h.v _) (wordAt_lt h.v _) (wordAt_lt h.v _) hw
          have hl := h.len
          unfold Ms.len at hl
          refine ⟨by show S.skip + (S.L + 1) ≤ k + 1; omega, Nat.le_succ_of_le h.M, ?_, ?_, Nat.le_succ_of_le h.fr, ?_, ?_, h.TN, fun i hi => ?_, h.tw, h.wet, fun i hi => ?_, h.sps, h.kind, h.n, h.most, h.e⟩
          · show (if o.K = 2 then S.words + 1 else S.words) ≤ k + 1
            have := h.words
            split <;> omega
          · show (if o.K = 1 then S.draws + 1 else S.draws) ≤ k + 1
            have := h.draws
            split <;> omega
          · show (if o.K = 1 ∧ S.dry = false then S.used + 1 else S.used) ≤ 20000000000000
            have := h.used
            split
            · rename_i e
              unfold Ms.out at hout
              rw [decide_eq_true e.1, e.2, Bool.not_false, Bool.true_and, Bool.true_and] at hout
              have h2 := of_decide_eq_false (Bool.not_eq_true _ ▸ hout)
              have := h.TN
              omega
            · exact this
          · show (if o.K = 1 ∧ S.dry = false then S.free - 1 else S.free) ≤ 20000000000000
            have := h.free
            split <;> omega
          · show updN S.v S.L (S.makes o x) i < 2 ^ 64
            have hi' : i < S.L + 1 := hi
            by_cases e : i = S.L
            · subst e; rw [updN_at]; exact hm
            · rw [updN_no _ _ e]; exact h.v i (by omega)
          · show opwf (updO S.f S.L o i)
            have hi' : i < S.L + 1 := hi
            by_cases e : i = S.L
            · subst e; rw [updO_at]; exact ho
            · rw [updO_no _ _ e]; exact h.ops i (by omega)
theorem Bq.begins {k : Nat} {S : Ms} (h : Bq k S) (kd : Int) : Bq k (S.beginS kd) := by
  unfold Ms.beginS
  split
  · exact h
  · split
    · exact h.fails 1 (by omega)
    · rename_i _ e
      exact ⟨h.len, h.M, h.words, h.draws, h.len, h.used, h.free, h.TN, h.v, h.tw, h.wet, h.ops, h.sps, by show 0 ≤ kd ∧ kd ≤ 3; omega, h.n, h.most, h.e⟩
theorem Bq.ends {k : Nat} {S : Ms} (h : Bq k S) (hk : k ≤ 1000000) : Bq (k + 1) S.endS := by
  unfold Ms.endS
  split
  · exact h.mono (by omega)
  · split
    · exact (h.fails 1 (by omega)).mono (by omega)
    · have g : Bq (k + 1) { S with kind := 0 } := ⟨Nat.le_succ_of_le h.len, Nat.le_succ_of_le h.M, Nat.le_succ_of_le h.words, Nat.le_succ_of_le h.draws, Nat.le_succ_of_le h.fr, h.used, h.free, h.TN, h.v, h.tw, h.wet, h.ops, h.sps, by show (0 : Int) ≤ 0 ∧ (0 : Int) ≤ 3; decide, h.n, h.most, h.e⟩
      split
      · refine ⟨g.len, Nat.succ_le_succ h.M, g.words, g.draws, g.fr, h.used, h.free, h.TN, h.v, h.tw, h.wet, h.ops, fun i hi => ?_, g.kind, h.n, h.most, h.e⟩
        show spwf (updS S.g S.M ⟨S.kind, (S.fr : Int), (S.len : Int)⟩ i)
        have hi' : i < S.M + 1 := hi
        by_cases e : i = S.M
        · subst e
          rw [updS_at]
          have h1 := h.kind
          have h2 := h.fr
          have h3 := h.len
          exact ⟨by show _ ≤ S.kind ∧ S.kind ≤ _; omega, by show _ ≤ (S.fr : Int) ∧ (S.fr : Int) ≤ _; omega, by show _ ≤ (S.len : Int) ∧ (S.len : Int) ≤ _; omega⟩
        · rw [updS_no _ _ e]; exact h.sps i (by omega)
      · exact g
theorem doR_yes {S : Ms} {o : Op6} (h : ¬ S.doR o < 0) : S.doR o = (S.len : Int) ∧ ∀ x, S.doS o x = S.put o x := by
  unfold Ms.doR at h ⊢
  by_cases e : S.e ≠ 0 ∨ S.bad o = true ∨ S.full = true ∨ S.out o = true
  · rw [if_pos e] at h; exact absurd (by decide) h
  · rw [if_neg e]
    refine ⟨rfl, fun x => ?_⟩
    unfold Ms.doS
    rw [if_neg (fun q => e (.inl q)), if_neg (fun q => e (.inr (.inl q))), if_neg (fun q => e (.inr (.inr (.inl q)))), if_neg (fun q => e (.inr (.inr (.inr q))))]
theorem doS_n (S : Ms) (o : Op6) (x : Nat) : (S.doS o x).n = S.n := by
  unfold Ms.doS
  repeat' split
  all_goals rfl
theorem doS_tw (S : Ms) (o : Op6) (x : Nat) : (S.doS o x).tw = S.tw := by
  unfold Ms.doS
  repeat' split
  all_goals rfl
theorem beginS_n (S : Ms) (k : Int) : (S.beginS k).n = S.n ∧ (S.beginS k).tw = S.tw ∧ (S.beginS k).TN = S.TN := by
  unfold Ms.beginS
  repeat' split
  all_goals exact ⟨rfl, rfl, rfl⟩
end Go.Proofs.YtpjgpiieminaoaaGreatDoor

/- Wire: what the program's machine must tell, whatever it is made of. -/
namespace Go.Proofs.YtpjgpiieminaoaaGreatDoor
open Go.RowKit
set_option maxRecDepth 100000
/-- What a method of the program's machine leaves. -/
def PmR (Pm : World → Nat → Ms → (Nat → Prop) → Prop) (b : Nat) (S' : Ms) (F : Nat → Prop) (w w' : World) : Prop := ∃ F', Pm w' b S' F' ∧ Tch F w w' ∧ ∀ k, F' k → F k ∨ w.heap.size ≤ k
/-- What is kept of ops and blocks: nothing by a dry machine. -/
def Ms.keep (S : Ms) (n : Nat) : Nat := if S.dry = true then 0 else n
/-- The program's machine: Pm w b S F: in w block b holds it, S its numbers, F the blocks that it owns. -/
structure Mach (Pm : World → Nat → Ms → (Nat → Prop) → Prop) : Prop where
  stays : ∀ {w w' : World} {b : Nat} {S : Ms} {F : Nat → Prop}, Pm w b S F → w.heap.size ≤ w'.heap.size → (∀ k, F k → w'.heap[k]? = w.heap[k]?) → Pm w' b S F
  lt : ∀ {w : World} {b : Nat} {S : Ms} {F : Nat → Prop}, Pm w b S F → ∀ k, F k → k < w.heap.size
  do_ : ∀ (b k : Nat) (S : Ms) (F : Nat → Prop) (o : Op6) (x : Nat) (w : World), Pm w b S F → Bq k S → k ≤ 1000000 → opwf o → x < 2 ^ 64 → Calls Tryz.prog 61 #[.pointer (some ⟨b, 0, none⟩), .agg (opCs o), .int .u64 (x : Int)] w fun e w' => e = .returned (.int .i64 (S.doR o)) ∧ PmR Pm b (S.doS o x) F w w'
  rand : ∀ (b k : Nat) (S : Ms) (F : Nat → Prop) (dom : Int) (w : World), Pm w b S F → Bq k S → k ≤ 1000000 → opwf ⟨1, dom, -1, -1, -1, 0⟩ → Calls Tryz.prog 87 #[.pointer (some ⟨b, 0, none⟩), .int .i64 dom] w fun e w' => e = .returned (.int .i64 (S.doR ⟨1, dom, -1, -1, -1, 0⟩)) ∧ PmR Pm b (S.doS ⟨1, dom, -1, -1, -1, 0⟩ 0) F w w'
  const_ : ∀ (b k : Nat) (S : Ms) (F : Nat → Prop) (dom : Int) (c : Nat) (w : World), Pm w b S F → Bq k S → k ≤ 1000000 → opwf ⟨3, dom, -1, -1, -1, c⟩ → Calls Tryz.prog 26 #[.pointer (some ⟨b, 0, none⟩), .int .i64 dom, .int .u64 (c : Int)] w fun e w' => e = .returned (.int .i64 (S.doR ⟨3, dom, -1, -1, -1, c⟩)) ∧ PmR Pm b (S.doS ⟨3, dom, -1, -1, -1, c⟩ 0) F w w'
  two : ∀ (b k : Nat) (S : Ms) (F : Nat → Prop) (kd dom p q : Int) (w : World), Pm w b S F → Bq k S → k ≤ 1000000 → opwf ⟨kd, dom, p, q, -1, 0⟩ → Calls Tryz.prog 88 #[.pointer (some ⟨b, 0, none⟩), .int .i64 kd, .int .i64 dom, .int .i64 p, .int .i64 q] w fun e w' => e = .returned (.int .i64 (S.doR ⟨kd, dom, p, q, -1, 0⟩)) ∧ PmR Pm b (S.doS ⟨kd, dom, p, q, -1, 0⟩ 0) F w w'
  one : ∀ (b k : Nat) (S : Ms) (F : Nat → Prop) (kd dom p : Int) (c : Nat) (w : World), Pm w b S F → Bq k S → k ≤ 1000000 → opwf ⟨kd, dom, p, -1, -1, c⟩ → Calls Tryz.prog 72 #[.pointer (some ⟨b, 0, none⟩), .int .i64 kd, .int .i64 dom, .int .i64 p, .int .u64 (c : Int)] w fun e w' => e = .returned (.int .i64 (S.doR ⟨kd, dom, p, -1, -1, c⟩)) ∧ PmR Pm b (S.doS ⟨kd, dom, p, -1, -1, c⟩ 0) F w w'
  open_ : ∀ (b k : Nat) (S : Ms) (F : Nat → Prop) (p q r : Int) (w : World), Pm w b S F → Bq k S → k ≤ 1000000 → opwf ⟨12, -1, p, q, r, 0⟩ → Calls Tryz.prog 31 #[.pointer (some ⟨b, 0, none⟩), .int .i64 p, .int .i64 q, .int .i64 r] w fun e w' => e = .returned (.int .u64 (S.opR ⟨12, -1, p, q, r, 0⟩ : Nat)) ∧ PmR Pm b (S.doS ⟨12, -1, p, q, r, 0⟩ 0) F w w'
  begin_ : ∀ (b k : Nat) (S : Ms) (F : Nat → Prop) (kd : Int) (w : World), Pm w b S F → Bq k S → k ≤ 1000000 → Calls Tryz.prog 75 #[.pointer (some ⟨b, 0, none⟩), .int .i64 kd] w fun e w' => e = .returned (.tuple #[]) ∧ PmR Pm b (S.beginS kd) F w w'
  end_ : ∀ (b k : Nat) (S : Ms) (F : Nat → Prop) (w : World), Pm w b S F → Bq k S → k ≤ 1000000 → Calls Tryz.prog 78 #[.pointer (some ⟨b, 0, none⟩)] w fun e w' => e = .returned (.tuple #[]) ∧ PmR Pm b S.endS F w w'
  n : ∀ (b k : Nat) (S : Ms) (F : Nat → Prop) (w : World), Pm w b S F → Bq k S → k ≤ 1000000 → Calls Tryz.prog 60 #[.pointer (some ⟨b, 0, none⟩)] w fun e w' => e = .returned (.int .i64 S.n) ∧ Below w.heap.size w w'
  err : ∀ (b k : Nat) (S : Ms) (F : Nat → Prop) (w : World), Pm w b S F → Bq k S → k ≤ 1000000 → Calls Tryz.prog 43 #[.pointer (some ⟨b, 0, none⟩)] w fun e w' => e = .returned (.int .i64 (S.e : Nat)) ∧ Below w.heap.size w w'
  trace : ∀ (b k : Nat) (S : Ms) (F : Nat → Prop) (w : World), Pm w b S F → Bq k S → k ≤ 1000000 → Calls Tryz.prog 45 #[.pointer (some ⟨b, 0, none⟩)] w fun e w' => ∃ v0 v1, e = .returned (.agg #[.int .i64 S.n, v0, v1]) ∧ ROp w' v0 (S.keep S.L) S.f ∧ RSp w' v1 (S.keep S.M) S.g ∧ Below w.heap.size w w'
  values : ∀ (b k : Nat) (S : Ms) (F : Nat → Prop) (w : World), Pm w b S F → Bq k S → k ≤ 1000000 → Calls Tryz.prog 42 #[.pointer (some ⟨b, 0, none⟩)] w fun e w' => ∃ v, e = .returned v ∧ Rd .u64 w' v (wdL S.v (S.keep S.L)) ∧ Below w.heap.size w w'
theorem row_c {w : World} {n i : Nat} {cs : Array Value} {T : TypeId} {u : Value} (h : w.heap[n]? = some (.cells cs T (0, 0))) (hu : cs[i]? = some u) : w.cell? ⟨n, i, none⟩ = some u := by
  rw [cell_of_row w n i _ _ _ h]; exact hu
theorem Bq.bd {k : Nat} {S : Ms} (h : Bq k S) (hk : k ≤ 100000) : Bd S := by
  have h1 := h.len
  unfold Ms.len at h1
  have h2 := h.M
  have h3 := h.words
  have h4 := h.draws
  exact ⟨by omega, by omega, by omega, by omega, by omega, h.used, h.free, h.TN, h.v, h.tw⟩
theorem Dm.ftlt {lo : LoG} {b : Nat} {w : World} {S : Ms} {ov bv vv tv : Value} (h : Dm lo w b S ov bv vv tv) {k : Nat} (hk : Ft b ov bv vv k) : k < w.heap.size := by
  rcases hk with rfl | e | e | e
  · exact h.lt
  · exact (h.ops.lt k e).2
  · exact (h.bls.lt k e).2
  · exact (h.val.lt k e).2
theorem Dm.ftlo {lo : LoG} {b : Nat} {w : World} {S : Ms} {ov bv vv tv : Value} (h : Dm lo w b S ov bv vv tv) {k : Nat} (hk : Ft b ov bv vv k) : lo.lo ≤ k := by
  rcases hk with rfl | e | e | e
  · exact h.lob
  · exact (h.ops.lt k e).1
  · exact (h.bls.lt k e).1
  · exact (h.val.lt k e).1
theorem Dm.stays {lo : LoG} {b : Nat} {w w' : World} {S : Ms} {ov bv vv tv : Value} (h : Dm lo w b S ov bv vv tv) (hs : w.heap.size ≤ w'.heap.size) (ho : ∀ k, Ft b ov bv vv k → w'.heap[k]? = w.heap[k]?) (hg : ∀ k, lo.G k → k < w.heap.size → w'.heap[k]? = w.heap[k]?) : Dm lo w' b S ov bv vv tv :=
  ⟨(ho b (.inl rfl)).trans h.blk, h.lob, h.ops.stays fun k hk => ho k (.inr (.inl hk)), h.bls.stays fun k hk => ho k (.inr (.inr (.inl hk))), h.val.stays fun k hk => ho k (.inr (.inr (.inr hk))),
   h.hob, h.hbb, h.hvb, h.hobv, h.hov, h.hbv, rds_stays h.tap hs fun g hF hlt => hg g hF.2.2.2.2 hlt⟩
/-- Both machines, in one world: the program's with the numbers S1 in block p, the document's with S2 in block b; X: blocks that are neither's. -/
def Bz (Pm : World → Nat → Ms → (Nat → Prop) → Prop) (lo : Nat) (X : Nat → Prop) (W wx : World) (p b : Nat) (S1 S2 : Ms) : Prop :=
  ∃ F G ov bv vv tv, Pm wx p S1 F ∧ Dm ⟨lo, G⟩ wx b S2 ov bv vv tv ∧ (∀ k, F k → lo ≤ k ∧ ¬ Ft b ov bv vv k ∧ ¬ G k ∧ ¬ X k) ∧ (∀ k, X k → k < wx.heap.size ∧ ¬ Ft b ov bv vv k ∧ ¬ G k) ∧ (∀ k, G k → k < wx.heap.size) ∧ Below lo W wx ∧ lo ≤ wx.heap.size
section
variable {Pm : World → Nat → Ms → (Nat → Prop) → Prop} {lo : Nat} {X : Nat → Prop} {W wx wy : World} {p b : Nat} {S1 S2 S' : Ms}
theorem Bz.low (h : Bz Pm lo X W wx p b S1 S2) : Below lo W wx := by
  obtain ⟨_, _, _, _, _, _, _, _, _, _, _, h, _⟩ := h; exact h
theorem Bz.los (h : Bz Pm lo X W wx p b S1 S2) : lo ≤ wx.heap.size := by
  obtain ⟨_, _, _, _, _, _, _, _, _, _, _, _, h⟩ := h; exact h
theorem Bz.words (h : Bz Pm lo X W wx p b S1 S2) : wx.cell? ⟨b, 2, none⟩ = some (.int .i64 (S2.words : Int)) := by
  obtain ⟨F, G, ov, bv, vv, tv, h1, h2, _⟩ := h
  exact h2.c_words
theorem Bz.dry (h : Bz Pm lo X W wx p b S1 S2) : wx.cell? ⟨b, 14, none⟩ = some (.bool S2.dry) := by
  obtain ⟨F, G, ov, bv, vv, tv, h1, h2, _⟩ := h
  exact h2.c_dry
theorem Bz.vals (h : Bz Pm lo X W wx p b S1 S2) : ∃ a cap, wx.cell? ⟨b, 10, none⟩ = some (.slice a S2.L cap) ∧ (0 < S2.L → ∃ g, a = some ⟨g, 0, none⟩ ∧ ∀ i, i < S2.L → wx.cell? ⟨g, i, none⟩ = some (.int .u64 (S2.v i : Int))) := by
  obtain ⟨F, G, ov, bv, vv, tv, h1, h2, _⟩ := h
  obtain ⟨a, cap, rfl, hc⟩ := h2.vals
  exact ⟨a, cap, h2.c_vv, hc⟩
/-- New blocks alone. -/
theorem Bz.self (hM : Mach Pm) (h : Bz Pm lo X W wx p b S1 S2) (hb : Below wx.heap.size wx wy) : Bz Pm lo X W wy p b S1 S2 := by
  obtain ⟨F, G, ov, bv, vv, tv, h1, h2, h3, h4, h5, h6, h7⟩ := h
  exact ⟨F, G, ov, bv, vv, tv, hM.stays h1 hb.size (fun k hk => hb.block k (hM.lt h1 k hk)), h2.self hb, h3, fun k hk => ⟨Nat.lt_of_lt_of_le (h4 k hk).1 hb.size, (h4 k hk).2⟩, fun k hk => Nat.lt_of_lt_of_le (h5 k hk) hb.size, h6.trans (hb.mono h7), Nat.le_trans h7 hb.size⟩
theorem Bz.drew (hM : Mach Pm) (h : Bz Pm lo X W wx p b S1 S2) : Bz Pm lo X W wx.drew p b S1 S2 := h.self hM ((Below.refl _ _).drew)
/-- More blocks that are neither's. -/
theorem Bz.more (hM : Mach Pm) (h : Bz Pm lo X W wx p b S1 S2) (hb : Below wx.heap.size wx wy) : Bz Pm lo (fun k => X k ∨ wx.heap.size ≤ k ∧ k < wy.heap.size) W wy p b S1 S2 := by
  obtain ⟨F, G, ov, bv, vv, tv, h1, h2, h3, h4, h5, h6, h7⟩ := h
  refine ⟨F, G, ov, bv, vv, tv, hM.stays h1 hb.size (fun k hk => hb.block k (hM.lt h1 k hk)), h2.self hb, fun k hk => ⟨(h3 k hk).1, (h3 k hk).2.1, (h3 k hk).2.2.1, ?_⟩, fun k hk => ?_, fun k hk => Nat.lt_of_lt_of_le (h5 k hk) hb.size, h6.trans (hb.mono h7), Nat.le_trans h7 hb.size⟩
  · rintro (e | e)
    · exact (h3 k hk).2.2.2 e
    · have := hM.lt h1 k hk; omega
  · rcases hk with e | e
    · exact ⟨Nat.lt_of_lt_of_le (h4 k e).1 hb.size, (h4 k e).2⟩
    · exact ⟨e.2, fun f => by have := h2.ftlt f; omega, fun g => by have := h5 k g; omega⟩
/-- What is neither machine's is turned. -/
theorem Bz.apart (hM : Mach Pm) {H : Nat → Prop} (h : Bz Pm lo X W wx p b S1 S2) (hb : Tch H wx wy) (hH : ∀ k, H k → X k ∧ lo ≤ k) : Bz Pm lo X W wy p b S1 S2 := by
  obtain ⟨F, G, ov, bv, vv, tv, h1, h2, h3, h4, h5, h6, h7⟩ := h
  exact ⟨F, G, ov, bv, vv, tv, hM.stays h1 hb.size (fun k hk => hb.block k (hM.lt h1 k hk) (fun f => (h3 k hk).2.2.2 (hH k f).1)), h2.stays hb.size (fun k hk => hb.block k (h2.ftlt hk) (fun f => (h4 k (hH k f).1).2.1 hk)) (fun k hk hlt => hb.block k hlt (fun f => (h4 k (hH k f).1).2.2 hk)), h3, fun k hk => ⟨Nat.lt_of_lt_of_le (h4 k hk).1 hb.size, (h4 k hk).2⟩, fun k hk => Nat.lt_of_lt_of_le (h5 k hk) hb.size, h6.trans (hb.below (fun k f => (hH k f).2) h7), Nat.le_trans h7 hb.size⟩
/-- Fewer. -/
theorem Bz.less {Y : Nat → Prop} (h : Bz Pm lo X W wx p b S1 S2) (hY : ∀ k, Y k → X k) : Bz Pm lo Y W wx p b S1 S2 := by
  obtain ⟨F, G, ov, bv, vv, tv, h1, h2, h3, h4, h5, h6, h7⟩ := h
  exact ⟨F, G, ov, bv, vv, tv, h1, h2, fun k hk => ⟨(h3 k hk).1, (h3 k hk).2.1, (h3 k hk).2.2.1, fun e => (h3 k hk).2.2.2 (hY k e)⟩, fun k hk => h4 k (hY k hk), h5, h6, h7⟩
/-- The program's machine goes on. -/
theorem Bz.prog (_hM : Mach Pm) {F G : Nat → Prop} {p' : Nat} {ov bv vv tv : Value} (_h1 : Pm wx p S1 F) (h2 : Dm ⟨lo, G⟩ wx b S2 ov bv vv tv) (h3 : ∀ k, F k → lo ≤ k ∧ ¬ Ft b ov bv vv k ∧ ¬ G k ∧ ¬ X k) (h4 : ∀ k, X k → k < wx.heap.size ∧ ¬ Ft b ov bv vv k ∧ ¬ G k) (h5 : ∀ k, G k → k < wx.heap.size) (h6 : Below lo W wx) (h7 : lo ≤ wx.heap.size)
    (hr : PmR Pm p' S' F wx wy) : Bz Pm lo X W wy p' b S' S2 ∧ ∀ k, X k → wy.heap[k]? = wx.heap[k]? := by
  obtain ⟨F', g1, g2, g3⟩ := hr
  refine ⟨⟨F', G, ov, bv, vv, tv, g1, h2.stays g2.size (fun k hk => g2.block k (h2.ftlt hk) (fun f => (h3 k f).2.1 hk)) (fun k hk hlt => g2.block k hlt (fun f => (h3 k f).2.2.1 hk)), fun k hk => ?_, fun k hk => ⟨Nat.lt_of_lt_of_le (h4 k hk).1 g2.size, (h4 k hk).2⟩, fun k hk => Nat.lt_of_lt_of_le (h5 k hk) g2.size, h6.trans (g2.below (fun k f => (h3 k f).1) h7), Nat.le_trans h7 g2.size⟩, fun k hk => g2.block k (h4 k hk).1 (fun f => (h3 k f).2.2.2 hk)⟩
  rcases g3 k hk with f | f
  · exact h3 k f
  · exact ⟨by omega, fun e => by have := h2.ftlt e; omega, fun e => by have := h5 k e; omega, fun e => by have := (h4 k e).1; omega⟩
/-- The document's machine goes on. -/
theorem Bz.doc (hM : Mach Pm) {F G : Nat → Prop} {ov bv vv tv : Value} (h1 : Pm wx p S1 F) (h2 : Dm ⟨lo, G⟩ wx b S2 ov bv vv tv) (h3 : ∀ k, F k → lo ≤ k ∧ ¬ Ft b ov bv vv k ∧ ¬ G k ∧ ¬ X k) (h4 : ∀ k, X k → k < wx.heap.size ∧ ¬ Ft b ov bv vv k ∧ ¬ G k) (h5 : ∀ k, G k → k < wx.heap.size) (h6 : Below lo W wx) (h7 : lo ≤ wx.heap.size)
    (hr : DmR ⟨lo, G⟩ b ov bv vv S' wx wy) : Bz Pm lo X W wy p b S1 S' ∧ ∀ k, X k → wy.heap[k]? = wx.heap[k]? := by
  obtain ⟨ov', bv', vv', tv', g1, g2, g3⟩ := hr
  refine ⟨⟨F, G, ov', bv', vv', tv', hM.stays h1 g2.size (fun k hk => g2.block k (hM.lt h1 k hk) (h3 k hk).2.1), g1, fun k hk => ⟨(h3 k hk).1, fun e => ?_, (h3 k hk).2.2⟩, fun k hk => ⟨Nat.lt_of_lt_of_le (h4 k hk).1 g2.size, fun e => ?_, (h4 k hk).2.2⟩, fun k hk => Nat.lt_of_lt_of_le (h5 k hk) g2.size, h6.trans (g2.below (fun k f => h2.ftlo f) h7), Nat.le_trans h7 g2.size⟩, fun k hk => g2.block k (h4 k hk).1 (h4 k hk).2.1⟩
  · rcases g3 k e with f | f
    · exact (h3 k hk).2.1 f
    · have := hM.lt h1 k hk; omega
  · rcases g3 k e with f | f
    · exact (h4 k hk).2.1 f
    · have := (h4 k hk).1; omega
end
section
variable {Pm : World → Nat → Ms → (Nat → Prop) → Prop} (hM : Mach Pm) {lo : Nat} {X : Nat → Prop} {W w : World} {b bd k : Nat} {S S2 : Ms}
include hM
theorem zopen_ (p q r : Int) (h : Bz Pm lo X W w b bd S S2) (hq : Bq k S) (hk : k ≤ 1000000) (ho : opwf ⟨12, -1, p, q, r, 0⟩) :
    Calls Tryz.prog 31 #[.pointer (some ⟨b, 0, none⟩), .int .i64 p, .int .i64 q, .int .i64 r] w fun e w' => e = .returned (.int .u64 (S.opR ⟨12, -1, p, q, r, 0⟩ : Nat)) ∧ Bz Pm lo X W w' b bd (S.doS ⟨12, -1, p, q, r, 0⟩ 0) S2 ∧ ∀ k, X k → w'.heap[k]? = w.heap[k]? := by
  obtain ⟨F, G, ov, bv, vv, tv, h1, h2, h3, h4, h5, h6, h7⟩ := h
  exact (hM.open_ b k S F p q r w h1 hq hk ho).mono fun e w' hr => ⟨hr.1, Bz.prog hM h1 h2 h3 h4 h5 h6 h7 hr.2⟩
theorem ydo (o : Op6) (x : Nat) (h : Bz Pm lo X W w b bd S2 S) (hq : Bq k S) (hk : k ≤ 100000) (ho : opwf o) (hx : x < 2 ^ 64) :
    Calls Tryz.prog 28 #[.pointer (some ⟨bd, 0, none⟩), .agg (opCs o), .int .u64 (x : Int)] w fun e w' => e = .returned (.int .i64 (S.doR o)) ∧ Bz Pm lo X W w' b bd S2 (S.doS o x) ∧ ∀ k, X k → w'.heap[k]? = w.heap[k]? := by
  obtain ⟨F, G, ov, bv, vv, tv, h1, h2, h3, h4, h5, h6, h7⟩ := h
  exact (ddo_any ⟨lo, G⟩ bd S o x ov bv vv tv w h2 (hq.bd hk) hx (by have := ho.2.2.2.2.2; omega)).mono fun e w' hr => ⟨hr.1, Bz.doc hM h1 h2 h3 h4 h5 h6 h7 hr.2⟩
theorem ydo0 (o : Op6) (h : Bz Pm lo X W w b bd S2 S) (hq : Bq k S) (hk : k ≤ 100000) (ho : opwf o) :
    Calls Tryz.prog 28 #[.pointer (some ⟨bd, 0, none⟩), .agg (opCs o), .int .u64 0] w fun e w' => e = .returned (.int .i64 (S.doR o)) ∧ Bz Pm lo X W w' b bd S2 (S.doS o 0) ∧ ∀ k, X k → w'.heap[k]? = w.heap[k]? :=
  ydo hM o 0 h hq hk ho (by decide)
theorem yopen (p q r : Int) (h : Bz Pm lo X W w b bd S2 S) (hq : Bq k S) (hk : k ≤ 100000) (ho : opwf ⟨12, -1, p, q, r, 0⟩) :
    Calls Tryz.prog 28 #[.pointer (some ⟨bd, 0, none⟩), .agg #[.int .i64 12, .int .i64 (-1), .int .i64 p, .int .i64 q, .int .i64 r, .int .u64 0], .int .u64 0] w fun e w' => e = .returned (.int .i64 (S.doR ⟨12, -1, p, q, r, 0⟩)) ∧ Bz Pm lo X W w' b bd S2 (S.doS ⟨12, -1, p, q, r, 0⟩ 0) ∧ ∀ k, X k → w'.heap[k]? = w.heap[k]? :=
  ydo hM ⟨12, -1, p, q, r, 0⟩ 0 h hq hk ho (by decide)
end
theorem dop0_any (K D A B : Int) (w : World) : Calls Tryz.prog 29 #[.int .i64 K, .int .i64 D, .int .i64 A, .int .i64 B, .int .u64 0] w fun e w' => e = .returned (.agg (opCs ⟨K, D, A, B, -1, 0⟩)) ∧ Below w.heap.size w w' := dop_any K D A B 0 w
theorem dopc_any (K D A B : Int) (C : Nat) (w : World) : Calls Tryz.prog 29 #[.int .i64 K, .int .i64 D, .int .i64 A, .int .i64 B, .int .u64 (C : Int)] w fun e w' => e = .returned (.agg (opCs ⟨K, D, A, B, -1, C⟩)) ∧ Below w.heap.size w w' := dop_any K D A B C w
end Go.Proofs.YtpjgpiieminaoaaGreatDoor

namespace Go.Proofs.YtpjgpiieminaoaaGreatDoor
open Go.RowKit

/-- The atomic number, read and added to. -/
theorem aload_any (b o : Nat) (x : Int) (w : World) (hc : w.cell? ⟨b, o, none⟩ = some (.int .i64 x)) :
    Calls Tryz.prog 71 #[.pointer (some ⟨b, o, none⟩)] w fun e w' => e = .returned (.int .i64 x) ∧ w = w' := by
  have hl := run_call_load (P := Tryz.prog) Tryz.func83 (by kernel_rfl) (by kernel_rfl) (by kernel_rfl) .i64 (by kernel_rfl) hc
  go_enter Tryz.func71, Tryz.ntmps71
  go_wp2
  go_ret
  exact ⟨rfl, rfl⟩

theorem aadd_any (b o : Nat) (x : Int) (w : World) (hc : w.cell? ⟨b, o, none⟩ = some (.int .i64 x)) (hz : w.frozen? ⟨b, o, none⟩ = false) (h0 : 0 ≤ x) (h1 : x < 9223372036854775807) :
    Calls Tryz.prog 106 #[.pointer (some ⟨b, o, none⟩), .int .i64 1] w fun e w' => e = .returned (.int .i64 (x + 1)) ∧ w' = w.setCell ⟨b, o, none⟩ (.int .i64 (x + 1)) := by
  have hl := run_call_add (P := Tryz.prog) Tryz.func108 (by kernel_rfl) (by kernel_rfl) (by kernel_rfl) .i64 (by kernel_rfl) (y := 1) (s := x + 1) hc hz (by simp [go_sem]; rw [IntWalk.i64_in _ (by omega)])
  go_enter Tryz.func106, Tryz.ntmps106
  go_wp2
  go_ret
  exact ⟨rfl, rfl⟩

end Go.Proofs.YtpjgpiieminaoaaGreatDoor

namespace Go.Proofs.YtpjgpiieminaoaaGreatDoor
open Go.RowKit

/-! ### a slice whose cells lie in a block of a kind -/
/-! ### a tape -/
/-- At block b lies a tape: of the words zs d were drawn, and it may be drawn up to e. It and its words lie in the blocks from lo to hi. -/
def TapeAt (w : World) (lo hi b : Nat) (zs : List Int) (d e : Nat) : Prop :=
  ∃ wv, w.heap[b]? = some (.cells #[wv, .int .i64 d, .int .i64 e] 99 (0, 0)) ∧ RdS .u64 w (fun g => lo ≤ g ∧ g < hi ∧ g ≠ b) wv zs ∧ d ≤ e ∧ e ≤ zs.length ∧ lo ≤ b ∧ b < hi ∧ hi ≤ w.heap.size

theorem TapeAt.lt {w : World} {lo hi b : Nat} {zs : List Int} {d e : Nat} (h : TapeAt w lo hi b zs d e) : lo ≤ b ∧ b < hi ∧ hi ≤ w.heap.size := by
  obtain ⟨_, _, _, _, _, h⟩ := h; exact h
theorem TapeAt.only {w w' : World} {lo hi b c : Nat} {zs : List Int} {d e : Nat} (h : TapeAt w lo hi b zs d e) (o : Only c w w') (hn : c < lo ∨ hi ≤ c) : TapeAt w' lo hi b zs d e := by
  obtain ⟨wv, hb, hr, h3, h4, h5, h6, h7⟩ := h
  exact ⟨wv, (o.block b (by omega) (by omega)).trans hb, hr.only o (fun g hg => by omega), h3, h4, h5, h6, Nat.le_trans h7 o.size⟩
theorem TapeAt.below {w w' : World} {lo hi b : Nat} {zs : List Int} {d e : Nat} (h : TapeAt w lo hi b zs d e) (o : Below w.heap.size w w') : TapeAt w' lo hi b zs d e := by
  obtain ⟨wv, hb, hr, h3, h4, h5, h6, h7⟩ := h
  exact ⟨wv, (o.block b (by omega)).trans hb, hr.below o, h3, h4, h5, h6, Nat.le_trans h7 o.size⟩
theorem TapeAt.drew {w : World} {lo hi b : Nat} {zs : List Int} {d e : Nat} (h : TapeAt w lo hi b zs d e) : TapeAt w.drew lo hi b zs d e := h.below ((Below.refl _ _).drew)
theorem TapeAt.drewN {w : World} {lo hi b : Nat} {zs : List Int} {d e : Nat} (h : TapeAt w lo hi b zs d e) (n : Nat) : TapeAt (w.drewN n) lo hi b zs d e := h.below ⟨rfl, rfl, rfl, Nat.le_refl _, fun _ _ => rfl⟩
theorem TapeAt.len {w : World} {lo hi b : Nat} {zs : List Int} {d e : Nat} (h : TapeAt w lo hi b zs d e) : d ≤ e ∧ e ≤ zs.length ∧ zs.length ≤ 17592186043904 := by
  obtain ⟨_, _, ⟨_, _, _, _, _, h, _⟩, h1, h2, _⟩ := h
  refine ⟨h1, h2, ?_⟩
  simp [IntKind.bits] at h; omega

theorem TapeAt.setD {w : World} {lo hi b : Nat} {zs : List Int} {d e : Nat} (h : TapeAt w lo hi b zs d e) (d' : Nat) (hd : d' ≤ e) : TapeAt (w.setCell ⟨b, 1, none⟩ (.int .i64 d')) lo hi b zs d' e := by
  obtain ⟨wv, hb, hr, h3, h4, h5, h6, h7⟩ := h
  exact ⟨wv, set3_1 hb, hr.only (Only.set (g := b) w (p := ⟨b, 1, none⟩) rfl _) (fun g hg => hg.2.2), hd, h4, h5, h6, by simpa [World.setCell] using h7⟩
theorem TapeAt.setE {w : World} {lo hi b : Nat} {zs : List Int} {d e : Nat} (h : TapeAt w lo hi b zs d e) (e' : Nat) (hd : d ≤ e') (he : e' ≤ zs.length) : TapeAt (w.setCell ⟨b, 2, none⟩ (.int .i64 e')) lo hi b zs d e' := by
  obtain ⟨wv, hb, hr, h3, h4, h5, h6, h7⟩ := h
  exact ⟨wv, set3_2 hb, hr.only (Only.set (g := b) w (p := ⟨b, 2, none⟩) rfl _) (fun g hg => hg.2.2), hd, he, h5, h6, by simpa [World.setCell] using h7⟩

/-! ### the tape's functions -/
theorem used_any (lo hi b : Nat) (zs : List Int) (d e : Nat) (w : World) (h : TapeAt w lo hi b zs d e) :
    Calls Tryz.prog 49 #[.pointer (some ⟨b, 0, none⟩)] w fun r w' => r = .returned (.int .i64 d) ∧ w = w' := by
  obtain ⟨wv, hb, hr, h3, h4, h5, h6, h7⟩ := h
  obtain ⟨c0, c1, c2, hz⟩ := cells3 hb
  have C1 := hid c1
  clear hb hr hz
  go_enter Tryz.func49, Tryz.ntmps49
  go_wp2_with (go_at_call 71; refine (aload_any b 1 d _ C1.out).mono ?_; rintro r w' ⟨rfl, rfl⟩)
  go_ret
  exact ⟨rfl, rfl⟩

end Go.Proofs.YtpjgpiieminaoaaGreatDoor

namespace Go.Proofs.YtpjgpiieminaoaaGreatDoor
open Go.RowKit

set_option maxHeartbeats 400000 in
theorem left_any (lo hi b : Nat) (zs : List Int) (d e : Nat) (w : World) (h : TapeAt w lo hi b zs d e) :
    Calls Tryz.prog 48 #[.pointer (some ⟨b, 0, none⟩)] w fun r w' => r = .returned (.int .i64 ((zs.length : Int) - d)) ∧ ∃ n, w' = w.drewN n := by
  have hl := h.len
  have H := hid h
  obtain ⟨wv, hb, hr, h3, h4, h5, h6, h7⟩ := h
  obtain ⟨a, cap, rfl, _⟩ := hr
  obtain ⟨c0, c1, c2, hz⟩ := cells3 hb
  have hl1 := hl.2.2
  clear hb hz c1 c2
  have hsub : IntKind.i64.wrap ((zs.length : Int) - d) = (zs.length : Int) - d := IntWalk.i64_in _ (by omega)
  go_enter Tryz.func48, Tryz.ntmps48
  go_wp2
  go_quiet ((go_at_call 49; exact Calls.quiet_of_same ((used_any lo hi b zs d e _ (H.out.drewN _)).mono fun _ _ ⟨a, b⟩ => ⟨a, b.symm⟩)))
  go_wp2
  go_ret
  exact ⟨rfl, _, rfl⟩

set_option maxHeartbeats 400000 in
theorem allowed_any (lo hi b : Nat) (zs : List Int) (d e : Nat) (w : World) (h : TapeAt w lo hi b zs d e) :
    Calls Tryz.prog 105 #[.pointer (some ⟨b, 0, none⟩)] w fun r w' => r = .returned (.int .i64 ((e : Int) - d)) ∧ ∃ n, w' = w.drewN n := by
  have hl := h.len
  have H := hid h
  obtain ⟨wv, hb, hr, h3, h4, h5, h6, h7⟩ := h
  obtain ⟨a, cap, rfl, _⟩ := hr
  obtain ⟨c0, c1, c2, hz⟩ := cells3 hb
  have hl1 := hl.2.2
  clear hb hz c1 c0
  have hsub : IntKind.i64.wrap ((e : Int) - d) = (e : Int) - d := IntWalk.i64_in _ (by omega)
  go_enter Tryz.func105, Tryz.ntmps105
  go_wp2
  go_quiet ((go_at_call 49; exact Calls.quiet_of_same ((used_any lo hi b zs d e _ (H.out.drewN _)).mono fun _ _ ⟨a, b⟩ => ⟨a, b.symm⟩)))
  go_wp2
  go_ret
  exact ⟨rfl, _, rfl⟩

theorem reserve_ok (lo hi b : Nat) (zs : List Int) (d e n : Nat) (w : World) (h : TapeAt w lo hi b zs d e) (ho : d + n ≤ zs.length) :
    Calls Tryz.prog 21 #[.pointer (some ⟨b, 0, none⟩), .int .i64 n] w fun r w' => r = .returned (.int .i64 0) ∧ TapeAt w' lo hi b zs d (d + n) ∧ Only b w w' := by
  have hl := h.len
  have H := hid h
  obtain ⟨wv, hb, hr, h3, h4, h5, h6, h7⟩ := h
  obtain ⟨c0, c1, c2, hz⟩ := cells3 hb
  have hz2 := hz 2
  clear hb hz c1 c0 hr
  have hn2 : ¬ ((zs.length : Int) - d < n) := by omega
  go_enter Tryz.func21, Tryz.ntmps21
  go_wp2_with (first
    | (go_at_call 48; refine (left_any lo hi b zs d e _ H.out).mono ?_; rintro r w' ⟨rfl, nq, rfl⟩)
    | (go_at_call 49; refine (used_any lo hi b zs d e _ (H.out.drewN _)).mono ?_; rintro r w' ⟨rfl, rfl⟩))
  go_ret
  exact ⟨rfl, by have := (H.out.drewN nq).setE (d + n) (by omega) (by omega); simpa using this, (Only.drewN b w nq).trans (Only.set (g := b) (w.drewN nq) (p := ⟨b, 2, none⟩) rfl _)⟩

theorem draw_none (lo hi b : Nat) (zs : List Int) (d e : Nat) (w : World) (h : TapeAt w lo hi b zs d e) (he : e ≤ d) :
    Calls Tryz.prog 102 #[.pointer (some ⟨b, 0, none⟩)] w fun r w' => r = .returned (.tuple #[.int .u64 0, .bool false]) ∧ ∃ n, w' = w.drewN n := by
  have hl := h.len
  have H := hid h
  clear h
  have e0 : ((e : Int) - d == 0) = true := by simp; omega
  go_enter Tryz.func102, Tryz.ntmps102
  go_wp2_with (go_at_call 105; refine (allowed_any lo hi b zs d e _ H.out).mono ?_; rintro r w' ⟨rfl, nq, rfl⟩)
  go_ret2
  exact ⟨rfl, _, rfl⟩

theorem aadd_tape (lo hi b : Nat) (zs : List Int) (d e : Nat) (w : World) (h : TapeAt w lo hi b zs d e) (he : d < e) :
    Calls Tryz.prog 106 #[.pointer (some ⟨b, 1, none⟩), .int .i64 1] w fun r w' => r = .returned (.int .i64 ((d : Int) + 1)) ∧ TapeAt w' lo hi b zs (d + 1) e ∧ Only b w w' ∧ w'.cell? ⟨b, 0, none⟩ = w.cell? ⟨b, 0, none⟩ := by
  have hl := h.len
  have H := hid h
  obtain ⟨wv, hb, hr, h3, h4, h5, h6, h7⟩ := h
  obtain ⟨c0, c1, c2, hz⟩ := cells3 hb
  refine (aadd_any b 1 d w c1 (hz 1) (by omega) (by omega)).mono ?_
  rintro r w' ⟨rfl, rfl⟩
  exact ⟨rfl, H.out.setD (d + 1) he, Only.set (g := b) w (p := ⟨b, 1, none⟩) rfl _, World.cell?_setCell_other _ _ _ _ (by simp)⟩

set_option maxHeartbeats 800000 in
theorem draw_some (lo hi b : Nat) (zs : List Int) (d e : Nat) (w : World) (h : TapeAt w lo hi b zs d e) (he : d < e) :
    Calls Tryz.prog 102 #[.pointer (some ⟨b, 0, none⟩)] w fun r w' => r = .returned (.tuple #[.int .u64 (nth zs d), .bool true]) ∧ TapeAt w' lo hi b zs (d + 1) e ∧ Only b w w' := by
  have hl := h.len
  have H := hid h
  obtain ⟨wv, hb, hr, h3, h4, h5, h6, h7⟩ := h
  obtain ⟨a, cap, rfl, hcap1, hcap2, _, _, hr0⟩ := hr
  obtain ⟨g, off, rfl, hg0, hg, hr⟩ := hr0 (by omega)
  obtain ⟨c0, c1, c2, hz⟩ := cells3 hb
  have hz1 := hz 1
  have hrd := hr d (by omega)
  have hbg : ¬ g = b := hg0.2.2
  have hbg2 : ¬ b = g := fun e => hg0.2.2 e.symm
  clear hb hz hr hr0
  have e0 : ((e : Int) - d == 0) = false := by simp; omega
  have hi0 : (0 : Int) ≤ (d : Int) := by omega
  have hi1 : (d : Int) < (zs.length : Int) := by omega
  have hw1 : IntKind.i64.wrap (d : Int) = (d : Int) := IntWalk.i64_in _ (by omega)
  go_enter Tryz.func102, Tryz.ntmps102
  go_wp2_with (go_at_call 105; refine (allowed_any lo hi b zs d e _ H.out).mono ?_; rintro r w' ⟨rfl, nq, rfl⟩)
  go_region_with (go_at_call 106; (with_reducible refine (aadd_tape lo hi b zs d e _ (H.out.drewN _) he).mono ?_); rintro r w1 ⟨rfl, ht, ho, hc1⟩; have hc01 := hc1.trans c0; have hrd1 := (ho.cell (p := ⟨g, off + d, none⟩) hg hbg).trans hrd; have HT := hid ht; have HO := hid ho.undrewN; clear ht ho hrd hc1)
  all_goals
    go_wp2
    go_ret2
    exact ⟨rfl, HT.out, HO.out⟩
end Go.Proofs.YtpjgpiieminaoaaGreatDoor

namespace Go.Proofs.YtpjgpiieminaoaaGreatDoor
open Go.RowKit

theorem info25 : (Tryz.prog.info? 22).map (fun i => (i.zero, i.size, i.bytes)) = some (some (.int .u64 0), 1, 8) := by kernel_rfl

def OwnRes (w : World) (zs : List Int) (r : Ending) (w' : World) : Prop := ∃ u, r = .returned u ∧ Own .u64 w.heap.size 22 w' u zs ∧ Below w.heap.size w w'

theorem clone_any (v : Value) (zs : List Int) (w : World) (h : Rd .u64 w v zs) : Calls Tryz.prog 47 #[v] w (OwnRes w zs) := by
  have HR := hid h
  obtain ⟨a, cap, rfl, hl, hz, hc⟩ := h
  have hn := fun (a : Option Addr) (n c : Nat) => Lib.run_eql_slice_nil (P := Tryz.prog) w 24 22 a n c 0 0 Tryz.underlying24
  clear hc hz
  cases a with
  | none =>
    have h0 : zs = [] := by
      apply List.eq_nil_of_length_eq_zero
      obtain ⟨_, _, _, _, _, h⟩ := HR.out
      rcases Nat.eq_zero_or_pos zs.length with h0 | h0
      · exact h0
      · obtain ⟨_, _, e, _⟩ := h h0
        simp_all
    have H0 := hid h0
    clear h0
    go_enter Tryz.func47, Tryz.ntmps47
    go_wp2
    go_ret
    exact ⟨_, rfl, by rw [H0.out]; exact own_nil _ _ _ _, Below.refl _ _⟩
  | some a =>
    have HLI : Hid ((([] : List Int).length + zs.length) * (IntKind.u64.bits / 8) ≤ 140737488355328) := hid (by simp [IntKind.bits] at hl ⊢; omega)
    have HZ := hid (HR.out.self ((Below.refl w.heap.size w).alloc (Nat.le_refl _) (.cells #[] 22)))
    clear hl
    go_enter Tryz.func47, Tryz.ntmps47
    go_wp2_with (refine wpList_append_rd rfl (.tmp 5) (.tmp 6) 24 rfl .u64 w.heap.size 22 Tryz.underlying24 info25 (by decide) _ [] rfl (own_empty w (Nat.le_refl _)) _ zs rfl HZ.out HLI.out (by simp) w.heap.size w ((Below.refl _ _).alloc (Nat.le_refl _) _) (Nat.le_refl _) ?_; intro u w1 hown hlow hsz1; rw [List.nil_append] at hown; have HO := hid hown; have HL := hid hlow; clear hown hlow)
    go_ret
    exact ⟨_, rfl, HO.out, HL.out⟩

def NewRes (w : World) (zs : List Int) (r : Ending) (w' : World) : Prop := ∃ b, r = .returned (.pointer (some ⟨b, 0, none⟩)) ∧ TapeAt w' w.heap.size w'.heap.size b zs 0 0 ∧ Below w.heap.size w w'

theorem new_any (v : Value) (zs : List Int) (w : World) (h : Rd .u64 w v zs) : Calls Tryz.prog 20 #[v] w (NewRes w zs) := by
  have HR := hid h
  have hl : zs.length * 8 ≤ 140737488351232 := by obtain ⟨_, _, _, h, _⟩ := h; simpa [IntKind.bits] using h
  have HWF := hid (wfs_of h)
  have HL := hid hl
  clear h hl
  go_enter Tryz.func20, Tryz.ntmps20
  go_wp2_with (go_at_call 47; refine (clone_any v zs _ HR.out).mono ?_; rintro r w1 ⟨u, rfl, hown, hlow⟩; obtain ⟨pa, cp, rfl, hq1, hq2⟩ := hown.slice; clear hq1 hq2; have HO := hid hown; have HB := hid hlow; clear hown hlow)
  go_ret
  refine ⟨w1.heap.size, rfl, ⟨_, heap_alloc_new w1 _, ?_, Nat.le_refl _, Nat.zero_le _, HB.out.size, by simp, Nat.le_refl _⟩, HB.out.alloc HB.out.size _⟩
  refine ((HO.out.rds (by have := HL.out; simpa [IntKind.bits] using this) HWF.out).imp fun g hg _ => ⟨hg.1, by simp; omega, by omega⟩).below ((Below.refl _ _).alloc (Nat.le_refl _) _)
end Go.Proofs.YtpjgpiieminaoaaGreatDoor

/- Wire: the law's rows of words: a tape's words, rows that are alike. -/
namespace Go.Proofs.YtpjgpiieminaoaaGreatDoor
open Go.RowKit
set_option maxRecDepth 100000
/-- The words that a tape is made of. -/
structure Lcg (T : Nat → Nat) : Prop where
  z : T 0 = 1
  s : ∀ i, T (i + 1) = (T i * 6364136223846793005 + 1442695040888963407) % 18446744073709551616
theorem Lcg.lt {T : Nat → Nat} (h : Lcg T) : ∀ i, T i < 18446744073709551616
  | 0 => by rw [h.z]; decide
  | i + 1 => by rw [h.s]; exact Nat.mod_lt _ (by decide)
end Go.Proofs.YtpjgpiieminaoaaGreatDoor

/- Wire: the document's machine: a new one, a trace of it. -/
namespace Go.Proofs.YtpjgpiieminaoaaGreatDoor
open Go.RowKit
set_option maxRecDepth 100000
/-- A new machine. -/
def startS (n most : Int) (tw : Nat → Nat) (TN free : Nat) : Ms :=
  ⟨n, most, 0, 0, 0, 0, 0, 0, 0, fun _ => ⟨0, 0, 0, 0, 0, 0⟩, 0, fun _ => ⟨0, 0, 0⟩, fun _ => 0, tw, TN, 0, free, false⟩
theorem orw_nil (w : World) (B : Nat) (E : TypeId) (k : Nat) (c : Nat → List Value) : Orw w B E k (.slice none 0 0) 0 c := ⟨by simp [recs], .inl ⟨rfl, rfl⟩⟩
theorem dnew_any (lo : LoG) (n most : Int) (tw : Nat → Nat) (TN : Nat) (v : Value) (w : World) (h : RdS .u64 w lo.G v (wdL tw TN)) (hlo : lo.lo ≤ w.heap.size) :
    Calls Tryz.prog 23 #[.int .i64 n, v, .int .i64 most] w fun e w' => e = .returned (.pointer (some ⟨w.heap.size, 0, none⟩)) ∧ Dm lo w' w.heap.size (startS n most tw TN TN) (.slice none 0 0) (.slice none 0 0) (.slice none 0 0) v ∧ Below w.heap.size w w' := by
  obtain ⟨a, cap, rfl, h2⟩ := id h
  rw [wdL_len] at h
  have HN : Hid (Dm lo (w.alloc (.cells (dmC (startS n most tw TN TN) (.slice none 0 0) (.slice none 0 0) (.slice none 0 0) (.slice a TN cap)) 73)) w.heap.size (startS n most tw TN TN) (.slice none 0 0) (.slice none 0 0) (.slice none 0 0) (.slice a TN cap)) := hid ⟨heap_alloc_new _ _, hlo, orw_nil _ _ _ _ _, orw_nil _ _ _ _ _, orw_nil _ _ _ _ _, by simp [Value.ownBlock], by simp [Value.ownBlock], by simp [Value.ownBlock], by simp [Value.ownBlock], by simp [Value.ownBlock], by simp [Value.ownBlock], by
    show RdS .u64 _ _ _ (wdL (fun i => tw (0 + i)) (TN - 0))
    have e : (fun i => tw (0 + i)) = tw := funext fun i => by rw [Nat.zero_add]
    rw [e, Nat.sub_zero]
    have h3 := h.imp (T := fun g => g ≠ w.heap.size ∧ (Value.slice none 0 0).ownBlock ≠ some g ∧ (Value.slice none 0 0).ownBlock ≠ some g ∧ (Value.slice none 0 0).ownBlock ≠ some g ∧ lo.G g) (fun g hg hlt => ⟨by omega, by simp [Value.ownBlock], by simp [Value.ownBlock], by simp [Value.ownBlock], hg⟩)
    exact rds_self h3 ((Below.refl _ _).alloc (Nat.le_refl _) _)⟩
  have HB : Hid (Below w.heap.size w (w.alloc (.cells (dmC (startS n most tw TN TN) (.slice none 0 0) (.slice none 0 0) (.slice none 0 0) (.slice a TN cap)) 73))) := hid ((Below.refl _ _).alloc (Nat.le_refl _) _)
  rw [wdL_len]
  clear h h2
  go_enter Tryz.func23, Tryz.ntmps23
  go_wp2
  go_ret
  exact ⟨rfl, HN.out, HB.out⟩
theorem dtrace_any (lo : LoG) (b : Nat) (S : Ms) (ov bv vv tv : Value) (w : World) (h : Dm lo w b S ov bv vv tv) :
    Calls Tryz.prog 46 #[.pointer (some ⟨b, 0, none⟩)] w fun e w' => e = .returned (.agg #[.int .i64 S.n, ov, bv]) ∧ Below w.heap.size w w' := by
  obtain ⟨a, cap, rfl, _⟩ := h.ops.slice
  obtain ⟨a', cap', rfl, _⟩ := h.bls.slice
  obtain ⟨w1, hw1⟩ : ∃ w1, w.alloc (.cells #[.int .i64 0, .slice none 0 0, .slice none 0 0] 90) = w1 := ⟨_, rfl⟩
  have HB : Hid (Below w.heap.size w w1) := hid (by rw [← hw1]; exact (Below.refl _ _).alloc (Nat.le_refl _) _)
  have hn : w1.heap[w.heap.size]? = some (.cells #[.int .i64 0, .slice none 0 0, .slice none 0 0] 90 (0, 0)) := by rw [← hw1]; exact heap_alloc_new _ _
  have HD := hid ((h.self HB.out).drew)
  have HNE : Hid (b ≠ w.heap.size) := hid (by have := h.lt; omega)
  have HN : Hid (w1.drew.heap[w.heap.size]? = some (.cells #[.int .i64 0, .slice none 0 0, .slice none 0 0] 90 (0, 0))) := hid hn
  have HB2 := hid HB.out.drew
  have HW1 := hid hw1
  clear h hn hw1
  go_enter Tryz.func46, Tryz.ntmps46
  go_wp2_with fail
  rw [HW1.out]
  refine wp_region_noPanic ?_
  refine wp_region_held_drew (S := fun w' => w'.cell? ⟨b, 0, none⟩ = some (.int .i64 S.n) ∧ w'.cell? ⟨b, 8, none⟩ = some (.slice a S.L cap) ∧ w'.cell? ⟨b, 9, none⟩ = some (.slice a' S.M cap')) (by kernel_rfl) (⟨HD.out.c_n, HD.out.c_ov, HD.out.c_bv⟩) (fun h0 => ?_)
  generalize w1.drew = y1 at *
  refine wpAnyH_take (i := 0) (v := .pointer (some ⟨b, 0, none⟩)) rfl (by kernel_rfl) (by kernel_rfl) (by kernel_rfl) (fun _ _ _ h => h) (.inl ⟨by rfl, fun w hw => by clear hw; go_simp⟩) h0 ?_
  try simp only [Act.put, lay_out]
  refine wpAnyH_take (i := 1) (v := .pointer (some ⟨b, 0, none⟩)) rfl (by kernel_rfl) (by kernel_rfl) (by kernel_rfl) (fun _ _ _ h => h) (.inl ⟨by rfl, fun w hw => by clear hw; go_simp⟩) h0 ?_
  try simp only [Act.put, lay_out]
  refine wpAnyH_take (i := 2) (v := .pointer (some ⟨b, 0, none⟩)) rfl (by kernel_rfl) (by kernel_rfl) (by kernel_rfl) (fun _ _ _ h => h) (.inl ⟨by rfl, fun w hw => by clear hw; go_simp⟩) h0 ?_
  try simp only [Act.put, lay_out]
  refine wpAnyH_take (i := 3) (v := .int .i64 S.n) rfl (by kernel_rfl) (by kernel_rfl) (by kernel_rfl) (fun _ _ _ h => h) (.inl ⟨by rfl, fun w hw => by have hc := hw.1; clear hw; go_simp⟩) h0 ?_
  try simp only [Act.put, lay_out]
  refine wpAnyH_take (i := 4) (v := .pointer (some ⟨b, 0, none⟩)) rfl (by kernel_rfl) (by kernel_rfl) (by kernel_rfl) (fun _ _ _ h => h) (.inl ⟨by rfl, fun w hw => by clear hw; go_simp⟩) h0 ?_
  try simp only [Act.put, lay_out]
  refine wpAnyH_take (i := 5) (v := .pointer (some ⟨b, 0, none⟩)) rfl (by kernel_rfl) (by kernel_rfl) (by kernel_rfl) (fun _ _ _ h => h) (.inl ⟨by rfl, fun w hw => by clear hw; go_simp⟩) h0 ?_
  try simp only [Act.put, lay_out]
  refine wpAnyH_take (i := 6) (v := .pointer (some ⟨b, 8, none⟩)) rfl (by kernel_rfl) (by kernel_rfl) (by kernel_rfl) (fun _ _ _ h => h) (.inl ⟨by rfl, fun w hw => by clear hw; go_simp⟩) h0 ?_
  try simp only [Act.put, lay_out]
  refine wpAnyH_take (i := 7) (v := .slice a S.L cap) rfl (by kernel_rfl) (by kernel_rfl) (by kernel_rfl) (fun _ _ _ h => h) (.inl ⟨by rfl, fun w hw => by have hc := hw.2.1; clear hw; go_simp⟩) h0 ?_
  try simp only [Act.put, lay_out]
  refine wpAnyH_take (i := 8) (v := .pointer (some ⟨b, 0, none⟩)) rfl (by kernel_rfl) (by kernel_rfl) (by kernel_rfl) (fun _ _ _ h => h) (.inl ⟨by rfl, fun w hw => by clear hw; go_simp⟩) h0 ?_
  try simp only [Act.put, lay_out]
  refine wpAnyH_take (i := 9) (v := .pointer (some ⟨b, 0, none⟩)) rfl (by kernel_rfl) (by kernel_rfl) (by kernel_rfl) (fun _ _ _ h => h) (.inl ⟨by rfl, fun w hw => by clear hw; go_simp⟩) h0 ?_
  try simp only [Act.put, lay_out]
  refine wpAnyH_take (i := 10) (v := .pointer (some ⟨b, 9, none⟩)) rfl (by kernel_rfl) (by kernel_rfl) (by kernel_rfl) (fun _ _ _ h => h) (.inl ⟨by rfl, fun w hw => by clear hw; go_simp⟩) h0 ?_
  try simp only [Act.put, lay_out]
  refine wpAnyH_take (i := 11) (v := .slice a' S.M cap') rfl (by kernel_rfl) (by kernel_rfl) (by kernel_rfl) (fun _ _ _ h => h) (.inl ⟨by rfl, fun w hw => by have hc := hw.2.2; clear hw; go_simp⟩) h0 ?_
  try simp only [Act.put, lay_out]
  refine wpAnyH_take (i := 12) (v := .agg #[.int .i64 S.n, .slice a S.L cap, .slice a' S.M cap']) rfl (by kernel_rfl) (by kernel_rfl) (by kernel_rfl) (fun _ _ _ h => h) (.inl ⟨by rfl, fun w hw => by clear hw; go_simp⟩) h0 ?_
  try simp only [Act.put, lay_out]
  refine wpAnyH_ready (rs := [13]) (by kernel_rfl) (by simp) (AllReadyH.cons rfl (fun K hK => ?_) AllReadyH.nil)
  rw [if_pos (by rfl)]
  refine wp_store_row 90 _ _ rfl w.heap.size _ rfl rfl 90 _ HN.out (by kernel_rfl) rfl (by kernel_rfl) ?_
  have hbk := setRow_other y1 w.heap.size b #[.int .i64 S.n, .slice a S.L cap, .slice a' S.M cap'] HNE.out
  have XC := hid hbk
  clear hbk
  refine hK.out _ _ (⟨(World.cell?_of_block XC.out).trans HD.out.c_n, (World.cell?_of_block XC.out).trans HD.out.c_ov, (World.cell?_of_block XC.out).trans HD.out.c_bv⟩) (fun h1x => ?_)
  clear hK K
  try simp only [Act.put, lay_out]
  refine wpAnyH_done (by kernel_rfl) ?_ _
  refine NoPanic.normal ?_
  clear h0 h1x
  try simp only [Act.put, lay_out]
  go_wp2
  exact bodyPost_ret (results_cell_row (by rfl) _ _ w.heap.size 90 #[.int .i64 S.n, .slice a S.L cap, .slice a' S.M cap'] (0, 0) _ rfl (setRow_heap _ _ _ _ _ _ HN.out) Tryz.underlying90 rfl (by kernel_rfl)) rfl ⟨rfl, below_setRow HB2.out (Nat.le_refl _) _⟩
end Go.Proofs.YtpjgpiieminaoaaGreatDoor

/- General: traces that are the same, and what follows. No program is named. -/
namespace Go.Proofs.YtpjgpiieminaoaaGreatDoor

def smS (x y : Sp3) : Bool := decide (x.K = y.K ∧ x.F = y.F ∧ x.T = y.T)
theorem smS_refl (x : Sp3) : smS x x = true := decide_eq_true ⟨rfl, rfl, rfl⟩
end Go.Proofs.YtpjgpiieminaoaaGreatDoor
