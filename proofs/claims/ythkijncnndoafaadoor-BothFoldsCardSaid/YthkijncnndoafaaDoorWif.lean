import Derived.Test.YthkijncnndoafaaDoorProg
import Derived.Test.YthkijncnndoafaaDoorKcm
import Derived.Test.YthkijncnndoafaaDoorGen
import Derived.Laws.LoneSync
import Derived.WalkSpells
import Derived.Outline
import Derived.Deep.RegionHeld3
import Derived.Deep.DrawnRows
import Derived.Lib.SliceRun
import Derived.Laws.StructEq
import Derived.Deep.CutRange
import Derived.Deep.CutBlock
import Derived.Laws.Rows
import Derived.Laws.Tables
import Derived.ChangeKeysEq
import Derived.Deep.WholeRow
/- Wire: what the program's machine must tell, whatever it is made of. -/
namespace Go.Proofs.YthkijncnndoafaaDoor
open Go.RowKit
set_option maxRecDepth 100000
/-- What a method of the program's machine leaves. -/
def PmR (Pm : World → Nat → Ms → (Nat → Prop) → Prop) (b : Nat) (S' : Ms) (F : Nat → Prop) (w w' : World) : Prop := ∃ F', Pm w' b S' F' ∧ Tch F w w' ∧ ∀ k, F' k → F k ∨ w.heap.size ≤ k
/-- What is kept of ops and blocks: nothing by a dry machine. -/
def Ms.keep (S : Ms) (n : Nat) : Nat := if S.dry = true then 0 else n
/-- The program's machine: Pm w b S F: in w block b holds it, S its numbers, F the blocks that it owns. -/
structure Mach (Pm : World → Nat → Ms → (Nat → Prop) → Prop) : Prop where
  stays : ∀ {w w' : World} {b : Nat} {S : Ms} {F : Nat → Prop}, Pm w b S F → w.heap.size ≤ w'.heap.size → (∀ k, F k → w'.heap[k]? = w.heap[k]?) → Pm w' b S F
  lt : ∀ {w : World} {b : Nat} {S : Ms} {F : Nat → Prop}, Pm w b S F → ∀ k, F k → k < w.heap.size
  do_ : ∀ (b k : Nat) (S : Ms) (F : Nat → Prop) (o : Op6) (x : Nat) (w : World), Pm w b S F → Bq k S → k ≤ 1000000 → opwf o → x < 2 ^ 64 → Calls Tryd.prog 41 #[.pointer (some ⟨b, 0, none⟩), .agg (opCs o), .int .u64 (x : Int)] w fun e w' => e = .returned (.int .i64 (S.doR o)) ∧ PmR Pm b (S.doS o x) F w w'
  rand : ∀ (b k : Nat) (S : Ms) (F : Nat → Prop) (dom : Int) (w : World), Pm w b S F → Bq k S → k ≤ 1000000 → opwf ⟨1, dom, -1, -1, -1, 0⟩ → Calls Tryd.prog 66 #[.pointer (some ⟨b, 0, none⟩), .int .i64 dom] w fun e w' => e = .returned (.int .i64 (S.doR ⟨1, dom, -1, -1, -1, 0⟩)) ∧ PmR Pm b (S.doS ⟨1, dom, -1, -1, -1, 0⟩ 0) F w w'
  const_ : ∀ (b k : Nat) (S : Ms) (F : Nat → Prop) (dom : Int) (c : Nat) (w : World), Pm w b S F → Bq k S → k ≤ 1000000 → opwf ⟨3, dom, -1, -1, -1, c⟩ → Calls Tryd.prog 21 #[.pointer (some ⟨b, 0, none⟩), .int .i64 dom, .int .u64 (c : Int)] w fun e w' => e = .returned (.int .i64 (S.doR ⟨3, dom, -1, -1, -1, c⟩)) ∧ PmR Pm b (S.doS ⟨3, dom, -1, -1, -1, c⟩ 0) F w w'
  two : ∀ (b k : Nat) (S : Ms) (F : Nat → Prop) (kd dom p q : Int) (w : World), Pm w b S F → Bq k S → k ≤ 1000000 → opwf ⟨kd, dom, p, q, -1, 0⟩ → Calls Tryd.prog 67 #[.pointer (some ⟨b, 0, none⟩), .int .i64 kd, .int .i64 dom, .int .i64 p, .int .i64 q] w fun e w' => e = .returned (.int .i64 (S.doR ⟨kd, dom, p, q, -1, 0⟩)) ∧ PmR Pm b (S.doS ⟨kd, dom, p, q, -1, 0⟩ 0) F w w'
  one : ∀ (b k : Nat) (S : Ms) (F : Nat → Prop) (kd dom p : Int) (c : Nat) (w : World), Pm w b S F → Bq k S → k ≤ 1000000 → opwf ⟨kd, dom, p, -1, -1, c⟩ → Calls Tryd.prog 34 #[.pointer (some ⟨b, 0, none⟩), .int .i64 kd, .int .i64 dom, .int .i64 p, .int .u64 (c : Int)] w fun e w' => e = .returned (.int .i64 (S.doR ⟨kd, dom, p, -1, -1, c⟩)) ∧ PmR Pm b (S.doS ⟨kd, dom, p, -1, -1, c⟩ 0) F w w'
  begin_ : ∀ (b k : Nat) (S : Ms) (F : Nat → Prop) (kd : Int) (w : World), Pm w b S F → Bq k S → k ≤ 1000000 → Calls Tryd.prog 53 #[.pointer (some ⟨b, 0, none⟩), .int .i64 kd] w fun e w' => e = .returned (.tuple #[]) ∧ PmR Pm b (S.beginS kd) F w w'
  end_ : ∀ (b k : Nat) (S : Ms) (F : Nat → Prop) (w : World), Pm w b S F → Bq k S → k ≤ 1000000 → Calls Tryd.prog 56 #[.pointer (some ⟨b, 0, none⟩)] w fun e w' => e = .returned (.tuple #[]) ∧ PmR Pm b S.endS F w w'
  n : ∀ (b k : Nat) (S : Ms) (F : Nat → Prop) (w : World), Pm w b S F → Bq k S → k ≤ 1000000 → Calls Tryd.prog 40 #[.pointer (some ⟨b, 0, none⟩)] w fun e w' => e = .returned (.int .i64 S.n) ∧ Below w.heap.size w w'
  draws : ∀ (b k : Nat) (S : Ms) (F : Nat → Prop) (w : World), Pm w b S F → Bq k S → k ≤ 1000000 → Calls Tryd.prog 10 #[.pointer (some ⟨b, 0, none⟩)] w fun e w' => e = .returned (.int .i64 (S.draws : Nat)) ∧ Below w.heap.size w w'
  err : ∀ (b k : Nat) (S : Ms) (F : Nat → Prop) (w : World), Pm w b S F → Bq k S → k ≤ 1000000 → Calls Tryd.prog 9 #[.pointer (some ⟨b, 0, none⟩)] w fun e w' => e = .returned (.int .i64 (S.e : Nat)) ∧ Below w.heap.size w w'
  values : ∀ (b k : Nat) (S : Ms) (F : Nat → Prop) (w : World), Pm w b S F → Bq k S → k ≤ 1000000 → Calls Tryd.prog 8 #[.pointer (some ⟨b, 0, none⟩)] w fun e w' => ∃ v, e = .returned v ∧ Rd .u64 w' v (wdL S.v (S.keep S.L)) ∧ Below w.heap.size w w'
theorem row_c {w : World} {n i : Nat} {cs : Array Value} {T : TypeId} {u : Value} (h : w.heap[n]? = some (.cells cs T (0, 0))) (hu : cs[i]? = some u) : w.cell? ⟨n, i, none⟩ = some u := by
  rw [cell_of_row w n i _ _ _ h]; exact hu
theorem Dm.ftlt {lo : LoG} {b : Nat} {w : World} {S : Ms} {ov bv vv tv : Value} (h : Dm lo w b S ov bv vv tv) {k : Nat} (hk : Ft b ov bv vv k) : k < w.heap.size := by
  rcases hk with rfl | e | e | e
  · exact h.lt
  · exact (h.ops.lt k e).2
  · exact (h.bls.lt k e).2
  · exact (h.val.lt k e).2
theorem Dm.stays {lo : LoG} {b : Nat} {w w' : World} {S : Ms} {ov bv vv tv : Value} (h : Dm lo w b S ov bv vv tv) (hs : w.heap.size ≤ w'.heap.size) (ho : ∀ k, Ft b ov bv vv k → w'.heap[k]? = w.heap[k]?) (hg : ∀ k, lo.G k → k < w.heap.size → w'.heap[k]? = w.heap[k]?) : Dm lo w' b S ov bv vv tv :=
  ⟨(ho b (.inl rfl)).trans h.blk, h.lob, h.ops.stays fun k hk => ho k (.inr (.inl hk)), h.bls.stays fun k hk => ho k (.inr (.inr (.inl hk))), h.val.stays fun k hk => ho k (.inr (.inr (.inr hk))),
   h.hob, h.hbb, h.hvb, h.hobv, h.hov, h.hbv, rds_stays h.tap hs fun g hF hlt => hg g hF.2.2.2.2 hlt⟩
/-- Both machines, in one world: the program's with the numbers S1 in block p, the document's with S2 in block b; X: blocks that are neither's. -/
def Bz (Pm : World → Nat → Ms → (Nat → Prop) → Prop) (lo : Nat) (X : Nat → Prop) (W wx : World) (p b : Nat) (S1 S2 : Ms) : Prop :=
  ∃ F G ov bv vv tv, Pm wx p S1 F ∧ Dm ⟨lo, G⟩ wx b S2 ov bv vv tv ∧ (∀ k, F k → lo ≤ k ∧ ¬ Ft b ov bv vv k ∧ ¬ G k ∧ ¬ X k) ∧ (∀ k, X k → k < wx.heap.size ∧ ¬ Ft b ov bv vv k ∧ ¬ G k) ∧ (∀ k, G k → k < wx.heap.size) ∧ Below lo W wx ∧ lo ≤ wx.heap.size
section
variable {Pm : World → Nat → Ms → (Nat → Prop) → Prop} {lo : Nat} {X : Nat → Prop} {W wx wy : World} {p b : Nat} {S1 S2 S' : Ms}
theorem Bz.low (h : Bz Pm lo X W wx p b S1 S2) : Below lo W wx := by
  obtain ⟨_, _, _, _, _, _, _, _, _, _, _, h, _⟩ := h; exact h
theorem Bz.los (h : Bz Pm lo X W wx p b S1 S2) : lo ≤ wx.heap.size := by
  obtain ⟨_, _, _, _, _, _, _, _, _, _, _, _, h⟩ := h; exact h
theorem Bz.words (h : Bz Pm lo X W wx p b S1 S2) : wx.cell? ⟨b, 2, none⟩ = some (.int .i64 (S2.words : Int)) := by
  obtain ⟨F, G, ov, bv, vv, tv, h1, h2, _⟩ := h
  exact h2.c_words
theorem Bz.dry (h : Bz Pm lo X W wx p b S1 S2) : wx.cell? ⟨b, 14, none⟩ = some (.bool S2.dry) := by
  obtain ⟨F, G, ov, bv, vv, tv, h1, h2, _⟩ := h
  exact h2.c_dry
theorem Bz.vals (h : Bz Pm lo X W wx p b S1 S2) : ∃ a cap, wx.cell? ⟨b, 10, none⟩ = some (.slice a S2.L cap) ∧ (0 < S2.L → ∃ g, a = some ⟨g, 0, none⟩ ∧ ∀ i, i < S2.L → wx.cell? ⟨g, i, none⟩ = some (.int .u64 (S2.v i : Int))) := by
  obtain ⟨F, G, ov, bv, vv, tv, h1, h2, _⟩ := h
  obtain ⟨a, cap, rfl, hc⟩ := h2.vals
  exact ⟨a, cap, h2.c_vv, hc⟩
/-- New blocks alone. -/
theorem Bz.self (hM : Mach Pm) (h : Bz Pm lo X W wx p b S1 S2) (hb : Below wx.heap.size wx wy) : Bz Pm lo X W wy p b S1 S2 := by
  obtain ⟨F, G, ov, bv, vv, tv, h1, h2, h3, h4, h5, h6, h7⟩ := h
  exact ⟨F, G, ov, bv, vv, tv, hM.stays h1 hb.size (fun k hk => hb.block k (hM.lt h1 k hk)), h2.self hb, h3, fun k hk => ⟨Nat.lt_of_lt_of_le (h4 k hk).1 hb.size, (h4 k hk).2⟩, fun k hk => Nat.lt_of_lt_of_le (h5 k hk) hb.size, h6.trans (hb.mono h7), Nat.le_trans h7 hb.size⟩
theorem Bz.drew (hM : Mach Pm) (h : Bz Pm lo X W wx p b S1 S2) : Bz Pm lo X W wx.drew p b S1 S2 := h.self hM ((Below.refl _ _).drew)
/-- More blocks that are neither's. -/
theorem Bz.more (hM : Mach Pm) (h : Bz Pm lo X W wx p b S1 S2) (hb : Below wx.heap.size wx wy) : Bz Pm lo (fun k => X k ∨ wx.heap.size ≤ k ∧ k < wy.heap.size) W wy p b S1 S2 := by
  obtain ⟨F, G, ov, bv, vv, tv, h1, h2, h3, h4, h5, h6, h7⟩ := h
  refine ⟨F, G, ov, bv, vv, tv, hM.stays h1 hb.size (fun k hk => hb.block k (hM.lt h1 k hk)), h2.self hb, fun k hk => ⟨(h3 k hk).1, (h3 k hk).2.1, (h3 k hk).2.2.1, ?_⟩, fun k hk => ?_, fun k hk => Nat.lt_of_lt_of_le (h5 k hk) hb.size, h6.trans (hb.mono h7), Nat.le_trans h7 hb.size⟩
  · rintro (e | e)
    · exact (h3 k hk).2.2.2 e
    · have := hM.lt h1 k hk; omega
  · rcases hk with e | e
    · exact ⟨Nat.lt_of_lt_of_le (h4 k e).1 hb.size, (h4 k e).2⟩
    · exact ⟨e.2, fun f => by have := h2.ftlt f; omega, fun g => by have := h5 k g; omega⟩
/-- What is neither machine's is turned. -/
theorem Bz.apart (hM : Mach Pm) {H : Nat → Prop} (h : Bz Pm lo X W wx p b S1 S2) (hb : Tch H wx wy) (hH : ∀ k, H k → X k ∧ lo ≤ k) : Bz Pm lo X W wy p b S1 S2 := by
  obtain ⟨F, G, ov, bv, vv, tv, h1, h2, h3, h4, h5, h6, h7⟩ := h
  exact ⟨F, G, ov, bv, vv, tv, hM.stays h1 hb.size (fun k hk => hb.block k (hM.lt h1 k hk) (fun f => (h3 k hk).2.2.2 (hH k f).1)), h2.stays hb.size (fun k hk => hb.block k (h2.ftlt hk) (fun f => (h4 k (hH k f).1).2.1 hk)) (fun k hk hlt => hb.block k hlt (fun f => (h4 k (hH k f).1).2.2 hk)), h3, fun k hk => ⟨Nat.lt_of_lt_of_le (h4 k hk).1 hb.size, (h4 k hk).2⟩, fun k hk => Nat.lt_of_lt_of_le (h5 k hk) hb.size, h6.trans (hb.below (fun k f => (hH k f).2) h7), Nat.le_trans h7 hb.size⟩
/-- Fewer. -/
theorem Bz.less {Y : Nat → Prop} (h : Bz Pm lo X W wx p b S1 S2) (hY : ∀ k, Y k → X k) : Bz Pm lo Y W wx p b S1 S2 := by
  obtain ⟨F, G, ov, bv, vv, tv, h1, h2, h3, h4, h5, h6, h7⟩ := h
  exact ⟨F, G, ov, bv, vv, tv, h1, h2, fun k hk => ⟨(h3 k hk).1, (h3 k hk).2.1, (h3 k hk).2.2.1, fun e => (h3 k hk).2.2.2 (hY k e)⟩, fun k hk => h4 k (hY k hk), h5, h6, h7⟩
/-- The program's machine goes on. -/
theorem Bz.prog (_hM : Mach Pm) {F G : Nat → Prop} {p' : Nat} {ov bv vv tv : Value} (_h1 : Pm wx p S1 F) (h2 : Dm ⟨lo, G⟩ wx b S2 ov bv vv tv) (h3 : ∀ k, F k → lo ≤ k ∧ ¬ Ft b ov bv vv k ∧ ¬ G k ∧ ¬ X k) (h4 : ∀ k, X k → k < wx.heap.size ∧ ¬ Ft b ov bv vv k ∧ ¬ G k) (h5 : ∀ k, G k → k < wx.heap.size) (h6 : Below lo W wx) (h7 : lo ≤ wx.heap.size)
    (hr : PmR Pm p' S' F wx wy) : Bz Pm lo X W wy p' b S' S2 ∧ ∀ k, X k → wy.heap[k]? = wx.heap[k]? := by
  obtain ⟨F', g1, g2, g3⟩ := hr
  refine ⟨⟨F', G, ov, bv, vv, tv, g1, h2.stays g2.size (fun k hk => g2.block k (h2.ftlt hk) (fun f => (h3 k f).2.1 hk)) (fun k hk hlt => g2.block k hlt (fun f => (h3 k f).2.2.1 hk)), fun k hk => ?_, fun k hk => ⟨Nat.lt_of_lt_of_le (h4 k hk).1 g2.size, (h4 k hk).2⟩, fun k hk => Nat.lt_of_lt_of_le (h5 k hk) g2.size, h6.trans (g2.below (fun k f => (h3 k f).1) h7), Nat.le_trans h7 g2.size⟩, fun k hk => g2.block k (h4 k hk).1 (fun f => (h3 k f).2.2.2 hk)⟩
  rcases g3 k hk with f | f
  · exact h3 k f
  · exact ⟨by omega, fun e => by have := h2.ftlt e; omega, fun e => by have := h5 k e; omega, fun e => by have := (h4 k e).1; omega⟩
end
section
variable {Pm : World → Nat → Ms → (Nat → Prop) → Prop} (hM : Mach Pm) {lo : Nat} {X : Nat → Prop} {W w : World} {b bd k : Nat} {S S2 : Ms}
include hM
end
end Go.Proofs.YthkijncnndoafaaDoor

namespace Go.Proofs.YthkijncnndoafaaDoor
open Go.RowKit

/-- The atomic number, read and added to. -/
theorem aload_any (b o : Nat) (x : Int) (w : World) (hc : w.cell? ⟨b, o, none⟩ = some (.int .i64 x)) :
    Calls Tryd.prog 37 #[.pointer (some ⟨b, o, none⟩)] w fun e w' => e = .returned (.int .i64 x) ∧ w = w' := by
  have hl := run_call_load (P := Tryd.prog) Tryd.func42 (by kernel_rfl) (by kernel_rfl) (by kernel_rfl) .i64 (by kernel_rfl) hc
  go_enter Tryd.func37, Tryd.ntmps37
  go_wp2
  go_ret
  exact ⟨rfl, rfl⟩

theorem aadd_any (b o : Nat) (x : Int) (w : World) (hc : w.cell? ⟨b, o, none⟩ = some (.int .i64 x)) (hz : w.frozen? ⟨b, o, none⟩ = false) (h0 : 0 ≤ x) (h1 : x < 9223372036854775807) :
    Calls Tryd.prog 82 #[.pointer (some ⟨b, o, none⟩), .int .i64 1] w fun e w' => e = .returned (.int .i64 (x + 1)) ∧ w' = w.setCell ⟨b, o, none⟩ (.int .i64 (x + 1)) := by
  have hl := run_call_add (P := Tryd.prog) Tryd.func84 (by kernel_rfl) (by kernel_rfl) (by kernel_rfl) .i64 (by kernel_rfl) (y := 1) (s := x + 1) hc hz (by simp [go_sem]; rw [IntWalk.i64_in _ (by omega)])
  go_enter Tryd.func82, Tryd.ntmps82
  go_wp2
  go_ret
  exact ⟨rfl, rfl⟩

end Go.Proofs.YthkijncnndoafaaDoor

namespace Go.Proofs.YthkijncnndoafaaDoor
open Go.RowKit

/-! ### a slice whose cells lie in a block of a kind -/
/-! ### a tape -/
/-- At block b lies a tape: of the words zs d were drawn, and it may be drawn up to e. It and its words lie in the blocks from lo to hi. -/
def TapeAt (w : World) (lo hi b : Nat) (zs : List Int) (d e : Nat) : Prop :=
  ∃ wv, w.heap[b]? = some (.cells #[wv, .int .i64 d, .int .i64 e] 71 (0, 0)) ∧ RdS .u64 w (fun g => lo ≤ g ∧ g < hi ∧ g ≠ b) wv zs ∧ d ≤ e ∧ e ≤ zs.length ∧ lo ≤ b ∧ b < hi ∧ hi ≤ w.heap.size

theorem TapeAt.lt {w : World} {lo hi b : Nat} {zs : List Int} {d e : Nat} (h : TapeAt w lo hi b zs d e) : lo ≤ b ∧ b < hi ∧ hi ≤ w.heap.size := by
  obtain ⟨_, _, _, _, _, h⟩ := h; exact h
theorem TapeAt.only {w w' : World} {lo hi b c : Nat} {zs : List Int} {d e : Nat} (h : TapeAt w lo hi b zs d e) (o : Only c w w') (hn : c < lo ∨ hi ≤ c) : TapeAt w' lo hi b zs d e := by
  obtain ⟨wv, hb, hr, h3, h4, h5, h6, h7⟩ := h
  exact ⟨wv, (o.block b (by omega) (by omega)).trans hb, hr.only o (fun g hg => by omega), h3, h4, h5, h6, Nat.le_trans h7 o.size⟩
theorem TapeAt.below {w w' : World} {lo hi b : Nat} {zs : List Int} {d e : Nat} (h : TapeAt w lo hi b zs d e) (o : Below w.heap.size w w') : TapeAt w' lo hi b zs d e := by
  obtain ⟨wv, hb, hr, h3, h4, h5, h6, h7⟩ := h
  exact ⟨wv, (o.block b (by omega)).trans hb, hr.below o, h3, h4, h5, h6, Nat.le_trans h7 o.size⟩
theorem TapeAt.drew {w : World} {lo hi b : Nat} {zs : List Int} {d e : Nat} (h : TapeAt w lo hi b zs d e) : TapeAt w.drew lo hi b zs d e := h.below ((Below.refl _ _).drew)
theorem TapeAt.drewN {w : World} {lo hi b : Nat} {zs : List Int} {d e : Nat} (h : TapeAt w lo hi b zs d e) (n : Nat) : TapeAt (w.drewN n) lo hi b zs d e := h.below ⟨rfl, rfl, rfl, Nat.le_refl _, fun _ _ => rfl⟩
theorem TapeAt.len {w : World} {lo hi b : Nat} {zs : List Int} {d e : Nat} (h : TapeAt w lo hi b zs d e) : d ≤ e ∧ e ≤ zs.length ∧ zs.length ≤ 17592186043904 := by
  obtain ⟨_, _, ⟨_, _, _, _, _, h, _⟩, h1, h2, _⟩ := h
  refine ⟨h1, h2, ?_⟩
  simp [IntKind.bits] at h; omega

theorem TapeAt.setD {w : World} {lo hi b : Nat} {zs : List Int} {d e : Nat} (h : TapeAt w lo hi b zs d e) (d' : Nat) (hd : d' ≤ e) : TapeAt (w.setCell ⟨b, 1, none⟩ (.int .i64 d')) lo hi b zs d' e := by
  obtain ⟨wv, hb, hr, h3, h4, h5, h6, h7⟩ := h
  exact ⟨wv, set3_1 hb, hr.only (Only.set (g := b) w (p := ⟨b, 1, none⟩) rfl _) (fun g hg => hg.2.2), hd, h4, h5, h6, by simpa [World.setCell] using h7⟩
theorem TapeAt.setE {w : World} {lo hi b : Nat} {zs : List Int} {d e : Nat} (h : TapeAt w lo hi b zs d e) (e' : Nat) (hd : d ≤ e') (he : e' ≤ zs.length) : TapeAt (w.setCell ⟨b, 2, none⟩ (.int .i64 e')) lo hi b zs d e' := by
  obtain ⟨wv, hb, hr, h3, h4, h5, h6, h7⟩ := h
  exact ⟨wv, set3_2 hb, hr.only (Only.set (g := b) w (p := ⟨b, 2, none⟩) rfl _) (fun g hg => hg.2.2), hd, he, h5, h6, by simpa [World.setCell] using h7⟩

/-! ### the tape's functions -/
theorem used_any (lo hi b : Nat) (zs : List Int) (d e : Nat) (w : World) (h : TapeAt w lo hi b zs d e) :
    Calls Tryd.prog 29 #[.pointer (some ⟨b, 0, none⟩)] w fun r w' => r = .returned (.int .i64 d) ∧ w = w' := by
  obtain ⟨wv, hb, hr, h3, h4, h5, h6, h7⟩ := h
  obtain ⟨c0, c1, c2, hz⟩ := cells3 hb
  have C1 := hid c1
  clear hb hr hz
  go_enter Tryd.func29, Tryd.ntmps29
  go_wp2_with (go_at_call 37; refine (aload_any b 1 d _ C1.out).mono ?_; rintro r w' ⟨rfl, rfl⟩)
  go_ret
  exact ⟨rfl, rfl⟩

end Go.Proofs.YthkijncnndoafaaDoor

namespace Go.Proofs.YthkijncnndoafaaDoor
open Go.RowKit

set_option maxHeartbeats 400000 in
theorem left_any (lo hi b : Nat) (zs : List Int) (d e : Nat) (w : World) (h : TapeAt w lo hi b zs d e) :
    Calls Tryd.prog 28 #[.pointer (some ⟨b, 0, none⟩)] w fun r w' => r = .returned (.int .i64 ((zs.length : Int) - d)) ∧ ∃ n, w' = w.drewN n := by
  have hl := h.len
  have H := hid h
  obtain ⟨wv, hb, hr, h3, h4, h5, h6, h7⟩ := h
  obtain ⟨a, cap, rfl, _⟩ := hr
  obtain ⟨c0, c1, c2, hz⟩ := cells3 hb
  have hl1 := hl.2.2
  clear hb hz c1 c2
  have hsub : IntKind.i64.wrap ((zs.length : Int) - d) = (zs.length : Int) - d := IntWalk.i64_in _ (by omega)
  go_enter Tryd.func28, Tryd.ntmps28
  go_wp2
  go_quiet ((go_at_call 29; exact Calls.quiet_of_same ((used_any lo hi b zs d e _ (H.out.drewN _)).mono fun _ _ ⟨a, b⟩ => ⟨a, b.symm⟩)))
  go_wp2
  go_ret
  exact ⟨rfl, _, rfl⟩

set_option maxHeartbeats 400000 in
theorem allowed_any (lo hi b : Nat) (zs : List Int) (d e : Nat) (w : World) (h : TapeAt w lo hi b zs d e) :
    Calls Tryd.prog 81 #[.pointer (some ⟨b, 0, none⟩)] w fun r w' => r = .returned (.int .i64 ((e : Int) - d)) ∧ ∃ n, w' = w.drewN n := by
  have hl := h.len
  have H := hid h
  obtain ⟨wv, hb, hr, h3, h4, h5, h6, h7⟩ := h
  obtain ⟨a, cap, rfl, _⟩ := hr
  obtain ⟨c0, c1, c2, hz⟩ := cells3 hb
  have hl1 := hl.2.2
  clear hb hz c1 c0
  have hsub : IntKind.i64.wrap ((e : Int) - d) = (e : Int) - d := IntWalk.i64_in _ (by omega)
  go_enter Tryd.func81, Tryd.ntmps81
  go_wp2
  go_quiet ((go_at_call 29; exact Calls.quiet_of_same ((used_any lo hi b zs d e _ (H.out.drewN _)).mono fun _ _ ⟨a, b⟩ => ⟨a, b.symm⟩)))
  go_wp2
  go_ret
  exact ⟨rfl, _, rfl⟩

theorem reserve_ok (lo hi b : Nat) (zs : List Int) (d e n : Nat) (w : World) (h : TapeAt w lo hi b zs d e) (ho : d + n ≤ zs.length) :
    Calls Tryd.prog 14 #[.pointer (some ⟨b, 0, none⟩), .int .i64 n] w fun r w' => r = .returned (.int .i64 0) ∧ TapeAt w' lo hi b zs d (d + n) ∧ Only b w w' := by
  have hl := h.len
  have H := hid h
  obtain ⟨wv, hb, hr, h3, h4, h5, h6, h7⟩ := h
  obtain ⟨c0, c1, c2, hz⟩ := cells3 hb
  have hz2 := hz 2
  clear hb hz c1 c0 hr
  have hn2 : ¬ ((zs.length : Int) - d < n) := by omega
  go_enter Tryd.func14, Tryd.ntmps14
  go_wp2_with (first
    | (go_at_call 28; refine (left_any lo hi b zs d e _ H.out).mono ?_; rintro r w' ⟨rfl, nq, rfl⟩)
    | (go_at_call 29; refine (used_any lo hi b zs d e _ (H.out.drewN _)).mono ?_; rintro r w' ⟨rfl, rfl⟩))
  go_ret
  exact ⟨rfl, by have := (H.out.drewN nq).setE (d + n) (by omega) (by omega); simpa using this, (Only.drewN b w nq).trans (Only.set (g := b) (w.drewN nq) (p := ⟨b, 2, none⟩) rfl _)⟩

theorem draw_none (lo hi b : Nat) (zs : List Int) (d e : Nat) (w : World) (h : TapeAt w lo hi b zs d e) (he : e ≤ d) :
    Calls Tryd.prog 78 #[.pointer (some ⟨b, 0, none⟩)] w fun r w' => r = .returned (.tuple #[.int .u64 0, .bool false]) ∧ ∃ n, w' = w.drewN n := by
  have hl := h.len
  have H := hid h
  clear h
  have e0 : ((e : Int) - d == 0) = true := by simp; omega
  go_enter Tryd.func78, Tryd.ntmps78
  go_wp2_with (go_at_call 81; refine (allowed_any lo hi b zs d e _ H.out).mono ?_; rintro r w' ⟨rfl, nq, rfl⟩)
  go_ret2
  exact ⟨rfl, _, rfl⟩

theorem aadd_tape (lo hi b : Nat) (zs : List Int) (d e : Nat) (w : World) (h : TapeAt w lo hi b zs d e) (he : d < e) :
    Calls Tryd.prog 82 #[.pointer (some ⟨b, 1, none⟩), .int .i64 1] w fun r w' => r = .returned (.int .i64 ((d : Int) + 1)) ∧ TapeAt w' lo hi b zs (d + 1) e ∧ Only b w w' ∧ w'.cell? ⟨b, 0, none⟩ = w.cell? ⟨b, 0, none⟩ := by
  have hl := h.len
  have H := hid h
  obtain ⟨wv, hb, hr, h3, h4, h5, h6, h7⟩ := h
  obtain ⟨c0, c1, c2, hz⟩ := cells3 hb
  refine (aadd_any b 1 d w c1 (hz 1) (by omega) (by omega)).mono ?_
  rintro r w' ⟨rfl, rfl⟩
  exact ⟨rfl, H.out.setD (d + 1) he, Only.set (g := b) w (p := ⟨b, 1, none⟩) rfl _, World.cell?_setCell_other _ _ _ _ (by simp)⟩

set_option maxHeartbeats 800000 in
theorem draw_some (lo hi b : Nat) (zs : List Int) (d e : Nat) (w : World) (h : TapeAt w lo hi b zs d e) (he : d < e) :
    Calls Tryd.prog 78 #[.pointer (some ⟨b, 0, none⟩)] w fun r w' => r = .returned (.tuple #[.int .u64 (nth zs d), .bool true]) ∧ TapeAt w' lo hi b zs (d + 1) e ∧ Only b w w' := by
  have hl := h.len
  have H := hid h
  obtain ⟨wv, hb, hr, h3, h4, h5, h6, h7⟩ := h
  obtain ⟨a, cap, rfl, hcap1, hcap2, _, _, hr0⟩ := hr
  obtain ⟨g, off, rfl, hg0, hg, hr⟩ := hr0 (by omega)
  obtain ⟨c0, c1, c2, hz⟩ := cells3 hb
  have hz1 := hz 1
  have hrd := hr d (by omega)
  have hbg : ¬ g = b := hg0.2.2
  have hbg2 : ¬ b = g := fun e => hg0.2.2 e.symm
  clear hb hz hr hr0
  have e0 : ((e : Int) - d == 0) = false := by simp; omega
  have hi0 : (0 : Int) ≤ (d : Int) := by omega
  have hi1 : (d : Int) < (zs.length : Int) := by omega
  have hw1 : IntKind.i64.wrap (d : Int) = (d : Int) := IntWalk.i64_in _ (by omega)
  go_enter Tryd.func78, Tryd.ntmps78
  go_wp2_with (go_at_call 81; refine (allowed_any lo hi b zs d e _ H.out).mono ?_; rintro r w' ⟨rfl, nq, rfl⟩)
  go_region_with (go_at_call 82; (with_reducible refine (aadd_tape lo hi b zs d e _ (H.out.drewN _) he).mono ?_); rintro r w1 ⟨rfl, ht, ho, hc1⟩; have hc01 := hc1.trans c0; have hrd1 := (ho.cell (p := ⟨g, off + d, none⟩) hg hbg).trans hrd; have HT := hid ht; have HO := hid ho.undrewN; clear ht ho hrd hc1)
  all_goals
    go_wp2
    go_ret2
    exact ⟨rfl, HT.out, HO.out⟩
end Go.Proofs.YthkijncnndoafaaDoor

namespace Go.Proofs.YthkijncnndoafaaDoor
open Go.RowKit

theorem info25 : (Tryd.prog.info? 22).map (fun i => (i.zero, i.size, i.bytes)) = some (some (.int .u64 0), 1, 8) := by kernel_rfl

def OwnRes (w : World) (zs : List Int) (r : Ending) (w' : World) : Prop := ∃ u, r = .returned u ∧ Own .u64 w.heap.size 22 w' u zs ∧ Below w.heap.size w w'

theorem clone_any (v : Value) (zs : List Int) (w : World) (h : Rd .u64 w v zs) : Calls Tryd.prog 22 #[v] w (OwnRes w zs) := by
  have HR := hid h
  obtain ⟨a, cap, rfl, hl, hz, hc⟩ := h
  have hn := fun (a : Option Addr) (n c : Nat) => Lib.run_eql_slice_nil (P := Tryd.prog) w 27 22 a n c 0 0 Tryd.underlying27
  clear hc hz
  cases a with
  | none =>
    have h0 : zs = [] := by
      apply List.eq_nil_of_length_eq_zero
      obtain ⟨_, _, _, _, _, h⟩ := HR.out
      rcases Nat.eq_zero_or_pos zs.length with h0 | h0
      · exact h0
      · obtain ⟨_, _, e, _⟩ := h h0
        simp_all
    have H0 := hid h0
    clear h0
    go_enter Tryd.func22, Tryd.ntmps22
    go_wp2
    go_ret
    exact ⟨_, rfl, by rw [H0.out]; exact own_nil _ _ _ _, Below.refl _ _⟩
  | some a =>
    have HLI : Hid ((([] : List Int).length + zs.length) * (IntKind.u64.bits / 8) ≤ 140737488355328) := hid (by simp [IntKind.bits] at hl ⊢; omega)
    have HZ := hid (HR.out.self ((Below.refl w.heap.size w).alloc (Nat.le_refl _) (.cells #[] 22)))
    clear hl
    go_enter Tryd.func22, Tryd.ntmps22
    go_wp2_with (refine wpList_append_rd rfl (.tmp 5) (.tmp 6) 27 rfl .u64 w.heap.size 22 Tryd.underlying27 info25 (by decide) _ [] rfl (own_empty w (Nat.le_refl _)) _ zs rfl HZ.out HLI.out (by simp) w.heap.size w ((Below.refl _ _).alloc (Nat.le_refl _) _) (Nat.le_refl _) ?_; intro u w1 hown hlow hsz1; rw [List.nil_append] at hown; have HO := hid hown; have HL := hid hlow; clear hown hlow)
    go_ret
    exact ⟨_, rfl, HO.out, HL.out⟩

def NewRes (w : World) (zs : List Int) (r : Ending) (w' : World) : Prop := ∃ b, r = .returned (.pointer (some ⟨b, 0, none⟩)) ∧ TapeAt w' w.heap.size w'.heap.size b zs 0 0 ∧ Below w.heap.size w w'

theorem new_any (v : Value) (zs : List Int) (w : World) (h : Rd .u64 w v zs) : Calls Tryd.prog 13 #[v] w (NewRes w zs) := by
  have HR := hid h
  have hl : zs.length * 8 ≤ 140737488351232 := by obtain ⟨_, _, _, h, _⟩ := h; simpa [IntKind.bits] using h
  have HWF := hid (wfs_of h)
  have HL := hid hl
  clear h hl
  go_enter Tryd.func13, Tryd.ntmps13
  go_wp2_with (go_at_call 22; refine (clone_any v zs _ HR.out).mono ?_; rintro r w1 ⟨u, rfl, hown, hlow⟩; obtain ⟨pa, cp, rfl, hq1, hq2⟩ := hown.slice; clear hq1 hq2; have HO := hid hown; have HB := hid hlow; clear hown hlow)
  go_ret
  refine ⟨w1.heap.size, rfl, ⟨_, heap_alloc_new w1 _, ?_, Nat.le_refl _, Nat.zero_le _, HB.out.size, by simp, Nat.le_refl _⟩, HB.out.alloc HB.out.size _⟩
  refine ((HO.out.rds (by have := HL.out; simpa [IntKind.bits] using this) HWF.out).imp fun g hg _ => ⟨hg.1, by simp; omega, by omega⟩).below ((Below.refl _ _).alloc (Nat.le_refl _) _)
end Go.Proofs.YthkijncnndoafaaDoor

/- Wire: the law's rows of words: a tape's words, rows that are alike. -/
namespace Go.Proofs.YthkijncnndoafaaDoor
open Go.RowKit
set_option maxRecDepth 100000
/-- The words that a tape is made of. -/
structure Lcg (T : Nat → Nat) : Prop where
  z : T 0 = 1
  s : ∀ i, T (i + 1) = (T i * 6364136223846793005 + 1442695040888963407) % 18446744073709551616
theorem Lcg.lt {T : Nat → Nat} (h : Lcg T) : ∀ i, T i < 18446744073709551616
  | 0 => by rw [h.z]; decide
  | i + 1 => by rw [h.s]; exact Nat.mod_lt _ (by decide)
end Go.Proofs.YthkijncnndoafaaDoor

/- Wire: the document's machine: a new one, a trace of it. -/
namespace Go.Proofs.YthkijncnndoafaaDoor
open Go.RowKit
set_option maxRecDepth 100000
/-- A new machine. -/
def startS (n most : Int) (tw : Nat → Nat) (TN free : Nat) : Ms :=
  ⟨n, most, 0, 0, 0, 0, 0, 0, 0, fun _ => ⟨0, 0, 0, 0, 0, 0⟩, 0, fun _ => ⟨0, 0, 0⟩, fun _ => 0, tw, TN, 0, free, false⟩
theorem orw_nil (w : World) (B : Nat) (E : TypeId) (k : Nat) (c : Nat → List Value) : Orw w B E k (.slice none 0 0) 0 c := ⟨by simp [recs], .inl ⟨rfl, rfl⟩⟩
theorem dnew_any (lo : LoG) (n most : Int) (tw : Nat → Nat) (TN : Nat) (v : Value) (w : World) (h : RdS .u64 w lo.G v (wdL tw TN)) (hlo : lo.lo ≤ w.heap.size) :
    Calls Tryd.prog 16 #[.int .i64 n, v, .int .i64 most] w fun e w' => e = .returned (.pointer (some ⟨w.heap.size, 0, none⟩)) ∧ Dm lo w' w.heap.size (startS n most tw TN TN) (.slice none 0 0) (.slice none 0 0) (.slice none 0 0) v ∧ Below w.heap.size w w' := by
  obtain ⟨a, cap, rfl, h2⟩ := id h
  rw [wdL_len] at h
  have HN : Hid (Dm lo (w.alloc (.cells (dmC (startS n most tw TN TN) (.slice none 0 0) (.slice none 0 0) (.slice none 0 0) (.slice a TN cap)) 75)) w.heap.size (startS n most tw TN TN) (.slice none 0 0) (.slice none 0 0) (.slice none 0 0) (.slice a TN cap)) := hid ⟨heap_alloc_new _ _, hlo, orw_nil _ _ _ _ _, orw_nil _ _ _ _ _, orw_nil _ _ _ _ _, by simp [Value.ownBlock], by simp [Value.ownBlock], by simp [Value.ownBlock], by simp [Value.ownBlock], by simp [Value.ownBlock], by simp [Value.ownBlock], by
    show RdS .u64 _ _ _ (wdL (fun i => tw (0 + i)) (TN - 0))
    have e : (fun i => tw (0 + i)) = tw := funext fun i => by rw [Nat.zero_add]
    rw [e, Nat.sub_zero]
    have h3 := h.imp (T := fun g => g ≠ w.heap.size ∧ (Value.slice none 0 0).ownBlock ≠ some g ∧ (Value.slice none 0 0).ownBlock ≠ some g ∧ (Value.slice none 0 0).ownBlock ≠ some g ∧ lo.G g) (fun g hg hlt => ⟨by omega, by simp [Value.ownBlock], by simp [Value.ownBlock], by simp [Value.ownBlock], hg⟩)
    exact rds_self h3 ((Below.refl _ _).alloc (Nat.le_refl _) _)⟩
  have HB : Hid (Below w.heap.size w (w.alloc (.cells (dmC (startS n most tw TN TN) (.slice none 0 0) (.slice none 0 0) (.slice none 0 0) (.slice a TN cap)) 75))) := hid ((Below.refl _ _).alloc (Nat.le_refl _) _)
  rw [wdL_len]
  clear h h2
  go_enter Tryd.func16, Tryd.ntmps16
  go_wp2
  go_ret
  exact ⟨rfl, HN.out, HB.out⟩
end Go.Proofs.YthkijncnndoafaaDoor

/- Wire: is a machine as the document's is? -/
namespace Go.Proofs.YthkijncnndoafaaDoor
open Go.RowKit
set_option maxRecDepth 100000
theorem orw_rd {w : World} {B : Nat} {v : Value} {f : Nat → Nat} {L : Nat} (h : Orw w B 22 1 v L (fun i => [.int .u64 (f i : Int)])) (hL : L ≤ 1000000) (hf : ∀ i, i < L → f i < 2 ^ 64) : Rd .u64 w v (wdL f L) := by
  obtain ⟨a, cap, rfl, h1, h2, h3, h4⟩ := h.slice
  refine ⟨a, cap, by rw [wdL_len], by rw [wdL_len]; show L * 8 ≤ _; omega, fun z hz => ?_, fun h0 => ?_⟩
  · unfold wdL at hz
    obtain ⟨i, hi, rfl⟩ := List.mem_map.1 hz
    exact WalkArith.wf_u64 (by have := hf i (List.mem_range.1 hi); omega)
  · rw [wdL_len] at h0 ⊢
    obtain ⟨g, rfl⟩ := h4 h0
    refine ⟨g, 0, rfl, (Orw.lt h g rfl).2, fun j hj => ?_⟩
    have := Orw.cell h (fun _ => rfl) hj (by decide : 0 < 1) (u := .int .u64 (f j : Int)) rfl
    rw [wdL_nth f hj]
    simpa using this
section
variable {Pm : World → Nat → Ms → (Nat → Prop) → Prop} (hM : Mach Pm) {lo : Nat} {X : Nat → Prop} {W w : World} {p b k : Nat} {S S2 : Ms}
include hM
theorem zn (h : Bz Pm lo X W w p b S S2) (hq : Bq k S) (hk : k ≤ 1000000) : Calls Tryd.prog 40 #[.pointer (some ⟨p, 0, none⟩)] w fun e w' => e = .returned (.int .i64 S.n) ∧ Below w.heap.size w w' := by
  obtain ⟨F, G, ov, bv, vv, tv, h1, h2, h3, h4, h5, h6, h7⟩ := h
  exact hM.n p k S F w h1 hq hk
theorem zdraws (h : Bz Pm lo X W w p b S S2) (hq : Bq k S) (hk : k ≤ 1000000) : Calls Tryd.prog 10 #[.pointer (some ⟨p, 0, none⟩)] w fun e w' => e = .returned (.int .i64 (S.draws : Nat)) ∧ Below w.heap.size w w' := by
  obtain ⟨F, G, ov, bv, vv, tv, h1, h2, h3, h4, h5, h6, h7⟩ := h
  exact hM.draws p k S F w h1 hq hk
theorem zerr (h : Bz Pm lo X W w p b S S2) (hq : Bq k S) (hk : k ≤ 1000000) : Calls Tryd.prog 9 #[.pointer (some ⟨p, 0, none⟩)] w fun e w' => e = .returned (.int .i64 (S.e : Nat)) ∧ Below w.heap.size w w' := by
  obtain ⟨F, G, ov, bv, vv, tv, h1, h2, h3, h4, h5, h6, h7⟩ := h
  exact hM.err p k S F w h1 hq hk
theorem zvalues (h : Bz Pm lo X W w p b S S2) (hq : Bq k S) (hk : k ≤ 1000000) : Calls Tryd.prog 8 #[.pointer (some ⟨p, 0, none⟩)] w fun e w' => ∃ v, e = .returned v ∧ Rd .u64 w' v (wdL S.v (S.keep S.L)) ∧ Below w.heap.size w w' := by
  obtain ⟨F, G, ov, bv, vv, tv, h1, h2, h3, h4, h5, h6, h7⟩ := h
  exact hM.values p k S F w h1 hq hk
omit hM
theorem Bz.c0 (h : Bz Pm lo X W w p b S2 S) : w.cell? ⟨b, 0, none⟩ = some (.int .i64 S.n) ∧ w.cell? ⟨b, 3, none⟩ = some (.int .i64 (S.draws : Int)) ∧ w.cell? ⟨b, 7, none⟩ = some (.int .i64 (S.e : Int)) ∧ w.cell? ⟨b, 14, none⟩ = some (.bool S.dry) := by
  obtain ⟨F, G, ov, bv, vv, tv, h1, h2, h3, h4, h5, h6, h7⟩ := h
  exact ⟨h2.c_n, h2.c_draws, h2.c_e, h2.c_dry⟩
end
end Go.Proofs.YthkijncnndoafaaDoor

/- General: words as shares, as numbers: registers that are made share by share. No program is named. -/
namespace Go.Proofs.YthkijncnndoafaaDoor

def updI (W : Nat → Int) (j : Nat) (z : Int) : Nat → Int := fun i => if i = j then z else W i
theorem updI_at (W : Nat → Int) (j : Nat) (z : Int) : updI W j z j = z := by simp [updI]
theorem updI_no (W : Nat → Int) {j i : Nat} (z : Int) (h : i ≠ j) : updI W j z i = W i := by simp [updI, h]
/-- A number that an int holds. -/
def I64 (z : Int) : Prop := -9223372036854775808 ≤ z ∧ z ≤ 9223372036854775807
def Wb (W : Nat → Int) : Prop := ∀ i, I64 (W i)
theorem I64.m1 : I64 (-1) := by unfold I64; omega
theorem Wb.upd {W : Nat → Int} (h : Wb W) {j : Nat} {z : Int} (hz : I64 z) : Wb (updI W j z) := fun i => by
  by_cases e : i = j
  · subst e; rw [updI_at]; exact hz
  · rw [updI_no _ _ e]; exact h i
theorem doR_bd {k : Nat} {S : Ms} (h : Bq k S) (hk : k ≤ 1000000) (o : Op6) : I64 (S.doR o) := by
  have := h.len
  unfold Ms.doR I64
  split <;> omega
/-- The machine behind m ops, op (lo) .. op (lo + m - 1), without outside words. -/
def eaS (S : Ms) (op : Nat → Op6) (lo : Nat) : Nat → Ms
  | 0 => S
  | m + 1 => (eaS S op lo m).doS (op (lo + m)) 0
/-- The registers that they make. -/
def eaR (S : Ms) (op : Nat → Op6) (lo : Nat) (W : Nat → Int) : Nat → Nat → Int
  | 0 => W
  | m + 1 => updI (eaR S op lo W m) (lo + m) ((eaS S op lo m).doR (op (lo + m)))
theorem eaS_bq {k : Nat} {S : Ms} (h : Bq k S) {op : Nat → Op6} (lo : Nat) : ∀ m, (∀ j, j < m → opwf (op (lo + j))) → Bq (k + m) (eaS S op lo m)
  | 0, _ => h
  | m + 1, ho => (eaS_bq h lo m (fun j hj => ho j (by omega))).does (ho m (by omega)) (by decide)
theorem eaS_n (S : Ms) (op : Nat → Op6) (lo : Nat) : ∀ m, (eaS S op lo m).n = S.n
  | 0 => rfl
  | m + 1 => by rw [eaS, doS_n, eaS_n S op lo m]
theorem eaR_wb {k : Nat} {S : Ms} (h : Bq k S) {op : Nat → Op6} (lo : Nat) {W : Nat → Int} (hW : Wb W) : ∀ m, (∀ j, j < m → opwf (op (lo + j))) → k + m ≤ 1000000 → Wb (eaR S op lo W m)
  | 0, _, _ => hW
  | m + 1, ho, hk => (eaR_wb h lo hW m (fun j hj => ho j (by omega)) (by omega)).upd (doR_bd (eaS_bq h lo m (fun j hj => ho j (by omega))) (by omega) _)
/-- How many shares. -/
def Ms.sh (S : Ms) : Nat := S.n.toNat
def none3 : Nat → Int := fun _ => -1
theorem none3_wb : Wb none3 := fun _ => I64.m1
/-! ### the gadgets of words -/
def opCst (K : Int) (c : Nat) (i : Nat) : Op6 := if i = 0 then ⟨K, 0, -1, -1, -1, c⟩ else ⟨3, (i : Int), -1, -1, -1, 0⟩
def opOne (K : Int) (A : Nat → Int) (c : Nat) (i : Nat) : Op6 := ⟨K, (i : Int), A i, -1, -1, c⟩
def opNot (A : Nat → Int) : Op6 := ⟨6, 0, A 0, -1, -1, 0⟩
def cstS (S : Ms) (K : Int) (c : Nat) : Ms := eaS S (opCst K c) 0 S.sh
def cstR (S : Ms) (K : Int) (c : Nat) : Nat → Int := eaR S (opCst K c) 0 none3 S.sh
def oneS (S : Ms) (K : Int) (A : Nat → Int) (c : Nat) : Ms := eaS S (opOne K A c) 0 S.sh
def oneR (S : Ms) (K : Int) (A : Nat → Int) (c : Nat) : Nat → Int := eaR S (opOne K A c) 0 none3 S.sh
def notS (S : Ms) (A : Nat → Int) : Ms := S.doS (opNot A) 0
def notR (S : Ms) (A : Nat → Int) : Nat → Int := updI A 0 (S.doR (opNot A))
theorem i64c (z : Int) (h : 0 ≤ z) (h2 : z ≤ 1000) : -9223372036854775808 ≤ z ∧ z ≤ 9223372036854775807 := by omega
theorem opCst_wf {K : Int} (hK : I64 K) {c i : Nat} (hc : c < 2 ^ 64) (hi : i ≤ 100) : opwf (opCst K c i) := by
  unfold opCst
  split
  · exact ⟨hK, i64c 0 (by decide) (by decide), I64.m1, I64.m1, I64.m1, by show c < _; omega⟩
  · exact ⟨i64c 3 (by decide) (by decide), by show _ ≤ (i : Int) ∧ (i : Int) ≤ _; omega, I64.m1, I64.m1, I64.m1, by show 0 < _; omega⟩
theorem opOne_wf {K : Int} (hK : I64 K) {A : Nat → Int} (hA : Wb A) {c i : Nat} (hc : c < 2 ^ 64) (hi : i ≤ 100) : opwf (opOne K A c i) := ⟨hK, by show _ ≤ (i : Int) ∧ (i : Int) ≤ _; omega, hA i, I64.m1, I64.m1, by show c < _; omega⟩
theorem opNot_wf {A : Nat → Int} (hA : Wb A) : opwf (opNot A) := ⟨i64c 6 (by decide) (by decide), i64c 0 (by decide) (by decide), hA 0, I64.m1, I64.m1, by show 0 < _; omega⟩
end Go.Proofs.YthkijncnndoafaaDoor

/- Share: words, by the document: boxes beside two machines. -/
namespace Go.Proofs.YthkijncnndoafaaDoor
open Go.RowKit
set_option maxRecDepth 100000
abbrev wdV (W : Nat → Int) : Array Value := #[.int .i64 (W 0), .int .i64 (W 1), .int .i64 (W 2)]
theorem wdV_upd (W : Nat → Int) (j : Nat) (z : Int) (hj : j < 3) : (wdV W).setIfInBounds j (.int .i64 z) = wdV (updI W j z) := by
  rcases (by omega : j = 0 ∨ j = 1 ∨ j = 2) with rfl | rfl | rfl <;> simp [wdV, updI]
theorem wdV_at (W : Nat → Int) (j : Nat) (hj : j < 3) : (wdV W)[j]? = some (.int .i64 (W j)) := by
  rcases (by omega : j = 0 ∨ j = 1 ∨ j = 2) with rfl | rfl | rfl <;> rfl
/-- Both machines, and boxes of words (new since w0) beside them; X0: what is left alone. -/
structure Gz (Pm : World → Nat → Ms → (Nat → Prop) → Prop) (lo : Nat) (X0 : Nat → Prop) (W w0 wx : World) (p b : Nat) (S1 S2 : Ms) (bs : List (Nat × Array Value)) : Prop where
  z : Bz Pm lo (fun k => X0 k ∨ ∃ q ∈ bs, q.1 = k) W wx p b S1 S2
  bx : ∀ q ∈ bs, w0.heap.size ≤ q.1 ∧ wx.heap[q.1]? = some (.cells q.2 34 (0, 0))
  st : ∀ k, X0 k → k < w0.heap.size ∧ wx.heap[k]? = w0.heap[k]?
  lo : lo ≤ w0.heap.size
section
variable {Pm : World → Nat → Ms → (Nat → Prop) → Prop} {lo : Nat} {X0 : Nat → Prop} {W w0 wx wy : World} {p b : Nat} {S1 S2 S1' S2' : Ms} {bs : List (Nat × Array Value)}
theorem Gz.start (h : Bz Pm lo X0 W w0 p b S1 S2) : Gz Pm lo X0 W w0 w0 p b S1 S2 [] := by
  have hX : ∀ k, X0 k → k < w0.heap.size := by
    obtain ⟨F, G, ov, bv, vv, tv, h1, h2, h3, h4, h5, h6, h7⟩ := h
    exact fun k hk => (h4 k hk).1
  refine ⟨h.less (fun k hk => ?_), fun q hq => (List.not_mem_nil hq).elim, fun k hk => ⟨hX k hk, rfl⟩, h.los⟩
  rcases hk with e | ⟨q, hq, _⟩
  · exact e
  · exact (List.not_mem_nil hq).elim
theorem Gz.self (hM : Mach Pm) (h : Gz Pm lo X0 W w0 wx p b S1 S2 bs) (hb : Below wx.heap.size wx wy) : Gz Pm lo X0 W w0 wy p b S1 S2 bs :=
  ⟨h.z.self hM hb, fun q hq => ⟨(h.bx q hq).1, (hb.block _ (Array.getElem?_eq_some_iff.1 (h.bx q hq).2).1).trans (h.bx q hq).2⟩, fun k hk => ⟨(h.st k hk).1, (hb.block k (by
    obtain ⟨F, G, ov, bv, vv, tv, h1, h2, h3, h4, h5, h6, h7⟩ := h.z
    exact (h4 k (.inl hk)).1)).trans (h.st k hk).2⟩, h.lo⟩
/-- A machine goes on. -/
theorem Gz.on {p' : Nat} (h : Gz Pm lo X0 W w0 wx p b S1 S2 bs) (hz : Bz Pm lo (fun k => X0 k ∨ ∃ q ∈ bs, q.1 = k) W wy p' b S1' S2') (hs : ∀ k, (X0 k ∨ ∃ q ∈ bs, q.1 = k) → wy.heap[k]? = wx.heap[k]?) : Gz Pm lo X0 W w0 wy p' b S1' S2' bs :=
  ⟨hz, fun q hq => ⟨(h.bx q hq).1, (hs _ (.inr ⟨q, hq, rfl⟩)).trans (h.bx q hq).2⟩, fun k hk => ⟨(h.st k hk).1, (hs k (.inl hk)).trans (h.st k hk).2⟩, h.lo⟩
/-- The first box is turned. -/
theorem Gz.cell (hM : Mach Pm) {n : Nat} {cs : Array Value} (h : Gz Pm lo X0 W w0 wx p b S1 S2 ((n, cs) :: bs)) (hn : ∀ q ∈ bs, q.1 ≠ n) (i : Nat) (v : Value) : Gz Pm lo X0 W w0 (wx.setCell ⟨n, i, none⟩ v) p b S1 S2 ((n, cs.setIfInBounds i v) :: bs) := by
  have hnb := h.bx (n, cs) (List.mem_cons_self ..)
  have hT : Tch (fun k => k = n) wx (wx.setCell ⟨n, i, none⟩ v) := Tch.set wx v rfl
  refine ⟨(h.z.apart hM hT (fun k hk => ?_)).less (fun k hk => ?_), fun q hq => ?_, fun k hk => ⟨(h.st k hk).1, (heap_setCell_other wx ⟨n, i, none⟩ k v (by have := (h.st k hk).1; have := hnb.1; show k ≠ n; omega)).trans (h.st k hk).2⟩, h.lo⟩
  · subst hk
    exact ⟨.inr ⟨(k, cs), List.mem_cons_self .., rfl⟩, Nat.le_trans h.lo hnb.1⟩
  · rcases hk with e | ⟨q, hq, rfl⟩
    · exact .inl e
    · rcases List.mem_cons.1 hq with rfl | hq
      · exact .inr ⟨(n, cs), List.mem_cons_self .., rfl⟩
      · exact .inr ⟨q, List.mem_cons_of_mem _ hq, rfl⟩
  · rcases List.mem_cons.1 hq with rfl | hq
    · exact ⟨hnb.1, heap_setCell_same wx n i cs 34 v hnb.2⟩
    · exact ⟨(h.bx q (List.mem_cons_of_mem _ hq)).1, (heap_setCell_other wx ⟨n, i, none⟩ q.1 v (hn q hq)).trans (h.bx q (List.mem_cons_of_mem _ hq)).2⟩
/-- A box is turned whole. -/
theorem Gz.row (hM : Mach Pm) {n : Nat} {cs : Array Value} (h : Gz Pm lo X0 W w0 wx p b S1 S2 ((n, cs) :: bs)) (hn : ∀ q ∈ bs, q.1 ≠ n) (cs' : Array Value) : Gz Pm lo X0 W w0 (wx.setRow n cs') p b S1 S2 ((n, cs') :: bs) := by
  have hnb := h.bx (n, cs) (List.mem_cons_self ..)
  have hT : Tch (fun k => k = n) wx (wx.setRow n cs') := ⟨rfl, rfl, rfl, by simp [World.setRow], fun k hk hF => setRow_other wx n k cs' hF⟩
  refine ⟨(h.z.apart hM hT (fun k hk => ?_)).less (fun k hk => ?_), fun q hq => ?_, fun k hk => ⟨(h.st k hk).1, (setRow_other wx n k cs' (by have := (h.st k hk).1; have := hnb.1; omega)).trans (h.st k hk).2⟩, h.lo⟩
  · subst hk
    exact ⟨.inr ⟨(k, cs), List.mem_cons_self .., rfl⟩, Nat.le_trans h.lo hnb.1⟩
  · rcases hk with e | ⟨q, hq, rfl⟩
    · exact .inl e
    · rcases List.mem_cons.1 hq with rfl | hq
      · exact .inr ⟨(n, cs), List.mem_cons_self .., rfl⟩
      · exact .inr ⟨q, List.mem_cons_of_mem _ hq, rfl⟩
  · rcases List.mem_cons.1 hq with rfl | hq
    · exact ⟨hnb.1, setRow_heap wx n cs cs' 34 _ hnb.2⟩
    · exact ⟨(h.bx q (List.mem_cons_of_mem _ hq)).1, (setRow_other wx n q.1 cs' (hn q hq)).trans (h.bx q (List.mem_cons_of_mem _ hq)).2⟩
/-- The boxes in another order, or fewer. -/
theorem Gz.swap {bs' : List (Nat × Array Value)} (h : Gz Pm lo X0 W w0 wx p b S1 S2 bs) (hs : ∀ q ∈ bs', q ∈ bs) : Gz Pm lo X0 W w0 wx p b S1 S2 bs' :=
  ⟨h.z.less (fun _ hk => hk.imp id (fun ⟨q, hq, e⟩ => ⟨q, hs q hq, e⟩)), fun q hq => h.bx q (hs q hq), h.st, h.lo⟩
theorem Gz.fin (h : Gz Pm lo X0 W w0 wx p b S1 S2 bs) : Bz Pm lo X0 W wx p b S1 S2 ∧ ∀ k, X0 k → wx.heap[k]? = w0.heap[k]? := ⟨h.z.less (fun _ hk => .inl hk), fun k hk => (h.st k hk).2⟩
theorem Gz.sh (h : Gz Pm lo X0 W w0 wx p b S1 S2 bs) : wx.cell? ⟨b, 0, none⟩ = some (.int .i64 S2.n) := h.z.c0.1
end
end Go.Proofs.YthkijncnndoafaaDoor

/- General: what words stand for. No program is named. -/
namespace Go.Proofs.YthkijncnndoafaaDoor

def vlP (v : Nat → Nat) (L : Nat) (A : Nat → Int) : Nat → Nat
  | 0 => 0
  | m + 1 => vlP v L A m ^^^ wordAt v L (A m)
/-- What a word stands for. -/
abbrev vlN (v : Nat → Nat) (L : Nat) (A : Nat → Int) : Nat := vlP v L A 3
theorem vlP_lt {v : Nat → Nat} {L : Nat} (h : ∀ i, i < L → v i < 2 ^ 64) (A : Nat → Int) : ∀ m, vlP v L A m < 2 ^ 64
  | 0 => by show 0 < _; decide
  | m + 1 => xr_lt (vlP_lt h A m) (wordAt_lt h _)
theorem vl_three (v : Nat → Nat) (L : Nat) (A : Nat → Int) : vlN v L A = wordAt v L (A 0) ^^^ wordAt v L (A 1) ^^^ wordAt v L (A 2) := by
  show ((0 ^^^ wordAt v L (A 0)) ^^^ wordAt v L (A 1)) ^^^ wordAt v L (A 2) = _
  rw [Nat.zero_xor]
/-- A machine that went on: the words that there were are as they were. -/
structure Ext (S S' : Ms) : Prop where
  L : S.L ≤ S'.L
  v : ∀ i, i < S.L → S'.v i = S.v i
  n : S'.n = S.n
  dry : S'.dry = S.dry
  skip : S'.skip = S.skip
theorem Ext.refl (S : Ms) : Ext S S := ⟨Nat.le_refl _, fun _ _ => rfl, rfl, rfl, rfl⟩
theorem Ext.trans {S S' S2 : Ms} (h : Ext S S') (k : Ext S' S2) : Ext S S2 :=
  ⟨Nat.le_trans h.L k.L, fun i hi => (k.v i (Nat.lt_of_lt_of_le hi h.L)).trans (h.v i hi), k.n.trans h.n, k.dry.trans h.dry, k.skip.trans h.skip⟩
theorem doS_ext (S : Ms) (o : Op6) (x : Nat) : Ext S (S.doS o x) := by
  unfold Ms.doS
  repeat' split
  · exact Ext.refl S
  · exact ⟨Nat.le_refl _, fun _ _ => rfl, rfl, rfl, rfl⟩
  · exact ⟨Nat.le_refl _, fun _ _ => rfl, rfl, rfl, rfl⟩
  · exact ⟨Nat.le_refl _, fun _ _ => rfl, rfl, rfl, rfl⟩
  · exact ⟨Nat.le_succ _, fun i hi => updN_no _ _ (by omega), rfl, rfl, rfl⟩
theorem beginS_ext (S : Ms) (k : Int) : Ext S (S.beginS k) := by
  unfold Ms.beginS
  repeat' split
  all_goals exact ⟨Nat.le_refl _, fun _ _ => rfl, rfl, rfl, rfl⟩
theorem endS_ext (S : Ms) : Ext S S.endS := by
  unfold Ms.endS
  repeat' split
  all_goals exact ⟨Nat.le_refl _, fun _ _ => rfl, rfl, rfl, rfl⟩
theorem eaS_ext (S : Ms) (op : Nat → Op6) (lo : Nat) : ∀ m, Ext S (eaS S op lo m)
  | 0 => Ext.refl S
  | m + 1 => (eaS_ext S op lo m).trans (doS_ext _ _ _)
theorem wordAt_ext {S S' : Ms} (h : Ext S S') {r : Int} (hr : r < (S.L : Int)) : wordAt S'.v S'.L r = wordAt S.v S.L r := by
  have hL := h.L
  unfold wordAt
  by_cases h0 : 0 ≤ r
  · rw [if_pos ⟨h0, by omega⟩, if_pos ⟨h0, hr⟩, h.v _ (by omega)]
  · rw [if_neg (fun e => h0 e.1), if_neg (fun e => h0 e.1)]
theorem vl_ext {S S' : Ms} (h : Ext S S') {A : Nat → Int} (hA : ∀ i, i < 3 → A i < (S.L : Int)) : vlN S'.v S'.L A = vlN S.v S.L A := by
  rw [vl_three, vl_three, wordAt_ext h (hA 0 (by omega)), wordAt_ext h (hA 1 (by omega)), wordAt_ext h (hA 2 (by omega))]
/-- An op that is done. -/
theorem do_ok {S : Ms} {o : Op6} {x : Nat} (h : (S.doS o x).e = 0) : S.e = 0 ∧ S.doS o x = S.put o x ∧ S.doR o = (S.len : Int) ∧ S.bad o = false := by
  have he : S.e = 0 := by
    by_cases e : S.e = 0
    · exact e
    · unfold Ms.doS at h; rw [if_pos e] at h; exact absurd h e
  have hb : ¬ S.bad o = true := fun e => by unfold Ms.doS at h; rw [if_neg (by omega), if_pos e] at h; simp at h
  have hf : ¬ S.full = true := fun e => by unfold Ms.doS at h; rw [if_neg (by omega), if_neg hb, if_pos e] at h; simp at h
  have ho : ¬ S.out o = true := fun e => by unfold Ms.doS at h; rw [if_neg (by omega), if_neg hb, if_neg hf, if_pos e] at h; simp at h
  refine ⟨he, ?_, ?_, by simpa using hb⟩
  · unfold Ms.doS
    rw [if_neg (by omega), if_neg hb, if_neg hf, if_neg ho]
  · unfold Ms.doR
    rw [if_neg (by rintro (q | q | q | q) <;> contradiction)]
/-- A wet machine's op: the word that it makes. -/
theorem do_word {S : Ms} {o : Op6} {x : Nat} (h : (S.doS o x).e = 0) (hs : S.skip = 0) : S.doR o = (S.L : Int) ∧ (S.doS o x).L = S.L + 1 ∧ wordAt (S.doS o x).v (S.doS o x).L (S.doR o) = S.makes o x := by
  obtain ⟨_, h2, h3, _⟩ := do_ok h
  have hl : S.len = S.L := by unfold Ms.len; rw [hs, Nat.zero_add]
  rw [hl] at h3
  refine ⟨h3, by rw [h2]; rfl, ?_⟩
  rw [h2, h3]
  show wordAt (updN S.v S.L (S.makes o x)) (S.L + 1) (S.L : Int) = _
  unfold wordAt
  rw [if_pos ⟨by omega, by omega⟩, show ((S.L : Int)).toNat = S.L by omega, updN_at]
theorem eaS_e {S : Ms} {op : Nat → Op6} {lo : Nat} : ∀ {m}, (eaS S op lo m).e = 0 → ∀ j, j ≤ m → (eaS S op lo j).e = 0
  | 0, h, j, hj => by obtain rfl : j = 0 := by omega
                      exact h
  | m + 1, h, j, hj => by
    by_cases e : j = m + 1
    · subst e; exact h
    · exact eaS_e (do_ok h).1 j (by omega)
theorem eaR_keep (S : Ms) (op : Nat → Op6) (lo : Nat) (W : Nat → Int) : ∀ m i, (i < lo ∨ lo + m ≤ i) → eaR S op lo W m i = W i
  | 0, _, _ => rfl
  | m + 1, i, h => by rw [eaR, updI_no _ _ (by omega), eaR_keep S op lo W m i (by omega)]
theorem eaR_at (S : Ms) (op : Nat → Op6) (lo : Nat) (W : Nat → Int) : ∀ m j, j < m → eaR S op lo W m (lo + j) = (eaS S op lo j).doR (op (lo + j))
  | m + 1, j, h => by
    by_cases e : j = m
    · subst e; rw [eaR, updI_at]
    · rw [eaR, updI_no _ _ (by omega), eaR_at S op lo W m j (by omega)]
/-- Registers that are made share by share: the word of each. -/
theorem ea_word {S : Ms} {op : Nat → Op6} {lo m : Nat} (W : Nat → Int) (h : (eaS S op lo m).e = 0) (hs : S.skip = 0) {j : Nat} (hj : j < m) (hA : (op (lo + j)).A < (S.L : Int)) (hB : (op (lo + j)).B < (S.L : Int)) (hE : (op (lo + j)).E < (S.L : Int)) :
    eaR S op lo W m (lo + j) = ((eaS S op lo j).L : Int) ∧ (eaS S op lo j).L < (eaS S op lo m).L ∧
    wordAt (eaS S op lo m).v (eaS S op lo m).L (eaR S op lo W m (lo + j)) = evN (op (lo + j)).K (op (lo + j)).C (wordAt S.v S.L (op (lo + j)).A) (wordAt S.v S.L (op (lo + j)).B) (wordAt S.v S.L (op (lo + j)).E) ((eaS S op lo j).word (op (lo + j)) 0) := by
  have hj1 : (eaS S op lo (j + 1)).e = 0 := eaS_e h _ (by omega)
  have hX := eaS_ext S op lo j
  obtain ⟨w1, w2, w3⟩ := do_word (x := 0) hj1 (hX.skip.trans hs)
  have hxt : Ext (eaS S op lo (j + 1)) (eaS S op lo m) := by
    have : ∀ d, Ext (eaS S op lo (j + 1)) (eaS S op lo (j + 1 + d)) := fun d => by
      induction d with
      | zero => exact Ext.refl _
      | succ d ih => exact ih.trans (doS_ext _ _ _)
    have e := this (m - (j + 1))
    rw [show j + 1 + (m - (j + 1)) = m by omega] at e
    exact e
  have hL : (eaS S op lo (j + 1)).L = (eaS S op lo j).L + 1 := w2
  have hlt : (eaS S op lo j).L < (eaS S op lo m).L := by have := hxt.L; omega
  refine ⟨(eaR_at S op lo W m j hj).trans w1, hlt, ?_⟩
  rw [eaR_at S op lo W m j hj, wordAt_ext hxt (by rw [w1, hL]; omega)]
  refine w3.trans ?_
  unfold Ms.makes
  rw [wordAt_ext hX hA, wordAt_ext hX hB, wordAt_ext hX hE]
/-- A word whose registers there are; of two shares the third is none. -/
structure Gw (S : Ms) (A : Nat → Int) : Prop where
  lt : ∀ i, i < 3 → A i < (S.L : Int)
  no : ∀ i, S.sh ≤ i → i < 3 → A i < 0
theorem Gw.ext {S S' : Ms} {A : Nat → Int} (h : Gw S A) (k : Ext S S') : Gw S' A :=
  ⟨fun i hi => by have := h.lt i hi; have := k.L; omega, fun i hi hj => h.no i (by unfold Ms.sh at hi ⊢; rw [k.n] at hi; exact hi) hj⟩
theorem wordAt_neg {v : Nat → Nat} {L : Nat} {r : Int} (h : r < 0) : wordAt v L r = 0 := if_neg (by omega)
/-- What is made share by share: each share's word by itself. -/
theorem ea_vl {S : Ms} {op : Nat → Op6} (h : (eaS S op 0 S.sh).e = 0) (hs : S.skip = 0) (h2 : 2 ≤ S.sh) (h3 : S.sh ≤ 3) (F : Nat → Nat)
    (hA : ∀ j, j < 3 → (op j).A < (S.L : Int) ∧ (op j).B < (S.L : Int) ∧ (op j).E < (S.L : Int))
    (hF : ∀ j, j < S.sh → evN (op j).K (op j).C (wordAt S.v S.L (op j).A) (wordAt S.v S.L (op j).B) (wordAt S.v S.L (op j).E) ((eaS S op 0 j).word (op j) 0) = F j) (hF3 : S.sh = 2 → F 2 = 0) :
    vlN (eaS S op 0 S.sh).v (eaS S op 0 S.sh).L (eaR S op 0 none3 S.sh) = F 0 ^^^ F 1 ^^^ F 2 ∧ Gw (eaS S op 0 S.sh) (eaR S op 0 none3 S.sh) := by
  have key : ∀ j, j < S.sh → eaR S op 0 none3 S.sh j < ((eaS S op 0 S.sh).L : Int) ∧ wordAt (eaS S op 0 S.sh).v (eaS S op 0 S.sh).L (eaR S op 0 none3 S.sh j) = F j := fun j hj => by
    have a := hA j (by omega)
    have w := ea_word (lo := 0) none3 h hs hj (by rw [Nat.zero_add]; exact a.1) (by rw [Nat.zero_add]; exact a.2.1) (by rw [Nat.zero_add]; exact a.2.2)
    rw [Nat.zero_add] at w
    exact ⟨by rw [w.1]; have := w.2.1; omega, w.2.2.trans (hF j hj)⟩
  have n2 : S.sh = 2 → eaR S op 0 none3 S.sh 2 = -1 := fun e => eaR_keep S op 0 none3 S.sh 2 (by omega)
  have k2 : wordAt (eaS S op 0 S.sh).v (eaS S op 0 S.sh).L (eaR S op 0 none3 S.sh 2) = F 2 := by
    by_cases e : S.sh = 2
    · rw [n2 e, hF3 e]; exact wordAt_neg (by omega)
    · exact (key 2 (by omega)).2
  refine ⟨by rw [vl_three, (key 0 (by omega)).2, (key 1 (by omega)).2, k2], ⟨fun i hi => ?_, fun i hi hj => ?_⟩⟩
  · by_cases e : i < S.sh
    · exact (key i e).1
    · obtain rfl : i = 2 := by omega
      rw [n2 (by omega)]; omega
  · have hse : (eaS S op 0 S.sh).sh = S.sh := by unfold Ms.sh; rw [eaS_n]
    rw [hse] at hi
    obtain rfl : i = 2 := by omega
    rw [n2 (by omega)]; omega
end Go.Proofs.YthkijncnndoafaaDoor

/- General: what the gadgets of words make, as what words stand for. No program is named. -/
namespace Go.Proofs.YthkijncnndoafaaDoor

/-- A constant. -/
theorem cst_vl {S : Ms} {K : Int} {c : Nat} (h : (cstS S K c).e = 0) (hs : S.skip = 0) (hn : S.n = 2 ∨ S.n = 3) (hK : K = 3 ∨ K = 4) :
    vlN (cstS S K c).v (cstS S K c).L (cstR S K c) = c ∧ Gw (cstS S K c) (cstR S K c) := by
  have h2 : 2 ≤ S.sh ∧ S.sh ≤ 3 := by unfold Ms.sh; omega
  have hev : ∀ C a b d x, evN K C a b d x = C := fun C a b d x => by rcases hK with rfl | rfl; exact ev3 C a b d x; exact ev4 C a b d x
  have := ea_vl (op := opCst K c) h hs h2.1 h2.2 (fun j => if j = 0 then c else 0) (fun j _ => by unfold opCst; split <;> exact ⟨by show (-1 : Int) < _; omega, by show (-1 : Int) < _; omega, by show (-1 : Int) < _; omega⟩)
    (fun j _ => by
      unfold opCst
      by_cases e : j = 0
      · rw [if_pos e, if_pos e]; exact hev _ _ _ _ _
      · rw [if_neg e, if_neg e]; exact ev3 _ _ _ _ _) (fun _ => rfl)
  refine ⟨this.1.trans ?_, this.2⟩
  simp
/-- What a move or a mask makes of a word. -/
def mvN (K : Int) (c a : Nat) : Nat := evN K c a 0 0 0
theorem mvN_xor {K : Int} (hK : K = 8 ∨ K = 9 ∨ K = 10 ∨ K = 11) {c a b : Nat} (ha : a < 2 ^ 64) (hb : b < 2 ^ 64) : mvN K c (a ^^^ b) = mvN K c a ^^^ mvN K c b := by
  unfold mvN
  rcases hK with rfl | rfl | rfl | rfl
  · rw [ev8, ev8, ev8]; exact wmk_xor
  · rw [ev9, ev9, ev9]; exact wsl_xor _ _ _
  · rw [ev10, ev10, ev10]; exact wsr_xor ha hb _
  · rw [ev11, ev11, ev11]; exact rt_xor ha hb (by omega)
theorem mvN_any {K : Int} (hK : K = 8 ∨ K = 9 ∨ K = 10 ∨ K = 11) (c a b d x : Nat) : evN K c a b d x = mvN K c a := by
  unfold mvN
  rcases hK with rfl | rfl | rfl | rfl
  · rw [ev8, ev8]
  · rw [ev9, ev9]
  · rw [ev10, ev10]
  · rw [ev11, ev11]
theorem mvN_zero {K : Int} (hK : K = 8 ∨ K = 9 ∨ K = 10 ∨ K = 11) (c : Nat) : mvN K c 0 = 0 := by
  have h := mvN_xor hK (c := c) (a := 0) (b := 0) (by decide) (by decide)
  rw [Nat.xor_self] at h
  rw [h]; exact Nat.xor_self _
theorem one_vl {S : Ms} {K : Int} {A : Nat → Int} {c : Nat} (h : (oneS S K A c).e = 0) (hs : S.skip = 0) (hn : S.n = 2 ∨ S.n = 3) (hK : K = 8 ∨ K = 9 ∨ K = 10 ∨ K = 11) (hv : ∀ i, i < S.L → S.v i < 2 ^ 64) (hA : Gw S A) :
    vlN (oneS S K A c).v (oneS S K A c).L (oneR S K A c) = mvN K c (vlN S.v S.L A) ∧ Gw (oneS S K A c) (oneR S K A c) := by
  have h2 : 2 ≤ S.sh ∧ S.sh ≤ 3 := by unfold Ms.sh; omega
  have := ea_vl (op := opOne K A c) h hs h2.1 h2.2 (fun j => mvN K c (wordAt S.v S.L (A j))) (fun j hj => ⟨hA.lt j hj, by show (-1 : Int) < _; omega, by show (-1 : Int) < _; omega⟩)
    (fun j _ => mvN_any hK _ _ _ _ _) (fun e => by show mvN K c (wordAt S.v S.L (A 2)) = 0; rw [wordAt_neg (hA.no 2 (by omega) (by omega))]; exact mvN_zero hK c)
  refine ⟨this.1.trans ?_, this.2⟩
  have l := fun i => wordAt_lt hv (A i)
  rw [vl_three, mvN_xor hK (xr_lt (l 0) (l 1)) (l 2), mvN_xor hK (l 0) (l 1)]
/-- The first share alone is made anew. -/
theorem up_vl {S : Ms} {A : Nat → Int} {o : Op6} {x : Nat} (h : (S.doS o x).e = 0) (hs : S.skip = 0) (hA : Gw S A) :
    vlN (S.doS o x).v (S.doS o x).L (updI A 0 (S.doR o)) = S.makes o x ^^^ wordAt S.v S.L (A 1) ^^^ wordAt S.v S.L (A 2) ∧ (Gw (S.doS o x) (updI A 0 (S.doR o)) ∨ S.sh = 0) := by
  obtain ⟨w1, w2, w3⟩ := do_word h hs
  have hX := doS_ext S o x
  refine ⟨?_, ?_⟩
  · rw [vl_three, updI_at, updI_no A _ (by decide : (1 : Nat) ≠ 0), updI_no A _ (by decide : (2 : Nat) ≠ 0), w3, wordAt_ext hX (hA.lt 1 (by omega)), wordAt_ext hX (hA.lt 2 (by omega))]
  · by_cases h0 : S.sh = 0
    · exact .inr h0
    · refine .inl ⟨fun i hi => ?_, fun i hi hj => ?_⟩
      · by_cases e : i = 0
        · subst e; rw [updI_at, w1, w2]; omega
        · rw [updI_no _ _ e]; have := hA.lt i hi; rw [w2]; omega
      · have e2 : (S.doS o x).sh = S.sh := by unfold Ms.sh; rw [hX.n]
        rw [e2] at hi
        rw [updI_no _ _ (by omega)]
        exact hA.no i hi hj
theorem not_vl {S : Ms} {A : Nat → Int} (h : (notS S A).e = 0) (hs : S.skip = 0) (hn : S.n = 2 ∨ S.n = 3) (hv : ∀ i, i < S.L → S.v i < 2 ^ 64) (hA : Gw S A) :
    vlN (notS S A).v (notS S A).L (notR S A) = wnt (vlN S.v S.L A) ∧ Gw (notS S A) (notR S A) := by
  have hsh : S.sh ≠ 0 := by unfold Ms.sh; omega
  obtain ⟨a, b⟩ := up_vl (A := A) h hs hA
  refine ⟨a.trans ?_, b.resolve_right hsh⟩
  have l := fun i => wordAt_lt hv (A i)
  have e : S.makes (opNot A) 0 = wnt (wordAt S.v S.L (A 0)) := ev6 _ _ _ _ _
  rw [e, vl_three, ← wnt_max (l 0), ← wnt_max (xr_lt (xr_lt (l 0) (l 1)) (l 2))]
  simp only [Nat.xor_assoc]
end Go.Proofs.YthkijncnndoafaaDoor

/- Wire: the program's machine alone; nobody's machine, a new one; the example. -/
namespace Go.Proofs.YthkijncnndoafaaDoor
open Go.RowKit
set_option maxRecDepth 100000
/-- A machine over a tape of which d words were drawn, and which may be drawn up to e. -/
def startD (n most : Int) (tw : Nat → Nat) (TN d e : Nat) : Ms :=
  ⟨n, most, 0, 0, 0, 0, 0, 0, 0, fun _ => ⟨0, 0, 0, 0, 0, 0⟩, 0, fun _ => ⟨0, 0, 0⟩, fun _ => 0, tw, TN, d, e - d, false⟩
/-- Nobody's machine, and new ones. -/
structure MachN (Pm : World → Nat → Ms → (Nat → Prop) → Prop) : Prop where
  nbegin : ∀ w, Calls Tryd.prog 53 #[.pointer none, .int .i64 1] w fun e w' => e = .returned (.tuple #[]) ∧ Below w.heap.size w w'
  nend : ∀ w, Calls Tryd.prog 56 #[.pointer none] w fun e w' => e = .returned (.tuple #[]) ∧ Below w.heap.size w w'
  nrand : ∀ w, Calls Tryd.prog 66 #[.pointer none, .int .i64 0] w fun e w' => e = .returned (.int .i64 (-1)) ∧ Below w.heap.size w w'
  nerr : ∀ w, Calls Tryd.prog 9 #[.pointer none] w fun e w' => e = .returned (.int .i64 1) ∧ Below w.heap.size w w'
  nvalues : ∀ w, Calls Tryd.prog 8 #[.pointer none] w fun e w' => ∃ a c, e = .returned (.slice a 0 c) ∧ Below w.heap.size w w'
  nn : ∀ w, Calls Tryd.prog 40 #[.pointer none] w fun e w' => e = .returned (.int .i64 0) ∧ Below w.heap.size w w'
  ndraws : ∀ w, Calls Tryd.prog 10 #[.pointer none] w fun e w' => e = .returned (.int .i64 0) ∧ Below w.heap.size w w'
  bad : ∀ (n most : Int) (q : Nat) (w : World), ¬ ((n = 2 ∨ n = 3) ∧ 0 ≤ most ∧ most ≤ 1048576) → Calls Tryd.prog 15 #[.int .i64 n, .pointer (some ⟨q, 0, none⟩), .int .i64 most] w fun e w' => e = .returned (.tuple #[.pointer none, .int .i64 1]) ∧ Below w.heap.size w w'
  new : ∀ (lo hi q d e : Nat) (n most : Int) (tw : Nat → Nat) (TN : Nat) (w : World), TapeAt w lo hi q (wdL tw TN) d e → (n = 2 ∨ n = 3) → 0 ≤ most → most ≤ 1048576 →
    Calls Tryd.prog 15 #[.int .i64 n, .pointer (some ⟨q, 0, none⟩), .int .i64 most] w fun r w' => ∃ b, r = .returned (.tuple #[.pointer (some ⟨b, 0, none⟩), .int .i64 0]) ∧ Below w.heap.size w w' ∧ ∃ F, Pm w' b (startD n most tw TN d e) F ∧ ∀ k, F k → (lo ≤ k ∧ k < hi) ∨ w.heap.size ≤ k
/-- The program's machine, alone. -/
def Pz (Pm : World → Nat → Ms → (Nat → Prop) → Prop) (lo : Nat) (X : Nat → Prop) (W wx : World) (p : Nat) (S : Ms) : Prop :=
  ∃ F, Pm wx p S F ∧ (∀ k, F k → lo ≤ k ∧ ¬ X k) ∧ (∀ k, X k → k < wx.heap.size) ∧ Below lo W wx ∧ lo ≤ wx.heap.size
section
variable {Pm : World → Nat → Ms → (Nat → Prop) → Prop} {lo : Nat} {X : Nat → Prop} {W wx wy : World} {p : Nat} {S S' : Ms}
theorem Pz.low (h : Pz Pm lo X W wx p S) : Below lo W wx := by obtain ⟨_, _, _, _, h, _⟩ := h; exact h
theorem Pz.los (h : Pz Pm lo X W wx p S) : lo ≤ wx.heap.size := by obtain ⟨_, _, _, _, _, h⟩ := h; exact h
theorem Pz.self (hM : Mach Pm) (h : Pz Pm lo X W wx p S) (hb : Below wx.heap.size wx wy) : Pz Pm lo X W wy p S := by
  obtain ⟨F, h1, h2, h3, h4, h5⟩ := h
  exact ⟨F, hM.stays h1 hb.size (fun k hk => hb.block k (hM.lt h1 k hk)), h2, fun k hk => Nat.lt_of_lt_of_le (h3 k hk) hb.size, h4.trans (hb.mono h5), Nat.le_trans h5 hb.size⟩
/-- What is not the machine's is turned. -/
theorem Pz.apart (hM : Mach Pm) {G : Nat → Prop} (h : Pz Pm lo X W wx p S) (hb : Tch G wx wy) (hG : ∀ k, G k → X k ∧ lo ≤ k) : Pz Pm lo X W wy p S := by
  obtain ⟨F, h1, h2, h3, h4, h5⟩ := h
  exact ⟨F, hM.stays h1 hb.size (fun k hk => hb.block k (hM.lt h1 k hk) (fun g => (h2 k hk).2 (hG k g).1)), h2, fun k hk => Nat.lt_of_lt_of_le (h3 k hk) hb.size, h4.trans (hb.below (fun k g => (hG k g).2) h5), Nat.le_trans h5 hb.size⟩
/-- More blocks that are not the machine's: new ones. -/
theorem Pz.more (hM : Mach Pm) {Y : Nat → Prop} (h : Pz Pm lo X W wx p S) (hb : Below wx.heap.size wx wy) (hY : ∀ k, Y k → X k ∨ wx.heap.size ≤ k ∧ k < wy.heap.size) : Pz Pm lo Y W wy p S := by
  obtain ⟨F, h1, h2, h3, h4, h5⟩ := h
  refine ⟨F, hM.stays h1 hb.size (fun k hk => hb.block k (hM.lt h1 k hk)), fun k hk => ⟨(h2 k hk).1, fun hy => ?_⟩, fun k hk => ?_, h4.trans (hb.mono h5), Nat.le_trans h5 hb.size⟩
  · rcases hY k hy with e | e
    · exact (h2 k hk).2 e
    · have := hM.lt h1 k hk; omega
  · rcases hY k hk with e | e
    · exact Nat.lt_of_lt_of_le (h3 k e) hb.size
    · exact e.2
theorem Pz.on {F : Nat → Prop} {p' : Nat} (h2 : ∀ k, F k → lo ≤ k ∧ ¬ X k) (h3 : ∀ k, X k → k < wx.heap.size) (h4 : Below lo W wx) (h5 : lo ≤ wx.heap.size) (hr : PmR Pm p' S' F wx wy) : Pz Pm lo X W wy p' S' ∧ ∀ k, X k → wy.heap[k]? = wx.heap[k]? := by
  obtain ⟨F', g1, g2, g3⟩ := hr
  refine ⟨⟨F', g1, fun k hk => ?_, fun k hk => Nat.lt_of_lt_of_le (h3 k hk) g2.size, h4.trans (g2.below (fun k f => (h2 k f).1) h5), Nat.le_trans h5 g2.size⟩, fun k hk => g2.block k (h3 k hk) (fun f => (h2 k f).2 hk)⟩
  rcases g3 k hk with f | f
  · exact h2 k f
  · exact ⟨by omega, fun e => by have := h3 k e; omega⟩
end
section
variable {Pm : World → Nat → Ms → (Nat → Prop) → Prop} (hM : Mach Pm) {lo : Nat} {X : Nat → Prop} {W w : World} {b k : Nat} {S : Ms}
include hM
end
theorem startD_bq (n most : Int) (tw : Nat → Nat) (TN d e k : Nat) (hn : n = 2 ∨ n = 3) (hm : 0 ≤ most) (hm' : most ≤ 1048576) (hT : TN ≤ 20000000000000) (htw : ∀ i, i < TN → tw i < 2 ^ 64) (hd : d ≤ e) (he : e ≤ TN) : Bq k (startD n most tw TN d e) := by
  refine ⟨Nat.zero_le _, Nat.zero_le _, Nat.zero_le _, Nat.zero_le _, Nat.zero_le _, by show d ≤ _; omega, by show e - d ≤ _; omega, hT, fun i hi => absurd hi (Nat.not_lt_zero i), htw, fun _ => rfl, fun i hi => absurd hi (Nat.not_lt_zero i), fun i hi => absurd hi (Nat.not_lt_zero i), by show (0 : Int) ≤ 0 ∧ (0 : Int) ≤ 3; decide, by show _ ≤ n ∧ n ≤ _; omega, by show _ ≤ most ∧ most ≤ _; omega, by show 0 ≤ 4; omega⟩
end Go.Proofs.YthkijncnndoafaaDoor

/- General: arrays of ints that are not negative, by value and in a block (Arw's, for i64). No program is named. -/
namespace Go.Proofs.YthkijncnndoafaaDoor
open Go.ChangeShapes Go.WideShapes Go.ChangeAt Go.RowKit

/-- The n cells of an array of words. -/
def ia (n : Nat) (f : Nat → Nat) : Array Value := ((List.range n).map fun i => Value.int .i64 (f i : Int)).toArray

theorem ia_size (n : Nat) (f : Nat → Nat) : (ia n f).size = n := by simp [ia]
theorem ia_get {n : Nat} (f : Nat → Nat) {j : Nat} (h : j < n) : (ia n f)[j]? = some (.int .i64 (f j : Int)) := by simp [ia, h]
theorem ia_ext {n : Nat} {f g : Nat → Nat} (h : ∀ i, i < n → f i = g i) : ia n f = ia n g := by
  unfold ia
  congr 1
  refine List.map_congr_left fun i hi => ?_
  rw [h i (List.mem_range.1 hi)]
theorem ia_set {n : Nat} (f : Nat → Nat) (j z : Nat) : (ia n f).setIfInBounds j (.int .i64 (z : Int)) = ia n (upd f j z) := by
  apply Array.ext_getElem?
  intro i
  rw [Array.getElem?_setIfInBounds, ia_size]
  by_cases hi : i < n
  · rw [ia_get _ hi, ia_get _ hi]
    by_cases e : j = i
    · subst e; rw [if_pos rfl, if_pos hi, upd_same]
    · rw [if_neg e, upd_other _ _ _ _ (fun h => e h.symm)]
  · have h1 : (ia n f)[i]? = none := by simp [ia_size]; omega
    have h2 : (ia n (upd f j z))[i]? = none := by simp [ia_size]; omega
    rw [h1, h2]
    by_cases e : j = i
    · rw [if_pos e, if_neg (by omega)]
    · rw [if_neg e]
theorem ia_one (n : Nat) (f : Nat → Nat) : (ia n f).all (·.oneCell') = true := by
  refine Array.all_eq_true_iff_forall_mem.2 (fun v hv => ?_)
  simp [ia] at hv
  obtain ⟨i, _, rfl⟩ := hv
  rfl

section prog
variable {P : Program}

end prog
/-! ### an array in a block of its own -/
/-- Block b holds, whole, the n words of f, as a variable of type t. -/
def Ai (w : World) (b n : Nat) (t : TypeId) (f : Nat → Nat) : Prop := w.heap[b]? = some (.cells (ia n f) t (0, 0))
theorem Ai.lt {w : World} {b n : Nat} {t : TypeId} {f : Nat → Nat} (h : Ai w b n t f) : b < w.heap.size := (Array.getElem?_eq_some_iff.1 h).1
theorem Ai.cell {w : World} {b n : Nat} {t : TypeId} {f : Nat → Nat} (h : Ai w b n t f) {j : Nat} (hj : j < n) : w.cell? ⟨b, j, none⟩ = some (.int .i64 (f j : Int)) := by
  rw [cell_of_row w b j _ t (0, 0) h, ia_get f hj]
theorem Ai.free {w : World} {b n : Nat} {t : TypeId} {f : Nat → Nat} (h : Ai w b n t f) (o : Nat) : w.frozen? ⟨b, o, none⟩ = false := frozen_of_row w b o _ t h
theorem Ai.set {w : World} {b n : Nat} {t : TypeId} {f : Nat → Nat} (h : Ai w b n t f) (j z : Nat) : Ai (w.setCell ⟨b, j, none⟩ (.int .i64 (z : Int))) b n t (upd f j z) := by
  unfold Ai
  rw [heap_setCell_same w b j _ t _ h, ia_set]
theorem Ai.apart {w : World} {b n : Nat} {t : TypeId} {f : Nat → Nat} (h : Ai w b n t f) {a : Addr} (ha : b ≠ a.block) (v : Value) : Ai (w.setCell a v) b n t f := (heap_setCell_other w a b v ha).trans h
theorem Ai.row {w : World} {b n : Nat} {t : TypeId} {f : Nat → Nat} (h : Ai w b n t f) (g : Nat → Nat) : Ai (w.setRow b (ia n g)) b n t g := setRow_heap w b _ _ t _ h
theorem Ai.alloc {w : World} {b n : Nat} {t : TypeId} {f : Nat → Nat} (h : Ai w b n t f) (o : Obj) : Ai (w.alloc o) b n t f := (heap_alloc_old w o h.lt).trans h
theorem Ai.new (w : World) (n : Nat) (t : TypeId) (f : Nat → Nat) : Ai (w.alloc (.cells (ia n f) t)) w.heap.size n t f := heap_alloc_new w _
theorem Ai.drew {w : World} {b n : Nat} {t : TypeId} {f : Nat → Nat} (h : Ai w b n t f) : Ai w.drew b n t f := h
theorem Ai.below {w w' : World} {b n B : Nat} {t : TypeId} {f : Nat → Nat} (h : Ai w b n t f) (hb : Below B w w') (hB : b < B) : Ai w' b n t f := (hb.block b hB).trans h
theorem Ai.self {w w' : World} {b n : Nat} {t : TypeId} {f : Nat → Nat} (h : Ai w b n t f) (hb : Below w.heap.size w w') : Ai w' b n t f := h.below hb h.lt
theorem Ai.ext {w : World} {b n : Nat} {t : TypeId} {f g : Nat → Nat} (h : Ai w b n t f) (e : ∀ i, i < n → f i = g i) : Ai w b n t g := by
  unfold Ai at h ⊢; rw [h, ia_ext e]

section prog2
variable {P : Program}
theorem Ai.load {w : World} {b n : Nat} {t : TypeId} {f : Nat → Nat} {e : TypeId} (h : Ai w b n t f) (ty : TypeId) (hu : P.underlying ty = some (.array n e)) (hi : (P.info? ty).map (·.size) = some n) :
    (loadVar ty ⟨b, 0, none⟩).run P w = .ok (.agg (ia n f)) w :=
  run_loadVar_row w b t ty _ (0, 0) _ h hu rfl (by rw [ia_size]; exact hi)
theorem Ai.store {w : World} {b n : Nat} {t : TypeId} {f : Nat → Nat} (h : Ai w b n t f) (ty : TypeId) (g : Nat → Nat) (hi : (P.info? ty).map (·.size) = some n) :
    (storeVar ty ⟨b, 0, none⟩ (.agg (ia n g))).run P w = .ok () (w.setRow b (ia n g)) :=
  run_storeVar_row w b t ty _ _ h (by rw [ia_size]; exact hi) (by rw [ia_size, ia_size]) (ia_one n g)
end prog2

/-! ### returns of arrays -/
/-! ### whole loads and stores, as arms of a walk -/
end Go.Proofs.YthkijncnndoafaaDoor

/- Wire: are a trace's words what its ops make? -/
namespace Go.Proofs.YthkijncnndoafaaDoor
open Go.RowKit
set_option maxRecDepth 100000
/-- A row of words that is read, whatever is new. -/
structure Wr (w : World) (v : Value) (L : Nat) (f : Nat → Nat) : Prop where
  at_ : ∃ a cap, v = .slice a L cap ∧ (0 < L → ∃ g off, a = some ⟨g, off, none⟩ ∧ g < w.heap.size ∧ ∀ i, i < L → w.cell? ⟨g, off + i, none⟩ = some (.int .u64 (f i : Int)))
theorem rd_wr {w : World} {v : Value} {L : Nat} {f : Nat → Nat} (h : Rd .u64 w v (wdL f L)) : Wr w v L f := by
  obtain ⟨a, cap, e, _, _, hc⟩ := h
  rw [wdL_len] at e hc
  refine ⟨a, cap, e, fun h0 => ?_⟩
  obtain ⟨g, off, e1, e2, e3⟩ := hc h0
  exact ⟨g, off, e1, e2, fun i hi => by rw [e3 i hi, wdL_nth f hi]⟩
end Go.Proofs.YthkijncnndoafaaDoor

/- Share: are both machines alike? -/
namespace Go.Proofs.YthkijncnndoafaaDoor
open Go.RowKit
set_option maxRecDepth 100000
/-- A pair's cells. -/
abbrev paC (p b : Nat) (lv vv : Value) : Array Value := #[.pointer (some ⟨p, 0, none⟩), .pointer (some ⟨b, 0, none⟩), lv, vv]
end Go.Proofs.YthkijncnndoafaaDoor

/- Share: words, by the document. -/
namespace Go.Proofs.YthkijncnndoafaaDoor
open Go.RowKit
set_option maxRecDepth 100000
theorem step_load_row {P : Program} {w : World} {ops : Array Oper} {rest : List Oper} {o : Oper} {a : Act} {Q : Exit → Act → World → Prop} (hgd : o.guard = none) (ty : TypeId) (x : Operand) (ho : o.op = .load ty x)
    (b : Nat) (t : TypeId) (cs : Array Value) (d : TypeDesc) (hx : a.eval x = .pointer (some ⟨b, 0, none⟩)) (hA : w.heap[b]? = some (.cells cs t (0, 0))) (hu : P.underlying ty = some d) (hag : (match d with | .struct _ | .array _ _ => true | _ => false) = true) (hi : (P.info? ty).map (·.size) = some cs.size)
    (k : wpList P ops Q rest (a.put o.dst (.agg cs)) w) : wpList P ops Q (o :: rest) a w :=
  wpList_plain hgd fun _ hK => by
    unfold Oper.wp execOp
    simp only [ho, hx, Instr.loadAt, Instr.sureAddr, Sem.run_bind, Sem.run_pure, Result.andThen_ok, run_loadVar_row w b t ty cs (0, 0) d hA hu hag hi]
    exact hK _ _ k
theorem eaS_0 (S : Ms) (op : Nat → Op6) (m : Nat) : eaS S op 0 (m + 1) = (eaS S op 0 m).doS (op m) 0 := by rw [eaS, Nat.zero_add]
theorem eaR_0 (S : Ms) (op : Nat → Op6) (W : Nat → Int) (m : Nat) : eaR S op 0 W (m + 1) = updI (eaR S op 0 W m) m ((eaS S op 0 m).doR (op m)) := by rw [eaR, Nat.zero_add]
end Go.Proofs.YthkijncnndoafaaDoor
