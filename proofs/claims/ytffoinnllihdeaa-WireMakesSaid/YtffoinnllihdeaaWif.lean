import Derived.Test.YtffoinnllihdeaaProg
import Derived.Test.YtffoinnllihdeaaWdg
import Derived.Test.YtffoinnllihdeaaWsb
/- Wire: what the program's machine must tell, whatever it is made of. -/
namespace Go.Proofs.Ytffoinnllihdeaa
open Go.RowKit
set_option maxRecDepth 100000
/-- What a method of the program's machine leaves. -/
def PmR (Pm : World → Nat → Ms → (Nat → Prop) → Prop) (b : Nat) (S' : Ms) (F : Nat → Prop) (w w' : World) : Prop := ∃ F', Pm w' b S' F' ∧ Tch F w w' ∧ ∀ k, F' k → F k ∨ w.heap.size ≤ k
/-- What is kept of ops and blocks: nothing by a dry machine. -/
def Ms.keep (S : Ms) (n : Nat) : Nat := if S.dry = true then 0 else n
/-- The program's machine: Pm w b S F: in w block b holds it, S its numbers, F the blocks that it owns. -/
structure Mach (Pm : World → Nat → Ms → (Nat → Prop) → Prop) : Prop where
  stays : ∀ {w w' : World} {b : Nat} {S : Ms} {F : Nat → Prop}, Pm w b S F → w.heap.size ≤ w'.heap.size → (∀ k, F k → w'.heap[k]? = w.heap[k]?) → Pm w' b S F
  lt : ∀ {w : World} {b : Nat} {S : Ms} {F : Nat → Prop}, Pm w b S F → ∀ k, F k → k < w.heap.size
  do_ : ∀ (b k : Nat) (S : Ms) (F : Nat → Prop) (o : Op6) (x : Nat) (w : World), Pm w b S F → Bq k S → k ≤ 1000000 → opwf o → x < 2 ^ 64 → Calls Try.prog 17 #[.pointer (some ⟨b, 0, none⟩), .agg (opCs o), .int .u64 (x : Int)] w fun e w' => e = .returned (.int .i64 (S.doR o)) ∧ PmR Pm b (S.doS o x) F w w'
  rand : ∀ (b k : Nat) (S : Ms) (F : Nat → Prop) (dom : Int) (w : World), Pm w b S F → Bq k S → k ≤ 1000000 → opwf ⟨1, dom, -1, -1, -1, 0⟩ → Calls Try.prog 27 #[.pointer (some ⟨b, 0, none⟩), .int .i64 dom] w fun e w' => e = .returned (.int .i64 (S.doR ⟨1, dom, -1, -1, -1, 0⟩)) ∧ PmR Pm b (S.doS ⟨1, dom, -1, -1, -1, 0⟩ 0) F w w'
  key : ∀ (b k : Nat) (S : Ms) (F : Nat → Prop) (x : Nat) (p q : Int) (w : World), Pm w b S F → Bq k S → k ≤ 1000000 → opwf ⟨2, 0, p, q, -1, S.words⟩ → x < 2 ^ 64 → Calls Try.prog 16 #[.pointer (some ⟨b, 0, none⟩), .int .u64 (x : Int), .int .i64 p, .int .i64 q] w fun e w' => e = .returned (.int .i64 (S.doR ⟨2, 0, p, q, -1, S.words⟩)) ∧ PmR Pm b (S.doS ⟨2, 0, p, q, -1, S.words⟩ x) F w w'
  const_ : ∀ (b k : Nat) (S : Ms) (F : Nat → Prop) (dom : Int) (c : Nat) (w : World), Pm w b S F → Bq k S → k ≤ 1000000 → opwf ⟨3, dom, -1, -1, -1, c⟩ → Calls Try.prog 31 #[.pointer (some ⟨b, 0, none⟩), .int .i64 dom, .int .u64 (c : Int)] w fun e w' => e = .returned (.int .i64 (S.doR ⟨3, dom, -1, -1, -1, c⟩)) ∧ PmR Pm b (S.doS ⟨3, dom, -1, -1, -1, c⟩ 0) F w w'
  told : ∀ (b k : Nat) (S : Ms) (F : Nat → Prop) (dom : Int) (c : Nat) (w : World), Pm w b S F → Bq k S → k ≤ 1000000 → opwf ⟨4, dom, -1, -1, -1, c⟩ → Calls Try.prog 37 #[.pointer (some ⟨b, 0, none⟩), .int .i64 dom, .int .u64 (c : Int)] w fun e w' => e = .returned (.int .i64 (S.doR ⟨4, dom, -1, -1, -1, c⟩)) ∧ PmR Pm b (S.doS ⟨4, dom, -1, -1, -1, c⟩ 0) F w w'
  two : ∀ (b k : Nat) (S : Ms) (F : Nat → Prop) (kd dom p q : Int) (w : World), Pm w b S F → Bq k S → k ≤ 1000000 → opwf ⟨kd, dom, p, q, -1, 0⟩ → Calls Try.prog 32 #[.pointer (some ⟨b, 0, none⟩), .int .i64 kd, .int .i64 dom, .int .i64 p, .int .i64 q] w fun e w' => e = .returned (.int .i64 (S.doR ⟨kd, dom, p, q, -1, 0⟩)) ∧ PmR Pm b (S.doS ⟨kd, dom, p, q, -1, 0⟩ 0) F w w'
  one : ∀ (b k : Nat) (S : Ms) (F : Nat → Prop) (kd dom p : Int) (c : Nat) (w : World), Pm w b S F → Bq k S → k ≤ 1000000 → opwf ⟨kd, dom, p, -1, -1, c⟩ → Calls Try.prog 38 #[.pointer (some ⟨b, 0, none⟩), .int .i64 kd, .int .i64 dom, .int .i64 p, .int .u64 (c : Int)] w fun e w' => e = .returned (.int .i64 (S.doR ⟨kd, dom, p, -1, -1, c⟩)) ∧ PmR Pm b (S.doS ⟨kd, dom, p, -1, -1, c⟩ 0) F w w'
  open_ : ∀ (b k : Nat) (S : Ms) (F : Nat → Prop) (p q r : Int) (w : World), Pm w b S F → Bq k S → k ≤ 1000000 → opwf ⟨12, -1, p, q, r, 0⟩ → Calls Try.prog 28 #[.pointer (some ⟨b, 0, none⟩), .int .i64 p, .int .i64 q, .int .i64 r] w fun e w' => e = .returned (.int .u64 (S.opR ⟨12, -1, p, q, r, 0⟩ : Nat)) ∧ PmR Pm b (S.doS ⟨12, -1, p, q, r, 0⟩ 0) F w w'
  begin_ : ∀ (b k : Nat) (S : Ms) (F : Nat → Prop) (kd : Int) (w : World), Pm w b S F → Bq k S → k ≤ 1000000 → Calls Try.prog 18 #[.pointer (some ⟨b, 0, none⟩), .int .i64 kd] w fun e w' => e = .returned (.tuple #[]) ∧ PmR Pm b (S.beginS kd) F w w'
  end_ : ∀ (b k : Nat) (S : Ms) (F : Nat → Prop) (w : World), Pm w b S F → Bq k S → k ≤ 1000000 → Calls Try.prog 20 #[.pointer (some ⟨b, 0, none⟩)] w fun e w' => e = .returned (.tuple #[]) ∧ PmR Pm b S.endS F w w'
  n : ∀ (b k : Nat) (S : Ms) (F : Nat → Prop) (w : World), Pm w b S F → Bq k S → k ≤ 1000000 → Calls Try.prog 29 #[.pointer (some ⟨b, 0, none⟩)] w fun e w' => e = .returned (.int .i64 S.n) ∧ Below w.heap.size w w'
  len : ∀ (b k : Nat) (S : Ms) (F : Nat → Prop) (w : World), Pm w b S F → Bq k S → k ≤ 1000000 → Calls Try.prog 15 #[.pointer (some ⟨b, 0, none⟩)] w fun e w' => e = .returned (.int .i64 (S.len : Nat)) ∧ Below w.heap.size w w'
  draws : ∀ (b k : Nat) (S : Ms) (F : Nat → Prop) (w : World), Pm w b S F → Bq k S → k ≤ 1000000 → Calls Try.prog 30 #[.pointer (some ⟨b, 0, none⟩)] w fun e w' => e = .returned (.int .i64 (S.draws : Nat)) ∧ Below w.heap.size w w'
  err : ∀ (b k : Nat) (S : Ms) (F : Nat → Prop) (w : World), Pm w b S F → Bq k S → k ≤ 1000000 → Calls Try.prog 19 #[.pointer (some ⟨b, 0, none⟩)] w fun e w' => e = .returned (.int .i64 (S.e : Nat)) ∧ Below w.heap.size w w'
  trace : ∀ (b k : Nat) (S : Ms) (F : Nat → Prop) (w : World), Pm w b S F → Bq k S → k ≤ 1000000 → Calls Try.prog 22 #[.pointer (some ⟨b, 0, none⟩)] w fun e w' => ∃ v0 v1, e = .returned (.agg #[.int .i64 S.n, v0, v1]) ∧ ROp w' v0 (S.keep S.L) S.f ∧ RSp w' v1 (S.keep S.M) S.g ∧ Below w.heap.size w w'
  values : ∀ (b k : Nat) (S : Ms) (F : Nat → Prop) (w : World), Pm w b S F → Bq k S → k ≤ 1000000 → Calls Try.prog 23 #[.pointer (some ⟨b, 0, none⟩)] w fun e w' => ∃ v, e = .returned v ∧ Rd .u64 w' v (wdL S.v (S.keep S.L)) ∧ Below w.heap.size w w'
  dry : ∀ (b k : Nat) (S : Ms) (F : Nat → Prop) (w : World), Pm w b S F → Bq k S → k ≤ 1000000 → Calls Try.prog 11 #[.pointer (some ⟨b, 0, none⟩)] w fun e w' => ∃ b', e = .returned (.pointer (some ⟨b', 0, none⟩)) ∧ PmR Pm b' S.dryS F w w'
theorem row_c {w : World} {n i : Nat} {cs : Array Value} {T : TypeId} {u : Value} (h : w.heap[n]? = some (.cells cs T (0, 0))) (hu : cs[i]? = some u) : w.cell? ⟨n, i, none⟩ = some u := by
  rw [cell_of_row w n i _ _ _ h]; exact hu
theorem Bq.bd {k : Nat} {S : Ms} (h : Bq k S) (hk : k ≤ 100000) : Bd S := by
  have h1 := h.len
  unfold Ms.len at h1
  have h2 := h.M
  have h3 := h.words
  have h4 := h.draws
  exact ⟨by omega, by omega, by omega, by omega, by omega, h.used, h.free, h.TN, h.v, h.tw⟩
theorem Dm.ftlt {lo : LoG} {b : Nat} {w : World} {S : Ms} {ov bv vv tv : Value} (h : Dm lo w b S ov bv vv tv) {k : Nat} (hk : Ft b ov bv vv k) : k < w.heap.size := by
  rcases hk with rfl | e | e | e
  · exact h.lt
  · exact (h.ops.lt k e).2
  · exact (h.bls.lt k e).2
  · exact (h.val.lt k e).2
theorem Dm.ftlo {lo : LoG} {b : Nat} {w : World} {S : Ms} {ov bv vv tv : Value} (h : Dm lo w b S ov bv vv tv) {k : Nat} (hk : Ft b ov bv vv k) : lo.lo ≤ k := by
  rcases hk with rfl | e | e | e
  · exact h.lob
  · exact (h.ops.lt k e).1
  · exact (h.bls.lt k e).1
  · exact (h.val.lt k e).1
theorem Dm.stays {lo : LoG} {b : Nat} {w w' : World} {S : Ms} {ov bv vv tv : Value} (h : Dm lo w b S ov bv vv tv) (hs : w.heap.size ≤ w'.heap.size) (ho : ∀ k, Ft b ov bv vv k → w'.heap[k]? = w.heap[k]?) (hg : ∀ k, lo.G k → k < w.heap.size → w'.heap[k]? = w.heap[k]?) : Dm lo w' b S ov bv vv tv :=
  ⟨(ho b (.inl rfl)).trans h.blk, h.lob, h.ops.stays fun k hk => ho k (.inr (.inl hk)), h.bls.stays fun k hk => ho k (.inr (.inr (.inl hk))), h.val.stays fun k hk => ho k (.inr (.inr (.inr hk))),
   h.hob, h.hbb, h.hvb, h.hobv, h.hov, h.hbv, rds_stays h.tap hs fun g hF hlt => hg g hF.2.2.2.2 hlt⟩
/-- Both machines, in one world: the program's with the numbers S1 in block p, the document's with S2 in block b; X: blocks that are neither's. -/
def Bz (Pm : World → Nat → Ms → (Nat → Prop) → Prop) (lo : Nat) (X : Nat → Prop) (W wx : World) (p b : Nat) (S1 S2 : Ms) : Prop :=
  ∃ F G ov bv vv tv, Pm wx p S1 F ∧ Dm ⟨lo, G⟩ wx b S2 ov bv vv tv ∧ (∀ k, F k → lo ≤ k ∧ ¬ Ft b ov bv vv k ∧ ¬ G k ∧ ¬ X k) ∧ (∀ k, X k → k < wx.heap.size ∧ ¬ Ft b ov bv vv k ∧ ¬ G k) ∧ (∀ k, G k → k < wx.heap.size) ∧ Below lo W wx ∧ lo ≤ wx.heap.size
section
variable {Pm : World → Nat → Ms → (Nat → Prop) → Prop} {lo : Nat} {X : Nat → Prop} {W wx wy : World} {p b : Nat} {S1 S2 S' : Ms}
theorem Bz.low (h : Bz Pm lo X W wx p b S1 S2) : Below lo W wx := by
  obtain ⟨_, _, _, _, _, _, _, _, _, _, _, h, _⟩ := h; exact h
theorem Bz.los (h : Bz Pm lo X W wx p b S1 S2) : lo ≤ wx.heap.size := by
  obtain ⟨_, _, _, _, _, _, _, _, _, _, _, _, h⟩ := h; exact h
theorem Bz.words (h : Bz Pm lo X W wx p b S1 S2) : wx.cell? ⟨b, 2, none⟩ = some (.int .i64 (S2.words : Int)) := by
  obtain ⟨F, G, ov, bv, vv, tv, h1, h2, _⟩ := h
  exact h2.c_words
theorem Bz.dry (h : Bz Pm lo X W wx p b S1 S2) : wx.cell? ⟨b, 14, none⟩ = some (.bool S2.dry) := by
  obtain ⟨F, G, ov, bv, vv, tv, h1, h2, _⟩ := h
  exact h2.c_dry
theorem Bz.vals (h : Bz Pm lo X W wx p b S1 S2) : ∃ a cap, wx.cell? ⟨b, 10, none⟩ = some (.slice a S2.L cap) ∧ (0 < S2.L → ∃ g, a = some ⟨g, 0, none⟩ ∧ ∀ i, i < S2.L → wx.cell? ⟨g, i, none⟩ = some (.int .u64 (S2.v i : Int))) := by
  obtain ⟨F, G, ov, bv, vv, tv, h1, h2, _⟩ := h
  obtain ⟨a, cap, rfl, hc⟩ := h2.vals
  exact ⟨a, cap, h2.c_vv, hc⟩
/-- New blocks alone. -/
theorem Bz.self (hM : Mach Pm) (h : Bz Pm lo X W wx p b S1 S2) (hb : Below wx.heap.size wx wy) : Bz Pm lo X W wy p b S1 S2 := by
  obtain ⟨F, G, ov, bv, vv, tv, h1, h2, h3, h4, h5, h6, h7⟩ := h
  exact ⟨F, G, ov, bv, vv, tv, hM.stays h1 hb.size (fun k hk => hb.block k (hM.lt h1 k hk)), h2.self hb, h3, fun k hk => ⟨Nat.lt_of_lt_of_le (h4 k hk).1 hb.size, (h4 k hk).2⟩, fun k hk => Nat.lt_of_lt_of_le (h5 k hk) hb.size, h6.trans (hb.mono h7), Nat.le_trans h7 hb.size⟩
theorem Bz.drew (hM : Mach Pm) (h : Bz Pm lo X W wx p b S1 S2) : Bz Pm lo X W wx.drew p b S1 S2 := h.self hM ((Below.refl _ _).drew)
/-- More blocks that are neither's. -/
theorem Bz.more (hM : Mach Pm) (h : Bz Pm lo X W wx p b S1 S2) (hb : Below wx.heap.size wx wy) : Bz Pm lo (fun k => X k ∨ wx.heap.size ≤ k ∧ k < wy.heap.size) W wy p b S1 S2 := by
  obtain ⟨F, G, ov, bv, vv, tv, h1, h2, h3, h4, h5, h6, h7⟩ := h
  refine ⟨F, G, ov, bv, vv, tv, hM.stays h1 hb.size (fun k hk => hb.block k (hM.lt h1 k hk)), h2.self hb, fun k hk => ⟨(h3 k hk).1, (h3 k hk).2.1, (h3 k hk).2.2.1, ?_⟩, fun k hk => ?_, fun k hk => Nat.lt_of_lt_of_le (h5 k hk) hb.size, h6.trans (hb.mono h7), Nat.le_trans h7 hb.size⟩
  · rintro (e | e)
    · exact (h3 k hk).2.2.2 e
    · have := hM.lt h1 k hk; omega
  · rcases hk with e | e
    · exact ⟨Nat.lt_of_lt_of_le (h4 k e).1 hb.size, (h4 k e).2⟩
    · exact ⟨e.2, fun f => by have := h2.ftlt f; omega, fun g => by have := h5 k g; omega⟩
/-- What is neither machine's is turned. -/
theorem Bz.apart (hM : Mach Pm) {H : Nat → Prop} (h : Bz Pm lo X W wx p b S1 S2) (hb : Tch H wx wy) (hH : ∀ k, H k → X k ∧ lo ≤ k) : Bz Pm lo X W wy p b S1 S2 := by
  obtain ⟨F, G, ov, bv, vv, tv, h1, h2, h3, h4, h5, h6, h7⟩ := h
  exact ⟨F, G, ov, bv, vv, tv, hM.stays h1 hb.size (fun k hk => hb.block k (hM.lt h1 k hk) (fun f => (h3 k hk).2.2.2 (hH k f).1)), h2.stays hb.size (fun k hk => hb.block k (h2.ftlt hk) (fun f => (h4 k (hH k f).1).2.1 hk)) (fun k hk hlt => hb.block k hlt (fun f => (h4 k (hH k f).1).2.2 hk)), h3, fun k hk => ⟨Nat.lt_of_lt_of_le (h4 k hk).1 hb.size, (h4 k hk).2⟩, fun k hk => Nat.lt_of_lt_of_le (h5 k hk) hb.size, h6.trans (hb.below (fun k f => (hH k f).2) h7), Nat.le_trans h7 hb.size⟩
/-- Fewer. -/
theorem Bz.less {Y : Nat → Prop} (h : Bz Pm lo X W wx p b S1 S2) (hY : ∀ k, Y k → X k) : Bz Pm lo Y W wx p b S1 S2 := by
  obtain ⟨F, G, ov, bv, vv, tv, h1, h2, h3, h4, h5, h6, h7⟩ := h
  exact ⟨F, G, ov, bv, vv, tv, h1, h2, fun k hk => ⟨(h3 k hk).1, (h3 k hk).2.1, (h3 k hk).2.2.1, fun e => (h3 k hk).2.2.2 (hY k e)⟩, fun k hk => h4 k (hY k hk), h5, h6, h7⟩
/-- The program's machine goes on. -/
theorem Bz.prog (_hM : Mach Pm) {F G : Nat → Prop} {p' : Nat} {ov bv vv tv : Value} (_h1 : Pm wx p S1 F) (h2 : Dm ⟨lo, G⟩ wx b S2 ov bv vv tv) (h3 : ∀ k, F k → lo ≤ k ∧ ¬ Ft b ov bv vv k ∧ ¬ G k ∧ ¬ X k) (h4 : ∀ k, X k → k < wx.heap.size ∧ ¬ Ft b ov bv vv k ∧ ¬ G k) (h5 : ∀ k, G k → k < wx.heap.size) (h6 : Below lo W wx) (h7 : lo ≤ wx.heap.size)
    (hr : PmR Pm p' S' F wx wy) : Bz Pm lo X W wy p' b S' S2 ∧ ∀ k, X k → wy.heap[k]? = wx.heap[k]? := by
  obtain ⟨F', g1, g2, g3⟩ := hr
  refine ⟨⟨F', G, ov, bv, vv, tv, g1, h2.stays g2.size (fun k hk => g2.block k (h2.ftlt hk) (fun f => (h3 k f).2.1 hk)) (fun k hk hlt => g2.block k hlt (fun f => (h3 k f).2.2.1 hk)), fun k hk => ?_, fun k hk => ⟨Nat.lt_of_lt_of_le (h4 k hk).1 g2.size, (h4 k hk).2⟩, fun k hk => Nat.lt_of_lt_of_le (h5 k hk) g2.size, h6.trans (g2.below (fun k f => (h3 k f).1) h7), Nat.le_trans h7 g2.size⟩, fun k hk => g2.block k (h4 k hk).1 (fun f => (h3 k f).2.2.2 hk)⟩
  rcases g3 k hk with f | f
  · exact h3 k f
  · exact ⟨by omega, fun e => by have := h2.ftlt e; omega, fun e => by have := h5 k e; omega, fun e => by have := (h4 k e).1; omega⟩
/-- The document's machine goes on. -/
theorem Bz.doc (hM : Mach Pm) {F G : Nat → Prop} {ov bv vv tv : Value} (h1 : Pm wx p S1 F) (h2 : Dm ⟨lo, G⟩ wx b S2 ov bv vv tv) (h3 : ∀ k, F k → lo ≤ k ∧ ¬ Ft b ov bv vv k ∧ ¬ G k ∧ ¬ X k) (h4 : ∀ k, X k → k < wx.heap.size ∧ ¬ Ft b ov bv vv k ∧ ¬ G k) (h5 : ∀ k, G k → k < wx.heap.size) (h6 : Below lo W wx) (h7 : lo ≤ wx.heap.size)
    (hr : DmR ⟨lo, G⟩ b ov bv vv S' wx wy) : Bz Pm lo X W wy p b S1 S' ∧ ∀ k, X k → wy.heap[k]? = wx.heap[k]? := by
  obtain ⟨ov', bv', vv', tv', g1, g2, g3⟩ := hr
  refine ⟨⟨F, G, ov', bv', vv', tv', hM.stays h1 g2.size (fun k hk => g2.block k (hM.lt h1 k hk) (h3 k hk).2.1), g1, fun k hk => ⟨(h3 k hk).1, fun e => ?_, (h3 k hk).2.2⟩, fun k hk => ⟨Nat.lt_of_lt_of_le (h4 k hk).1 g2.size, fun e => ?_, (h4 k hk).2.2⟩, fun k hk => Nat.lt_of_lt_of_le (h5 k hk) g2.size, h6.trans (g2.below (fun k f => h2.ftlo f) h7), Nat.le_trans h7 g2.size⟩, fun k hk => g2.block k (h4 k hk).1 (h4 k hk).2.1⟩
  · rcases g3 k e with f | f
    · exact (h3 k hk).2.1 f
    · have := hM.lt h1 k hk; omega
  · rcases g3 k e with f | f
    · exact (h4 k hk).2.1 f
    · have := (h4 k hk).1; omega
end
section
variable {Pm : World → Nat → Ms → (Nat → Prop) → Prop} (hM : Mach Pm) {lo : Nat} {X : Nat → Prop} {W w : World} {b bd k : Nat} {S S2 : Ms}
include hM
theorem zdo_ (o : Op6) (x : Nat) (h : Bz Pm lo X W w b bd S S2) (hq : Bq k S) (hk : k ≤ 1000000) (ho : opwf o) (hx : x < 2 ^ 64) :
    Calls Try.prog 17 #[.pointer (some ⟨b, 0, none⟩), .agg (opCs o), .int .u64 (x : Int)] w fun e w' => e = .returned (.int .i64 (S.doR o)) ∧ Bz Pm lo X W w' b bd (S.doS o x) S2 ∧ ∀ k, X k → w'.heap[k]? = w.heap[k]? := by
  obtain ⟨F, G, ov, bv, vv, tv, h1, h2, h3, h4, h5, h6, h7⟩ := h
  exact (hM.do_ b k S F o x w h1 hq hk ho hx).mono fun e w' hr => ⟨hr.1, Bz.prog hM h1 h2 h3 h4 h5 h6 h7 hr.2⟩
theorem zrand (dom : Int) (h : Bz Pm lo X W w b bd S S2) (hq : Bq k S) (hk : k ≤ 1000000) (ho : opwf ⟨1, dom, -1, -1, -1, 0⟩) :
    Calls Try.prog 27 #[.pointer (some ⟨b, 0, none⟩), .int .i64 dom] w fun e w' => e = .returned (.int .i64 (S.doR ⟨1, dom, -1, -1, -1, 0⟩)) ∧ Bz Pm lo X W w' b bd (S.doS ⟨1, dom, -1, -1, -1, 0⟩ 0) S2 ∧ ∀ k, X k → w'.heap[k]? = w.heap[k]? := by
  obtain ⟨F, G, ov, bv, vv, tv, h1, h2, h3, h4, h5, h6, h7⟩ := h
  exact (hM.rand b k S F dom w h1 hq hk ho).mono fun e w' hr => ⟨hr.1, Bz.prog hM h1 h2 h3 h4 h5 h6 h7 hr.2⟩
theorem zkey (x : Nat) (p q : Int) (h : Bz Pm lo X W w b bd S S2) (hq : Bq k S) (hk : k ≤ 1000000) (ho : opwf ⟨2, 0, p, q, -1, S.words⟩) (hx : x < 2 ^ 64) :
    Calls Try.prog 16 #[.pointer (some ⟨b, 0, none⟩), .int .u64 (x : Int), .int .i64 p, .int .i64 q] w fun e w' => e = .returned (.int .i64 (S.doR ⟨2, 0, p, q, -1, S.words⟩)) ∧ Bz Pm lo X W w' b bd (S.doS ⟨2, 0, p, q, -1, S.words⟩ x) S2 ∧ ∀ k, X k → w'.heap[k]? = w.heap[k]? := by
  obtain ⟨F, G, ov, bv, vv, tv, h1, h2, h3, h4, h5, h6, h7⟩ := h
  exact (hM.key b k S F x p q w h1 hq hk ho hx).mono fun e w' hr => ⟨hr.1, Bz.prog hM h1 h2 h3 h4 h5 h6 h7 hr.2⟩
theorem zconst_ (dom : Int) (c : Nat) (h : Bz Pm lo X W w b bd S S2) (hq : Bq k S) (hk : k ≤ 1000000) (ho : opwf ⟨3, dom, -1, -1, -1, c⟩) :
    Calls Try.prog 31 #[.pointer (some ⟨b, 0, none⟩), .int .i64 dom, .int .u64 (c : Int)] w fun e w' => e = .returned (.int .i64 (S.doR ⟨3, dom, -1, -1, -1, c⟩)) ∧ Bz Pm lo X W w' b bd (S.doS ⟨3, dom, -1, -1, -1, c⟩ 0) S2 ∧ ∀ k, X k → w'.heap[k]? = w.heap[k]? := by
  obtain ⟨F, G, ov, bv, vv, tv, h1, h2, h3, h4, h5, h6, h7⟩ := h
  exact (hM.const_ b k S F dom c w h1 hq hk ho).mono fun e w' hr => ⟨hr.1, Bz.prog hM h1 h2 h3 h4 h5 h6 h7 hr.2⟩
theorem ztold (dom : Int) (c : Nat) (h : Bz Pm lo X W w b bd S S2) (hq : Bq k S) (hk : k ≤ 1000000) (ho : opwf ⟨4, dom, -1, -1, -1, c⟩) :
    Calls Try.prog 37 #[.pointer (some ⟨b, 0, none⟩), .int .i64 dom, .int .u64 (c : Int)] w fun e w' => e = .returned (.int .i64 (S.doR ⟨4, dom, -1, -1, -1, c⟩)) ∧ Bz Pm lo X W w' b bd (S.doS ⟨4, dom, -1, -1, -1, c⟩ 0) S2 ∧ ∀ k, X k → w'.heap[k]? = w.heap[k]? := by
  obtain ⟨F, G, ov, bv, vv, tv, h1, h2, h3, h4, h5, h6, h7⟩ := h
  exact (hM.told b k S F dom c w h1 hq hk ho).mono fun e w' hr => ⟨hr.1, Bz.prog hM h1 h2 h3 h4 h5 h6 h7 hr.2⟩
theorem ztwo (kd dom p q : Int) (h : Bz Pm lo X W w b bd S S2) (hq : Bq k S) (hk : k ≤ 1000000) (ho : opwf ⟨kd, dom, p, q, -1, 0⟩) :
    Calls Try.prog 32 #[.pointer (some ⟨b, 0, none⟩), .int .i64 kd, .int .i64 dom, .int .i64 p, .int .i64 q] w fun e w' => e = .returned (.int .i64 (S.doR ⟨kd, dom, p, q, -1, 0⟩)) ∧ Bz Pm lo X W w' b bd (S.doS ⟨kd, dom, p, q, -1, 0⟩ 0) S2 ∧ ∀ k, X k → w'.heap[k]? = w.heap[k]? := by
  obtain ⟨F, G, ov, bv, vv, tv, h1, h2, h3, h4, h5, h6, h7⟩ := h
  exact (hM.two b k S F kd dom p q w h1 hq hk ho).mono fun e w' hr => ⟨hr.1, Bz.prog hM h1 h2 h3 h4 h5 h6 h7 hr.2⟩
theorem zone (kd dom p : Int) (c : Nat) (h : Bz Pm lo X W w b bd S S2) (hq : Bq k S) (hk : k ≤ 1000000) (ho : opwf ⟨kd, dom, p, -1, -1, c⟩) :
    Calls Try.prog 38 #[.pointer (some ⟨b, 0, none⟩), .int .i64 kd, .int .i64 dom, .int .i64 p, .int .u64 (c : Int)] w fun e w' => e = .returned (.int .i64 (S.doR ⟨kd, dom, p, -1, -1, c⟩)) ∧ Bz Pm lo X W w' b bd (S.doS ⟨kd, dom, p, -1, -1, c⟩ 0) S2 ∧ ∀ k, X k → w'.heap[k]? = w.heap[k]? := by
  obtain ⟨F, G, ov, bv, vv, tv, h1, h2, h3, h4, h5, h6, h7⟩ := h
  exact (hM.one b k S F kd dom p c w h1 hq hk ho).mono fun e w' hr => ⟨hr.1, Bz.prog hM h1 h2 h3 h4 h5 h6 h7 hr.2⟩
theorem zopen_ (p q r : Int) (h : Bz Pm lo X W w b bd S S2) (hq : Bq k S) (hk : k ≤ 1000000) (ho : opwf ⟨12, -1, p, q, r, 0⟩) :
    Calls Try.prog 28 #[.pointer (some ⟨b, 0, none⟩), .int .i64 p, .int .i64 q, .int .i64 r] w fun e w' => e = .returned (.int .u64 (S.opR ⟨12, -1, p, q, r, 0⟩ : Nat)) ∧ Bz Pm lo X W w' b bd (S.doS ⟨12, -1, p, q, r, 0⟩ 0) S2 ∧ ∀ k, X k → w'.heap[k]? = w.heap[k]? := by
  obtain ⟨F, G, ov, bv, vv, tv, h1, h2, h3, h4, h5, h6, h7⟩ := h
  exact (hM.open_ b k S F p q r w h1 hq hk ho).mono fun e w' hr => ⟨hr.1, Bz.prog hM h1 h2 h3 h4 h5 h6 h7 hr.2⟩
theorem zbegin_ (kd : Int) (h : Bz Pm lo X W w b bd S S2) (hq : Bq k S) (hk : k ≤ 1000000) :
    Calls Try.prog 18 #[.pointer (some ⟨b, 0, none⟩), .int .i64 kd] w fun e w' => e = .returned (.tuple #[]) ∧ Bz Pm lo X W w' b bd (S.beginS kd) S2 ∧ ∀ k, X k → w'.heap[k]? = w.heap[k]? := by
  obtain ⟨F, G, ov, bv, vv, tv, h1, h2, h3, h4, h5, h6, h7⟩ := h
  exact (hM.begin_ b k S F kd w h1 hq hk).mono fun e w' hr => ⟨hr.1, Bz.prog hM h1 h2 h3 h4 h5 h6 h7 hr.2⟩
theorem zend_ (h : Bz Pm lo X W w b bd S S2) (hq : Bq k S) (hk : k ≤ 1000000) :
    Calls Try.prog 20 #[.pointer (some ⟨b, 0, none⟩)] w fun e w' => e = .returned (.tuple #[]) ∧ Bz Pm lo X W w' b bd S.endS S2 ∧ ∀ k, X k → w'.heap[k]? = w.heap[k]? := by
  obtain ⟨F, G, ov, bv, vv, tv, h1, h2, h3, h4, h5, h6, h7⟩ := h
  exact (hM.end_ b k S F w h1 hq hk).mono fun e w' hr => ⟨hr.1, Bz.prog hM h1 h2 h3 h4 h5 h6 h7 hr.2⟩
theorem zdry (h : Bz Pm lo X W w b bd S S2) (hq : Bq k S) (hk : k ≤ 1000000) :
    Calls Try.prog 11 #[.pointer (some ⟨b, 0, none⟩)] w fun e w' => ∃ b', e = .returned (.pointer (some ⟨b', 0, none⟩)) ∧ Bz Pm lo X W w' b' bd S.dryS S2 ∧ ∀ k, X k → w'.heap[k]? = w.heap[k]? := by
  obtain ⟨F, G, ov, bv, vv, tv, h1, h2, h3, h4, h5, h6, h7⟩ := h
  exact (hM.dry b k S F w h1 hq hk).mono fun e w' ⟨b', hr⟩ => ⟨b', hr.1, Bz.prog hM h1 h2 h3 h4 h5 h6 h7 hr.2⟩
theorem ydo (o : Op6) (x : Nat) (h : Bz Pm lo X W w b bd S2 S) (hq : Bq k S) (hk : k ≤ 100000) (ho : opwf o) (hx : x < 2 ^ 64) :
    Calls Try.prog 35 #[.pointer (some ⟨bd, 0, none⟩), .agg (opCs o), .int .u64 (x : Int)] w fun e w' => e = .returned (.int .i64 (S.doR o)) ∧ Bz Pm lo X W w' b bd S2 (S.doS o x) ∧ ∀ k, X k → w'.heap[k]? = w.heap[k]? := by
  obtain ⟨F, G, ov, bv, vv, tv, h1, h2, h3, h4, h5, h6, h7⟩ := h
  exact (ddo_any ⟨lo, G⟩ bd S o x ov bv vv tv w h2 (hq.bd hk) hx (by have := ho.2.2.2.2.2; omega)).mono fun e w' hr => ⟨hr.1, Bz.doc hM h1 h2 h3 h4 h5 h6 h7 hr.2⟩
theorem ydo0 (o : Op6) (h : Bz Pm lo X W w b bd S2 S) (hq : Bq k S) (hk : k ≤ 100000) (ho : opwf o) :
    Calls Try.prog 35 #[.pointer (some ⟨bd, 0, none⟩), .agg (opCs o), .int .u64 0] w fun e w' => e = .returned (.int .i64 (S.doR o)) ∧ Bz Pm lo X W w' b bd S2 (S.doS o 0) ∧ ∀ k, X k → w'.heap[k]? = w.heap[k]? :=
  ydo hM o 0 h hq hk ho (by decide)
theorem yopen (p q r : Int) (h : Bz Pm lo X W w b bd S2 S) (hq : Bq k S) (hk : k ≤ 100000) (ho : opwf ⟨12, -1, p, q, r, 0⟩) :
    Calls Try.prog 35 #[.pointer (some ⟨bd, 0, none⟩), .agg #[.int .i64 12, .int .i64 (-1), .int .i64 p, .int .i64 q, .int .i64 r, .int .u64 0], .int .u64 0] w fun e w' => e = .returned (.int .i64 (S.doR ⟨12, -1, p, q, r, 0⟩)) ∧ Bz Pm lo X W w' b bd S2 (S.doS ⟨12, -1, p, q, r, 0⟩ 0) ∧ ∀ k, X k → w'.heap[k]? = w.heap[k]? :=
  ydo hM ⟨12, -1, p, q, r, 0⟩ 0 h hq hk ho (by decide)
theorem ybegin (kd : Int) (h : Bz Pm lo X W w b bd S2 S) (hq : Bq k S) (hk : k ≤ 100000) :
    Calls Try.prog 39 #[.pointer (some ⟨bd, 0, none⟩), .int .i64 kd] w fun e w' => e = .returned (.tuple #[]) ∧ Bz Pm lo X W w' b bd S2 (S.beginS kd) ∧ ∀ k, X k → w'.heap[k]? = w.heap[k]? := by
  obtain ⟨F, G, ov, bv, vv, tv, h1, h2, h3, h4, h5, h6, h7⟩ := h
  exact (dbegin_any ⟨lo, G⟩ bd S ov bv vv tv kd w h2 (hq.bd hk)).mono fun e w' hr => ⟨hr.1, Bz.doc hM h1 h2 h3 h4 h5 h6 h7 ⟨ov, bv, vv, tv, hr.2.1, hr.2.2, fun k hk => .inl hk⟩⟩
theorem yend (h : Bz Pm lo X W w b bd S2 S) (hq : Bq k S) (hk : k ≤ 100000) :
    Calls Try.prog 40 #[.pointer (some ⟨bd, 0, none⟩)] w fun e w' => e = .returned (.tuple #[]) ∧ Bz Pm lo X W w' b bd S2 S.endS ∧ ∀ k, X k → w'.heap[k]? = w.heap[k]? := by
  obtain ⟨F, G, ov, bv, vv, tv, h1, h2, h3, h4, h5, h6, h7⟩ := h
  exact (dend_any ⟨lo, G⟩ bd S ov bv vv tv w h2 (hq.bd hk)).mono fun e w' hr => ⟨hr.1, Bz.doc hM h1 h2 h3 h4 h5 h6 h7 hr.2⟩
end
theorem dop0_any (K D A B : Int) (w : World) : Calls Try.prog 36 #[.int .i64 K, .int .i64 D, .int .i64 A, .int .i64 B, .int .u64 0] w fun e w' => e = .returned (.agg (opCs ⟨K, D, A, B, -1, 0⟩)) ∧ Below w.heap.size w w' := dop_any K D A B 0 w
theorem dopc_any (K D A B : Int) (C : Nat) (w : World) : Calls Try.prog 36 #[.int .i64 K, .int .i64 D, .int .i64 A, .int .i64 B, .int .u64 (C : Int)] w fun e w' => e = .returned (.agg (opCs ⟨K, D, A, B, -1, C⟩)) ∧ Below w.heap.size w w' := dop_any K D A B C w
end Go.Proofs.Ytffoinnllihdeaa
