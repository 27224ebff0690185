import Derived.Test.YtdgkofnboeepbaaProg
import Derived.Test.YtdgkofnboeepbaaMgah
import Derived.Laws.StructEq
import Derived.Test.YtdgkofnboeepbaaMgac
import Derived.Deep.MidRow
import Derived.Deep.CutRange
import Derived.Deep.CutBlock
/- Share: what the program's functions of words must tell, over any machine. -/
namespace Go.Proofs.Ytdgkofnboeepbaa
open Go.RowKit
set_option maxRecDepth 100000
/-- The program's gadgets of words, whatever its machine is made of. -/
structure ShI (Pm : World → Nat → Ms → (Nat → Prop) → Prop) : Prop where
  enc : ∀ (b k : Nat) (S : Ms) (F : Nat → Prop) (x : Nat) (w : World), Pm w b S F → Bq k S → k + 10 ≤ 100000 → (S.n = 2 ∨ S.n = 3) → x < 2 ^ 64 → Calls Try.prog 13 #[.pointer (some ⟨b, 0, none⟩), .int .u64 (x : Int)] w fun e w' => e = .returned (.agg (wdV (encR S))) ∧ PmR Pm b (encS S x) F w w'
  pub : ∀ (b k : Nat) (S : Ms) (F : Nat → Prop) (c : Nat) (w : World), Pm w b S F → Bq k S → k + 10 ≤ 100000 → (S.n = 2 ∨ S.n = 3) → c < 2 ^ 64 → Calls Try.prog 21 #[.pointer (some ⟨b, 0, none⟩), .int .u64 (c : Int)] w fun e w' => e = .returned (.agg (wdV (cstR S 3 c))) ∧ PmR Pm b (cstS S 3 c) F w w'
  told : ∀ (b k : Nat) (S : Ms) (F : Nat → Prop) (c : Nat) (w : World), Pm w b S F → Bq k S → k + 10 ≤ 100000 → (S.n = 2 ∨ S.n = 3) → c < 2 ^ 64 → Calls Try.prog 19 #[.pointer (some ⟨b, 0, none⟩), .int .u64 (c : Int)] w fun e w' => e = .returned (.agg (wdV (cstR S 4 c))) ∧ PmR Pm b (cstS S 4 c) F w w'
  xor : ∀ (b k : Nat) (S : Ms) (F : Nat → Prop) (A B : Nat → Int) (w : World), Pm w b S F → Bq k S → k + 10 ≤ 100000 → (S.n = 2 ∨ S.n = 3) → Wb A → Wb B → Calls Try.prog 23 #[.pointer (some ⟨b, 0, none⟩), .agg (wdV A), .agg (wdV B)] w fun e w' => e = .returned (.agg (wdV (xorR S A B))) ∧ PmR Pm b (xorS S A B) F w w'
  not : ∀ (b k : Nat) (S : Ms) (F : Nat → Prop) (A : Nat → Int) (w : World), Pm w b S F → Bq k S → k + 10 ≤ 100000 → (S.n = 2 ∨ S.n = 3) → Wb A → Calls Try.prog 25 #[.pointer (some ⟨b, 0, none⟩), .agg (wdV A)] w fun e w' => e = .returned (.agg (wdV (notR S A))) ∧ PmR Pm b (notS S A) F w w'
  one : ∀ (b k : Nat) (S : Ms) (F : Nat → Prop) (K : Int) (A : Nat → Int) (c : Nat) (w : World), Pm w b S F → Bq k S → k + 10 ≤ 100000 → (S.n = 2 ∨ S.n = 3) → I64 K → Wb A → c < 2 ^ 64 → Calls Try.prog 27 #[.pointer (some ⟨b, 0, none⟩), .int .i64 K, .agg (wdV A), .int .u64 (c : Int)] w fun e w' => e = .returned (.agg (wdV (oneR S K A c))) ∧ PmR Pm b (oneS S K A c) F w w'
  add : ∀ (b k : Nat) (S : Ms) (F : Nat → Prop) (A : Nat → Int) (c : Nat) (w : World), Pm w b S F → Bq k S → k + 10 ≤ 100000 → (S.n = 2 ∨ S.n = 3) → Wb A → c < 2 ^ 64 → Calls Try.prog 30 #[.pointer (some ⟨b, 0, none⟩), .agg (wdV A), .int .u64 (c : Int)] w fun e w' => e = .returned (.agg (wdV (addR S 3 A c))) ∧ PmR Pm b (addS S 3 A c) F w w'
  addTold : ∀ (b k : Nat) (S : Ms) (F : Nat → Prop) (A : Nat → Int) (c : Nat) (w : World), Pm w b S F → Bq k S → k + 10 ≤ 100000 → (S.n = 2 ∨ S.n = 3) → Wb A → c < 2 ^ 64 → Calls Try.prog 32 #[.pointer (some ⟨b, 0, none⟩), .agg (wdV A), .int .u64 (c : Int)] w fun e w' => e = .returned (.agg (wdV (addR S 4 A c))) ∧ PmR Pm b (addS S 4 A c) F w w'
  value : ∀ (v : Value) (vv : Nat → Nat) (L : Nat) (A : Nat → Int) (w : World), Rd .u64 w v (wdL vv L) → (∀ i, i < L → vv i < 2 ^ 64) → Calls Try.prog 10 #[v, .agg (wdV A)] w fun e w' => e = .returned (.int .u64 (vlN vv L A : Nat)) ∧ Below w.heap.size w w'
section
variable {Pm : World → Nat → Ms → (Nat → Prop) → Prop} (hM : Mach Pm) (hS : ShI Pm) {lo : Nat} {X : Nat → Prop} {W w : World} {b bd k : Nat} {S S2 : Ms}
include hM hS
theorem qpub (c : Nat) (h : Bz Pm lo X W w b bd S S2) (hq : Bq k S) (hk : k + 10 ≤ 100000) (hn : S.n = 2 ∨ S.n = 3) (g0 : c < 2 ^ 64) :
    Calls Try.prog 21 #[.pointer (some ⟨b, 0, none⟩), .int .u64 (c : Int)] w fun e w' => e = .returned (.agg (wdV (cstR S 3 c))) ∧ Bz Pm lo X W w' b bd (cstS S 3 c) S2 ∧ ∀ k, X k → w'.heap[k]? = w.heap[k]? := by
  obtain ⟨F, G, ov, bv, vv, tv, h1, h2, h3, h4, h5, h6, h7⟩ := h
  exact (hS.pub b k S F c w h1 hq hk hn g0).mono fun e w' hr => ⟨hr.1, Bz.prog hM h1 h2 h3 h4 h5 h6 h7 hr.2⟩
end
theorem fields33 : Try.prog.underlying 33 = some (.struct (Try.prog.fieldsOf 33)) := by kernel_rfl
theorem run_eqItems_wd (w : World) (d : Nat) (W U : Nat → Int) : ∀ (is : List Nat), (∀ i ∈ is, i < 3) →
    (Op.eqItems (d + 1) 3 1 (wdV W) (wdV U) is).run Try.prog w = .ok (decide (∀ i ∈ is, W i = U i)) w
  | [], _ => by simp [Op.eqItems]
  | i :: is, h => by
    have hf := wdV_at W i (h i (by simp))
    have hg := wdV_at U i (h i (by simp))
    have ih := run_eqItems_wd w d W U is (fun j hj => h j (by simp [hj]))
    have p1 : (part 3 (wdV W) (i * 1)).run Try.prog w = .ok (.int .i64 (W i)) w := by simp only [Nat.mul_one]; simp [part, hf, run_underlying Try.underlying3, isAgg, go_sem]
    have p2 : (part 3 (wdV U) (i * 1)).run Try.prog w = .ok (.int .i64 (U i)) w := by simp only [Nat.mul_one]; simp [part, hg, run_underlying Try.underlying3, isAgg, go_sem]
    simp only [Op.eqItems, Sem.run_bind, p1, p2, Result.andThen_ok, run_equalIn_int w d 3 .i64 .i64 _ _ Try.underlying3]
    by_cases hh : W i = U i
    · simp [hh, ih]
    · have : (W i == U i) = false := by simp [hh]
      simp [this, hh]
theorem eqWd (W U : Nat → Int) (w : World) : (Op.equalIn 10000 33 (.agg (wdV W)) (.agg (wdV U))).run Try.prog w = .ok (decide (W 0 = U 0 ∧ W 1 = U 1 ∧ W 2 = U 2)) w := by
  have ha : (Op.equalIn 9999 31 (.agg (wdV W)) (.agg (wdV U))).run Try.prog w = .ok (decide (W 0 = U 0 ∧ W 1 = U 1 ∧ W 2 = U 2)) w := by
    obtain ⟨k, hk, h1⟩ : ∃ i, Try.prog.info? 3 = some i ∧ i.size = 1 := ⟨_, rfl, rfl⟩
    have hc : Try.prog.cellsOf 3 = 1 := by kernel_rfl
    rw [run_equalIn_array w 9998 _ _ Try.underlying31 hk, hc, run_eqItems_wd w 9997 W U _ (fun i hi => List.mem_range.1 hi)]
    congr 1
    simp [List.range, List.range.loop]
  rw [run_equalIn_struct w 9999 33 _ _ fields33 (by kernel_rfl)]
  simp only [Program.fieldsOf, Try.underlying33]
  generalize decide (W 0 = U 0 ∧ W 1 = U 1 ∧ W 2 = U 2) = q at *
  go_simp
  cases q <;> rfl
end Go.Proofs.Ytdgkofnboeepbaa

/- General: a slice of acts (four ints, a word) that comes in. No program is named. -/
namespace Go.Proofs.Ytdgkofnboeepbaa
open Go.ChangeShapes Go.WideShapes Go.ChangeAt Go.RowKit Go.Deep

/-- An act: its kind, three numbers, a word. -/
structure Ac5 where
  K : Int
  A : Int
  B : Int
  D : Int
  C : Nat
abbrev ac5 (a : Ac5) : Array Value := #[.int .i64 a.K, .int .i64 a.A, .int .i64 a.B, .int .i64 a.D, .int .u64 (a.C : Int)]
/-- v reads as the L acts f. -/
structure RA5 (w : World) (v : Value) (L : Nat) (f : Nat → Ac5) : Prop where
  lim : L ≤ 3600000000000
  wf : ∀ i, i < L → (f i).C < 2 ^ 64
  at_ : ∃ a cap, v = .slice a L cap ∧ L ≤ cap ∧ cap ≤ maxLen ∧ (0 < L → ∃ b off, a = some ⟨b, off, none⟩ ∧ b < w.heap.size ∧ ∀ i, i < L → w.rangeAt b (off + i * 5) (ac5 (f i)).toList)
theorem rng_self {w w' : World} {b o : Nat} {cs : List Value} (h : w.rangeAt b o cs) (hlt : b < w.heap.size) (hb : Below w.heap.size w w') : w'.rangeAt b o cs := fun j v hv => by
  rw [World.cell?_of_block (a := ⟨b, o + j, none⟩) (hb.block b hlt)]; exact h j v hv
theorem RA5.self {w w' : World} {v : Value} {L : Nat} {f : Nat → Ac5} (h : RA5 w v L f) (hb : Below w.heap.size w w') : RA5 w' v L f := by
  obtain ⟨a, cap, h1, h2, h3, h4⟩ := h.at_
  refine ⟨h.lim, h.wf, a, cap, h1, h2, h3, fun h0 => ?_⟩
  obtain ⟨b, off, e1, e2, e3⟩ := h4 h0
  exact ⟨b, off, e1, Nat.lt_of_lt_of_le e2 hb.size, fun i hi => rng_self (e3 i hi) e2 hb⟩
end Go.Proofs.Ytdgkofnboeepbaa

/- Share: an act of a pair. -/
namespace Go.Proofs.Ytdgkofnboeepbaa
open Go.RowKit
set_option maxRecDepth 100000
theorem Gz.begins {Pm : World → Nat → Ms → (Nat → Prop) → Prop} (hM : Mach Pm) {lo : Nat} {X : Nat → Prop} {W w wA : World} {p b : Nat} {S1 S2 : Ms} (h : Bz Pm lo X W w p b S1 S2) (hb : Below w.heap.size w wA) (hs : wA.heap.size = w.heap.size + 3) (pa ac : Array Value)
    (e0 : wA.heap[w.heap.size]? = some (.cells pa 28 (0, 0))) (e1 : wA.heap[w.heap.size + 1]? = some (.cells ac 38 (0, 0))) (e2 : wA.heap[w.heap.size + 2]? = some (.cells #[.int .i64 0, .int .i64 0, .int .i64 0] 33 (0, 0))) :
    Gz Pm lo (fun k => X k ∨ k = w.heap.size ∨ k = w.heap.size + 1) W ((w.alloc (.cells pa 28)).alloc (.cells ac 38)) wA p b S1 S2 [(w.heap.size + 2, #[.int .i64 0, .int .i64 0, .int .i64 0])] := by
  have hlo := h.los
  have hX : ∀ k, X k → k < w.heap.size := by
    obtain ⟨F, G, ov, bv, vv, tv, h1, h2, h3, h4, h5, h6, h7⟩ := h
    exact fun k hk => (h4 k hk).1
  have h0 : Below w.heap.size w ((w.alloc (.cells pa 28)).alloc (.cells ac 38)) := ((Below.refl _ _).alloc (Nat.le_refl _) _).alloc (by simp) _
  refine ⟨(h.more hM hb).less (fun k hk => ?_), fun q hq => ?_, fun k hk => ?_, by simp; omega⟩
  · rcases hk with (e | e | e) | ⟨q, hq, e⟩
    · exact .inl e
    · exact .inr (by omega)
    · exact .inr (by omega)
    · simp at hq; subst hq; subst e; exact .inr (by simp; omega)
  · simp at hq; subst hq; exact ⟨by simp, e2⟩
  · rcases hk with e | rfl | rfl
    · have := hX k e
      exact ⟨by simp; omega, (hb.block k this).trans (h0.block k this).symm⟩
    · exact ⟨by simp; omega, e0.trans ((heap_alloc_old _ _ (by simp)).trans (heap_alloc_new _ _)).symm⟩
    · refine ⟨by simp, e1.trans ?_⟩
      have := heap_alloc_new (w.alloc (.cells pa 28)) (.cells ac 38)
      rw [show (w.alloc (.cells pa 28)).heap.size = w.heap.size + 1 by simp] at this
      exact this.symm
/-- What an act's walk holds, behind its boxes. -/
structure Pb (Pm : World → Nat → Ms → (Nat → Prop) → Prop) (lo : Nat) (X : Nat → Prop) (W w : World) (pa : Array Value) (a : Ac5) (wx : World) (p b : Nat) (S1 S2 : Ms) (b7 b8 : Nat) (c7 c8 : Array Value) : Prop where
  g : Gz Pm lo (fun k => X k ∨ k = w.heap.size ∨ k = w.heap.size + 1) W ((w.alloc (.cells pa 28)).alloc (.cells (ac5 a) 38)) wx p b S1 S2 [(b7, c7), (b8, c8), (w.heap.size + 2, #[.int .i64 0, .int .i64 0, .int .i64 0])]
  ne : b7 ≠ b8 ∧ b7 ≠ w.heap.size + 2 ∧ b8 ≠ w.heap.size + 2
section
variable {Pm : World → Nat → Ms → (Nat → Prop) → Prop} {lo : Nat} {X : Nat → Prop} {W w wx wy : World} {pa : Array Value} {a : Ac5} {p b : Nat} {S1 S2 S1' S2' : Ms} {b7 b8 : Nat} {c7 c8 : Array Value}
theorem Pb.act (h : Pb Pm lo X W w pa a wx p b S1 S2 b7 b8 c7 c8) : wx.heap[w.heap.size + 1]? = some (.cells (ac5 a) 38 (0, 0)) := by
  have := heap_alloc_new (w.alloc (.cells pa 28)) (.cells (ac5 a) 38)
  rw [show (w.alloc (.cells pa 28)).heap.size = w.heap.size + 1 by simp] at this
  exact (h.g.st _ (.inr (.inr rfl))).2.trans this
theorem Pb.self (hM : Mach Pm) (h : Pb Pm lo X W w pa a wx p b S1 S2 b7 b8 c7 c8) (hb : Below wx.heap.size wx wy) : Pb Pm lo X W w pa a wy p b S1 S2 b7 b8 c7 c8 := ⟨h.g.self hM hb, h.ne⟩
theorem Pb.on (h : Pb Pm lo X W w pa a wx p b S1 S2 b7 b8 c7 c8) (hz : Bz Pm lo (fun k => (X k ∨ k = w.heap.size ∨ k = w.heap.size + 1) ∨ ∃ q ∈ [(b7, c7), (b8, c8), (w.heap.size + 2, #[.int .i64 0, .int .i64 0, .int .i64 0])], q.1 = k) W wy p b S1' S2')
    (hs : ∀ k, ((X k ∨ k = w.heap.size ∨ k = w.heap.size + 1) ∨ ∃ q ∈ [(b7, c7), (b8, c8), (w.heap.size + 2, #[.int .i64 0, .int .i64 0, .int .i64 0])], q.1 = k) → wy.heap[k]? = wx.heap[k]?) : Pb Pm lo X W w pa a wy p b S1' S2' b7 b8 c7 c8 := ⟨h.g.on hz hs, h.ne⟩
theorem Pb.h7 (h : Pb Pm lo X W w pa a wx p b S1 S2 b7 b8 c7 c8) : wx.heap[b7]? = some (.cells c7 33 (0, 0)) := (h.g.bx (b7, c7) (by simp)).2
theorem Pb.h8 (h : Pb Pm lo X W w pa a wx p b S1 S2 b7 b8 c7 c8) : wx.heap[b8]? = some (.cells c8 33 (0, 0)) := (h.g.bx (b8, c8) (by simp)).2
theorem Pb.h4 (h : Pb Pm lo X W w pa a wx p b S1 S2 b7 b8 c7 c8) : wx.heap[w.heap.size + 2]? = some (.cells #[.int .i64 0, .int .i64 0, .int .i64 0] 33 (0, 0)) := (h.g.bx (w.heap.size + 2, #[.int .i64 0, .int .i64 0, .int .i64 0]) (by simp)).2
end
end Go.Proofs.Ytdgkofnboeepbaa

/- Share: an act of a pair: encode, public, told. -/
namespace Go.Proofs.Ytdgkofnboeepbaa
open Go.RowKit
set_option maxRecDepth 100000
end Go.Proofs.Ytdgkofnboeepbaa

/- Share: an act of a pair: what all acts of words there are hold. -/
namespace Go.Proofs.Ytdgkofnboeepbaa
open Go.RowKit
set_option maxRecDepth 100000
/-- The words and values that there are, in blocks that are neither machine's. -/
structure Lv (w : World) (X : Nat → Prop) (NL gL gV : Nat) (WF : Nat → Nat → Int) (VF : Nat → Nat) : Prop where
  xl : X gL
  xv : X gV
  ll : gL < w.heap.size
  lv : gV < w.heap.size
  L : ∀ i, i < NL → w.rangeAt gL (i * 3) (wdV (WF i)).toList
  V : ∀ i, i < NL → w.cell? ⟨gV, i, none⟩ = some (.int .u64 (VF i : Int))
  wb : ∀ i, i < NL → Wb (WF i)
  vb : ∀ i, i < NL → VF i < 2 ^ 64
/-- What an act's walk holds behind the word's box: b12. -/
structure Pd (Pm : World → Nat → Ms → (Nat → Prop) → Prop) (lo : Nat) (X : Nat → Prop) (W w : World) (pa : Array Value) (a : Ac5) (wx : World) (p b : Nat) (S1 S2 : Ms) (b12 b7 b8 : Nat) (c12 c7 c8 : Array Value) : Prop where
  g : Gz Pm lo (fun k => X k ∨ k = w.heap.size ∨ k = w.heap.size + 1) W ((w.alloc (.cells pa 28)).alloc (.cells (ac5 a) 38)) wx p b S1 S2 [(b12, c12), (b7, c7), (b8, c8), (w.heap.size + 2, #[.int .i64 0, .int .i64 0, .int .i64 0])]
  ne : (b7 ≠ b8 ∧ b7 ≠ w.heap.size + 2 ∧ b8 ≠ w.heap.size + 2) ∧ b12 ≠ b7 ∧ b12 ≠ b8 ∧ b12 ≠ w.heap.size + 2
section
variable {Pm : World → Nat → Ms → (Nat → Prop) → Prop} {lo : Nat} {X : Nat → Prop} {W w wx wy : World} {pa : Array Value} {a : Ac5} {p b : Nat} {S1 S2 S1' S2' : Ms} {b12 b7 b8 : Nat} {c12 c7 c8 : Array Value}
theorem Pd.pb (h : Pd Pm lo X W w pa a wx p b S1 S2 b12 b7 b8 c12 c7 c8) : Pb Pm lo X W w pa a wx p b S1 S2 b7 b8 c7 c8 := ⟨h.g.swap (by intro q hq; simp at hq ⊢; rcases hq with rfl | rfl | rfl <;> simp), h.ne.1⟩
theorem Pd.self (hM : Mach Pm) (h : Pd Pm lo X W w pa a wx p b S1 S2 b12 b7 b8 c12 c7 c8) (hb : Below wx.heap.size wx wy) : Pd Pm lo X W w pa a wy p b S1 S2 b12 b7 b8 c12 c7 c8 := ⟨h.g.self hM hb, h.ne⟩
theorem Pd.on (h : Pd Pm lo X W w pa a wx p b S1 S2 b12 b7 b8 c12 c7 c8) (hz : Bz Pm lo (fun k => (X k ∨ k = w.heap.size ∨ k = w.heap.size + 1) ∨ ∃ q ∈ [(b12, c12), (b7, c7), (b8, c8), (w.heap.size + 2, #[.int .i64 0, .int .i64 0, .int .i64 0])], q.1 = k) W wy p b S1' S2')
    (hs : ∀ k, ((X k ∨ k = w.heap.size ∨ k = w.heap.size + 1) ∨ ∃ q ∈ [(b12, c12), (b7, c7), (b8, c8), (w.heap.size + 2, #[.int .i64 0, .int .i64 0, .int .i64 0])], q.1 = k) → wy.heap[k]? = wx.heap[k]?) : Pd Pm lo X W w pa a wy p b S1' S2' b12 b7 b8 c12 c7 c8 := ⟨h.g.on hz hs, h.ne⟩
theorem Pd.h7 (h : Pd Pm lo X W w pa a wx p b S1 S2 b12 b7 b8 c12 c7 c8) : wx.heap[b7]? = some (.cells c7 33 (0, 0)) := h.pb.h7
theorem Pd.h8 (h : Pd Pm lo X W w pa a wx p b S1 S2 b12 b7 b8 c12 c7 c8) : wx.heap[b8]? = some (.cells c8 33 (0, 0)) := h.pb.h8
theorem Pd.act (h : Pd Pm lo X W w pa a wx p b S1 S2 b12 b7 b8 c12 c7 c8) : wx.heap[w.heap.size + 1]? = some (.cells (ac5 a) 38 (0, 0)) := h.pb.act
/-- What is neither machine's is as it was. -/
theorem Pb.keep (h : Pb Pm lo X W w pa a wx p b S1 S2 b7 b8 c7 c8) {g : Nat} (hX : X g) (hlt : g < w.heap.size) : wx.heap[g]? = w.heap[g]? :=
  (h.g.st g (.inl hX)).2.trans ((heap_alloc_old _ _ (by simp; omega)).trans (heap_alloc_old _ _ hlt))
theorem Pd.keep (h : Pd Pm lo X W w pa a wx p b S1 S2 b12 b7 b8 c12 c7 c8) {g : Nat} (hX : X g) (hlt : g < w.heap.size) : wx.heap[g]? = w.heap[g]? := h.pb.keep hX hlt
theorem Lv.at_ {NL gL gV : Nat} {WF : Nat → Nat → Int} {VF : Nat → Nat} (l : Lv w X NL gL gV WF VF) (hL : wx.heap[gL]? = w.heap[gL]?) {i : Nat} (hi : i < NL) : wx.rangeAt gL (i * 3) (wdV (WF i)).toList := fun j v hv => by
  rw [World.cell?_of_block (a := ⟨gL, i * 3 + j, none⟩) hL]; exact l.L i hi j v hv
/-- The word's box. -/
theorem Pb.word (hM : Mach Pm) (h : Pb Pm lo X W w pa a wx p b S1 S2 b7 b8 c7 c8) (cs : Array Value) : Pd Pm lo X W w pa a (wx.alloc (.cells cs 33)) p b S1 S2 wx.heap.size b7 b8 cs c7 c8 := by
  have h4 := (Array.getElem?_eq_some_iff.1 h.h4).1
  have h7 := (Array.getElem?_eq_some_iff.1 h.h7).1
  have h8 := (Array.getElem?_eq_some_iff.1 h.h8).1
  exact ⟨h.g.box hM (by simp; omega) cs, h.ne, by omega, by omega, by omega⟩
end
end Go.Proofs.Ytdgkofnboeepbaa

/- Share: an act of a pair: words that there are. -/
namespace Go.Proofs.Ytdgkofnboeepbaa
open Go.RowKit
set_option maxRecDepth 100000
end Go.Proofs.Ytdgkofnboeepbaa

/- Share: an act of a pair: words that there are. -/
namespace Go.Proofs.Ytdgkofnboeepbaa
open Go.RowKit
set_option maxRecDepth 100000
end Go.Proofs.Ytdgkofnboeepbaa

/- Share: an act of a pair: words that there are. -/
namespace Go.Proofs.Ytdgkofnboeepbaa
open Go.RowKit
set_option maxRecDepth 100000
end Go.Proofs.Ytdgkofnboeepbaa

/- Share: an act of a pair: all kinds at once, and what its word stands for. -/
namespace Go.Proofs.Ytdgkofnboeepbaa
open Go.RowKit
set_option maxRecDepth 100000
theorem sh_bd {S : Ms} (hn : S.n = 2 ∨ S.n = 3) : 2 ≤ S.sh ∧ S.sh ≤ 3 := by unfold Ms.sh; omega
theorem i64k (z : Int) (h : 0 ≤ z) (h2 : z ≤ 1000) : I64 z := i64c z h h2
theorem cstS_bq {k : Nat} {S : Ms} (h : Bq k S) (hn : S.n = 2 ∨ S.n = 3) {K : Int} (hK : I64 K) {c : Nat} (hc : c < 2 ^ 64) : Bq (k + 6) (cstS S K c) :=
  (eaS_bq h 0 S.sh (fun j hj => opCst_wf hK hc (by have := sh_bd hn; omega))).mono (by have := sh_bd hn; omega)
theorem enS1_bq {k : Nat} {S : Ms} (h : Bq k S) (hn : S.n = 2 ∨ S.n = 3) : Bq (k + 2) (enS1 S) :=
  (eaS_bq (h.begins 1) 1 (S.sh - 1) (fun j hj => opRand_wf (by have := sh_bd hn; omega))).mono (by have := sh_bd hn; omega)
theorem enR1_wb {k : Nat} {S : Ms} (h : Bq k S) (hk : k + 10 ≤ 100000) (hn : S.n = 2 ∨ S.n = 3) : Wb (enR1 S) :=
  eaR_wb (h.begins 1) 1 none3_wb _ (fun j hj => opRand_wf (by have := sh_bd hn; omega)) (by have := sh_bd hn; omega)
theorem opEn_wf {k : Nat} {S : Ms} (h : Bq k S) (hk : k + 10 ≤ 100000) (hn : S.n = 2 ∨ S.n = 3) : opwf (opEn S) := by
  have hw := (enS1_bq h hn).words
  have hb := enR1_wb h hk hn
  exact ⟨i64c 2 (by decide) (by decide), i64c 0 (by decide) (by decide), hb 1, hb 2, I64.m1, by show (enS1 S).words < _; omega⟩
theorem encS_bq {k : Nat} {S : Ms} (h : Bq k S) (hk : k + 10 ≤ 100000) (hn : S.n = 2 ∨ S.n = 3) {x : Nat} (hx : x < 2 ^ 64) : Bq (k + 6) (encS S x) :=
  (((enS1_bq h hn).does (opEn_wf h hk hn) hx).ends (by omega)).mono (by omega)
end Go.Proofs.Ytdgkofnboeepbaa

/- Share: the chapter's example; what any registers stand for. -/
namespace Go.Proofs.Ytdgkofnboeepbaa
open Go.RowKit
set_option maxRecDepth 100000
theorem sz_al (w : World) (o : Obj) : (w.alloc o).heap.size = w.heap.size + 1 := Array.size_push _
def shS : Ms := cstS exS0 3 7
theorem shLen : ((shS.len : Nat) : Int) = 2 := by decide +kernel
theorem shVal : vlN shS.v (shS.keep shS.L) (cstR exS0 3 7) = 7 := by decide +kernel
theorem shB : Bq 6 shS := cstS_bq exB0 (.inl rfl) (i64k 3 (by decide) (by decide)) (by decide)
theorem keep_le (S : Ms) (n : Nat) : S.keep n ≤ n := by unfold Ms.keep; split <;> omega
set_option maxHeartbeats 6400000 in
theorem sawake_any {Pm : World → Nat → Ms → (Nat → Prop) → Prop} (hM : Mach Pm) (hN : MachN Pm) (hS : ShI Pm) (w : World) :
    Calls Try.prog 9 #[] w fun e w' => e = .returned (.bool true) ∧ Below w.heap.size w w' := by
  have HBG : Hid (∀ w, Calls Try.prog 6 #[.int .i64 2, .slice none 0 0, .int .i64 9] w fun e w' => ∃ p b, e = .returned (.tuple #[.agg (paC p b (.slice none 0 0) (.slice none 0 0)), .bool true]) ∧ Bz Pm w.heap.size (fun _ => False) w w' p b exS0 exS0) :=
    hid (fun w => lbegins_any hM hN 2 9 (.inl rfl) (by decide) (by decide) (fun _ => 0) 0 (.slice none 0 0) w ⟨none, 0, rfl, by decide, by decide, by decide, fun z hz => (List.not_mem_nil hz).elim, fun h => absurd h (by decide)⟩)
  have HPB : Hid (∀ (X : Nat → Prop) (w0 wx : World) (p b : Nat), Bz Pm w.heap.size X w0 wx p b exS0 exS0 → Calls Try.prog 21 #[.pointer (some ⟨p, 0, none⟩), .int .u64 7] wx fun e w' => e = .returned (.agg (wdV (cstR exS0 3 7))) ∧ Bz Pm w.heap.size X w0 w' p b shS exS0 ∧ ∀ k, X k → w'.heap[k]? = wx.heap[k]?) :=
    hid (fun X w0 wx p b h => qpub hM hS 7 h exB0 (by decide) (.inl rfl) (by decide))
  have HLN : Hid (∀ (X : Nat → Prop) (w0 wx : World) (p b : Nat), Bz Pm w.heap.size X w0 wx p b shS exS0 → Calls Try.prog 37 #[.pointer (some ⟨p, 0, none⟩)] wx fun e w' => e = .returned (.int .i64 2) ∧ Below wx.heap.size wx w') :=
    hid (fun X w0 wx p b h => by have := zlen hM h shB (by decide); rw [shLen] at this; exact this)
  have HVS : Hid (∀ (X : Nat → Prop) (w0 wx : World) (p b : Nat), Bz Pm w.heap.size X w0 wx p b shS exS0 → Calls Try.prog 11 #[.pointer (some ⟨p, 0, none⟩)] wx fun e w' => ∃ v, e = .returned v ∧ Rd .u64 w' v (wdL shS.v (shS.keep shS.L)) ∧ Below wx.heap.size wx w') :=
    hid (fun X w0 wx p b h => zvalues hM h shB (by decide))
  have HVL : Hid (∀ (v : Value) (wx : World), Rd .u64 wx v (wdL shS.v (shS.keep shS.L)) → Calls Try.prog 10 #[v, .agg (wdV (cstR exS0 3 7))] wx fun e w' => e = .returned (.int .u64 7) ∧ Below wx.heap.size wx w') :=
    hid (fun v wx h => by have := hS.value v shS.v _ (cstR exS0 3 7) wx h (fun i hi => shB.v i (Nat.lt_of_lt_of_le hi (keep_le _ _))); rw [shVal] at this; exact this)
  generalize cstR exS0 3 7 = R at *
  go_enter Try.func9, Try.ntmps9
  go_upto_region 4 with (go_at_call 6; (with_reducible refine (HBG.out _).mono ?_); rintro e w2 ⟨p, b, rfl, hz⟩; have Z2 := hid hz; clear hz)
  have hb3 := (Below.refl w2.heap.size w2).alloc (Nat.le_refl _) (.cells (paC p b (.slice none 0 0) (.slice none 0 0)) 28)
  have Z3 := hid (Z2.out.more hM hb3)
  have X3 : Hid ((w2.alloc (.cells (paC p b (.slice none 0 0) (.slice none 0 0)) 28)).heap[w2.heap.size]? = some (.cells (paC p b (.slice none 0 0) (.slice none 0 0)) 28 (0, 0))) := hid (heap_alloc_new _ _)
  have N3 : Hid (w2.heap.size < (w2.alloc (.cells (paC p b (.slice none 0 0) (.slice none 0 0)) 28)).heap.size) := hid (Nat.lt_of_lt_of_eq (Nat.lt_succ_self _) (sz_al _ _).symm)
  clear hb3
  generalize w2.alloc (.cells (paC p b (.slice none 0 0) (.slice none 0 0)) 28) = w3 at *
  have c0 := row_c (i := 0) (u := .pointer (some ⟨p, 0, none⟩)) X3.out rfl
  go_wp2_with (go_at_call 21; (with_reducible refine (HPB.out _ _ _ _ _ Z3.out).mono ?_); rintro e w4 ⟨rfl, hz, hs⟩; have Z4 := hid hz; have X4 := hid ((hs w2.heap.size (.inr ⟨Nat.le_refl _, N3.out⟩)).trans X3.out); clear hz hs c0)
  have hb5 := (Below.refl w4.heap.size w4).alloc (Nat.le_refl _) (.cells (wdV R) 33)
  have Z5 := hid ((Z4.out.more hM hb5).self hM ((Below.refl _ _).drew))
  have X5 : Hid ((w4.alloc (.cells (wdV R) 33)).drew.heap[w2.heap.size]? = some (.cells (paC p b (.slice none 0 0) (.slice none 0 0)) 28 (0, 0))) := hid ((hb5.block _ (Array.getElem?_eq_some_iff.1 X4.out).1).trans X4.out)
  have Y5 : Hid ((w4.alloc (.cells (wdV R) 33)).drew.heap[w4.heap.size]? = some (.cells (wdV R) 33 (0, 0))) := hid (heap_alloc_new w4 _)
  clear hb5
  generalize w4.alloc (.cells (wdV R) 33) = w5 at *
  refine wp_region_noPanic ?_
  refine wp_region_held_drew (S := fun w' => w'.heap[w2.heap.size]? = some (.cells (paC p b (.slice none 0 0) (.slice none 0 0)) 28 (0, 0)) ∧ w'.heap[w4.heap.size]? = some (.cells (wdV R) 33 (0, 0))) (by kernel_rfl) (⟨X5.out, Y5.out⟩) (fun h0 => ?_)
  generalize w5.drew = w6 at *
  refine wpAnyH_take (i := 0) (v := .pointer (some ⟨w2.heap.size, 0, none⟩)) rfl (by kernel_rfl) (by kernel_rfl) (by kernel_rfl) (fun _ _ _ h => h) (.inl ⟨by rfl, fun w hw => by clear hw; go_simp⟩) h0 ?_
  try simp only [Act.put, lay_out]
  refine wpAnyH_take (i := 1) (v := .pointer (some ⟨p, 0, none⟩)) rfl (by kernel_rfl) (by kernel_rfl) (by kernel_rfl) (fun _ _ _ h => h) (.inl ⟨by rfl, fun w' hw => by have hc := row_c (i := 0) (u := .pointer (some ⟨p, 0, none⟩)) hw.1 rfl; clear hw; go_simp⟩) h0 ?_
  try simp only [Act.put, lay_out]
  refine wpAnyH_ready (rs := [2]) (by kernel_rfl) (by simp) (AllReadyH.cons rfl (fun K hK => ?_) AllReadyH.nil)
  rw [if_pos (by rfl)]
  go_simp
  go_at_call 37
  (with_reducible refine (HLN.out _ _ _ _ _ Z5.out).mono ?_); rintro e w7 ⟨rfl, hb⟩
  have Z6 := hid (Z5.out.self hM hb)
  have X6 := hid ((hb.block _ (Array.getElem?_eq_some_iff.1 X5.out).1).trans X5.out)
  have Y6 := hid ((hb.block _ (Array.getElem?_eq_some_iff.1 Y5.out).1).trans Y5.out)
  clear hb
  refine hK.out _ _ (⟨X6.out, Y6.out⟩) (fun h1x => ?_)
  clear hK K
  try simp only [Act.put, lay_out]
  refine wpAnyH_take (i := 3) (v := .bool true) rfl (by kernel_rfl) (by kernel_rfl) (by kernel_rfl) (fun _ _ _ h => h) (.inl ⟨by rfl, fun w hw => by clear hw; go_simp⟩) h1x ?_
  try simp only [Act.put, lay_out]
  refine wpAnyH_take (i := 4) (v := .bool true) rfl (by kernel_rfl) (by kernel_rfl) (by kernel_rfl) (fun _ _ _ h => h) (.inl ⟨by rfl, fun w hw => by clear hw; go_simp⟩) h1x ?_
  try simp only [Act.put, lay_out]
  refine wpAnyH_take (i := 5) (v := .pointer (some ⟨w2.heap.size, 0, none⟩)) rfl (by kernel_rfl) (by kernel_rfl) (by kernel_rfl) (fun _ _ _ h => h) (.inl ⟨by rfl, fun w hw => by clear hw; go_simp⟩) h1x ?_
  try simp only [Act.put, lay_out]
  refine wpAnyH_take (i := 6) (v := .pointer (some ⟨p, 0, none⟩)) rfl (by kernel_rfl) (by kernel_rfl) (by kernel_rfl) (fun _ _ _ h => h) (.inl ⟨by rfl, fun w' hw => by have hc := row_c (i := 0) (u := .pointer (some ⟨p, 0, none⟩)) hw.1 rfl; clear hw; go_simp⟩) h1x ?_
  try simp only [Act.put, lay_out]
  refine wpAnyH_take (i := 8) (v := .agg (wdV R)) rfl (by kernel_rfl) (by kernel_rfl) (by kernel_rfl) (fun _ _ _ h => h) (yields_load_row (by rfl) 33 _ rfl w4.heap.size 33 (wdV R) _ rfl (fun w h => h.2) Try.underlying33 rfl (by kernel_rfl)) h1x ?_
  try simp only [Act.put, lay_out]
  refine wpAnyH_ready (rs := [7]) (by kernel_rfl) (by simp) (AllReadyH.cons rfl (fun K hK => ?_) AllReadyH.nil)
  rw [if_pos (by rfl)]
  go_simp
  go_at_call 11
  (with_reducible refine (HVS.out _ _ _ _ _ Z6.out).mono ?_); rintro e w8 ⟨v, rfl, hv, hb⟩
  have Z7 := hid (Z6.out.self hM hb)
  have X7 := hid ((hb.block _ (Array.getElem?_eq_some_iff.1 X6.out).1).trans X6.out)
  have Y7 := hid ((hb.block _ (Array.getElem?_eq_some_iff.1 Y6.out).1).trans Y6.out)
  have V7 := hid hv
  clear hv
  clear hb
  refine hK.out _ _ (⟨X7.out, Y7.out⟩) (fun h2x => ?_)
  clear hK K
  try simp only [Act.put, lay_out]
  refine wpAnyH_ready (rs := [9]) (by kernel_rfl) (by simp) (AllReadyH.cons rfl (fun K hK => ?_) AllReadyH.nil)
  rw [if_pos (by rfl)]
  go_simp
  go_at_call 10
  (with_reducible refine (HVL.out _ _ V7.out).mono ?_); rintro e w9 ⟨rfl, hb⟩
  have Z8 := hid (Z7.out.self hM hb)
  have X8 := hid ((hb.block _ (Array.getElem?_eq_some_iff.1 X7.out).1).trans X7.out)
  have Y8 := hid ((hb.block _ (Array.getElem?_eq_some_iff.1 Y7.out).1).trans Y7.out)
  clear hb
  refine hK.out _ _ (⟨X8.out, Y8.out⟩) (fun h3x => ?_)
  clear hK K
  try simp only [Act.put, lay_out]
  refine wpAnyH_take (i := 10) (v := .bool true) rfl (by kernel_rfl) (by kernel_rfl) (by kernel_rfl) (fun _ _ _ h => h) (.inl ⟨by rfl, fun w hw => by clear hw; go_simp⟩) h3x ?_
  try simp only [Act.put, lay_out]
  refine wpAnyH_take (i := 11) (v := .bool true) rfl (by kernel_rfl) (by kernel_rfl) (by kernel_rfl) (fun _ _ _ h => h) (.inl ⟨by rfl, fun w hw => by clear hw; go_simp⟩) h3x ?_
  try simp only [Act.put, lay_out]
  refine wpAnyH_take (i := 12) (v := .bool true) rfl (by kernel_rfl) (by kernel_rfl) (by kernel_rfl) (fun _ _ _ h => h) (.inl ⟨by rfl, fun w hw => by clear hw; go_simp⟩) h3x ?_
  try simp only [Act.put, lay_out]
  refine wpAnyH_done (by kernel_rfl) ?_ _
  refine NoPanic.normal ?_
  clear h0 h1x h2x h3x
  try simp only [Act.put, lay_out]
  go_wp2
  go_ret
  exact ⟨rfl, Z8.out.low⟩
end Go.Proofs.Ytdgkofnboeepbaa

/- Share: the program's functions of words, over any machine: one machine, and boxes beside it. -/
namespace Go.Proofs.Ytdgkofnboeepbaa
open Go.RowKit
set_option maxRecDepth 100000
/-- From w0, with the blocks F0, a machine has come to S at w; bs: boxes that were made since. -/
structure Ow (Pm : World → Nat → Ms → (Nat → Prop) → Prop) (F0 : Nat → Prop) (w0 w : World) (b : Nat) (S : Ms) (bs : List (Nat × Obj)) : Prop where
  ex : ∃ F, Pm w b S F ∧ (∀ k, F k → F0 k ∨ w0.heap.size ≤ k) ∧ ∀ q ∈ bs, ¬ F q.1
  tch : Tch F0 w0 w
  bx : ∀ q ∈ bs, w0.heap.size ≤ q.1 ∧ w.heap[q.1]? = some q.2
  nd : (bs.map (·.1)).Nodup
section
variable {Pm : World → Nat → Ms → (Nat → Prop) → Prop} {F0 : Nat → Prop} {w0 w w' : World} {b : Nat} {S S' : Ms} {bs : List (Nat × Obj)}
theorem Ow.start {F : Nat → Prop} (h : Pm w b S F) : Ow Pm F w w b S [] := ⟨⟨F, h, fun _ q => .inl q, fun q hq => (List.not_mem_nil hq).elim⟩, Tch.refl _ _, fun q hq => (List.not_mem_nil hq).elim, by simp⟩
theorem Ow.lt (h : Ow Pm F0 w0 w b S bs) {q : Nat × Obj} (hq : q ∈ bs) : q.1 < w.heap.size := (Array.getElem?_eq_some_iff.1 (h.bx q hq).2).1
theorem Ow.self (hM : Mach Pm) (h : Ow Pm F0 w0 w b S bs) (hb : Below w.heap.size w w') : Ow Pm F0 w0 w' b S bs := by
  obtain ⟨F, h1, h2, h3⟩ := h.ex
  exact ⟨⟨F, hM.stays h1 hb.size (fun k hk => hb.block k (hM.lt h1 k hk)), h2, h3⟩, h.tch.trans (Tch.of_below (F := F0) hb) (fun _ _ f => f), fun q hq => ⟨(h.bx q hq).1, (hb.block _ (h.lt hq)).trans (h.bx q hq).2⟩, h.nd⟩
theorem Ow.new (hM : Mach Pm) (h : Ow Pm F0 w0 w b S bs) (cs : Array Value) (T : TypeId) : Ow Pm F0 w0 (w.alloc (.cells cs T)) b S ((w.heap.size, .cells cs T (0, 0)) :: bs) := by
  have h' := h.self hM ((Below.refl w.heap.size w).alloc (Nat.le_refl _) (.cells cs T))
  obtain ⟨F, h1, h2, h3⟩ := h.ex
  refine ⟨⟨F, hM.stays h1 (by rw [sz_al]; omega) (fun k hk => Below.heap_alloc w _ k (hM.lt h1 k hk)), h2, fun q hq => ?_⟩, h'.tch, fun q hq => ?_, ?_⟩
  · rcases List.mem_cons.1 hq with rfl | hq
    · exact fun e => by have := hM.lt h1 _ e; omega
    · exact h3 q hq
  · rcases List.mem_cons.1 hq with rfl | hq
    · exact ⟨h.tch.size, heap_alloc_new _ _⟩
    · exact h'.bx q hq
  · rw [List.map_cons, List.nodup_cons]
    refine ⟨fun e => ?_, h.nd⟩
    obtain ⟨q, hq, e⟩ := List.mem_map.1 e
    have := h.lt hq
    have e' : q.1 = w.heap.size := e
    omega
/-- Boxes are forgotten, or stand in another order. -/
theorem Ow.sub {bs' : List (Nat × Obj)} (h : Ow Pm F0 w0 w b S bs) (hs : ∀ q ∈ bs', q ∈ bs) (hn : (bs'.map (·.1)).Nodup) : Ow Pm F0 w0 w b S bs' := by
  obtain ⟨F, h1, h2, h3⟩ := h.ex
  exact ⟨⟨F, h1, h2, fun q hq => h3 q (hs q hq)⟩, h.tch, fun q hq => h.bx q (hs q hq), hn⟩
theorem Ow.drop {q : Nat × Obj} (h : Ow Pm F0 w0 w b S (q :: bs)) : Ow Pm F0 w0 w b S bs := h.sub (fun _ hz => List.mem_cons_of_mem _ hz) (by have := h.nd; rw [List.map_cons, List.nodup_cons] at this; exact this.2)
theorem Ow.swap {q r : Nat × Obj} (h : Ow Pm F0 w0 w b S (q :: r :: bs)) : Ow Pm F0 w0 w b S (r :: q :: bs) := h.sub (fun z hz => by simp at hz ⊢; rcases hz with e | e | e <;> simp [e]) (by
  have := h.nd
  simp only [List.map_cons, List.nodup_cons, List.mem_cons, not_or] at this ⊢
  exact ⟨⟨fun e => this.1.1 e.symm, this.2.1⟩, this.1.2, this.2.2⟩)
/-- The first box is turned. -/
theorem Ow.turn (hM : Mach Pm) {n : Nat} {o o' : Obj} (h : Ow Pm F0 w0 w b S ((n, o) :: bs)) (hn : w'.heap[n]? = some o') (ho : ∀ k, k ≠ n → w'.heap[k]? = w.heap[k]?) (hs : w.heap.size ≤ w'.heap.size) (hos : w'.os = w.os ∧ w'.tape = w.tape ∧ w'.output = w.output) : Ow Pm F0 w0 w' b S ((n, o') :: bs) := by
  have hb := h.bx _ (List.mem_cons_self ..)
  have hnd := h.nd
  rw [List.map_cons, List.nodup_cons] at hnd
  obtain ⟨F, h1, h2, h3⟩ := h.ex
  have hne : ∀ k, F k → k ≠ n := fun k hk e => h3 _ (List.mem_cons_self ..) (by show F n; rw [← e]; exact hk)
  refine ⟨⟨F, hM.stays h1 hs (fun k hk => ho k (hne k hk)), h2, fun q hq => ?_⟩, ?_, fun q hq => ?_, ?_⟩
  · rcases List.mem_cons.1 hq with rfl | hq
    · exact h3 (n, o) (List.mem_cons_self ..)
    · exact h3 q (List.mem_cons_of_mem _ hq)
  · have hn0 : w0.heap.size ≤ n := hb.1
    exact h.tch.trans ⟨hos.1, hos.2.1, hos.2.2, hs, fun k hk hF => ho k (fun e => hF (by show n = k; exact e.symm))⟩ (G := fun k => n = k) (fun j hj e => by have e' : n = j := e; omega)
  · rcases List.mem_cons.1 hq with rfl | hq
    · exact ⟨hb.1, hn⟩
    · exact ⟨(h.bx q (List.mem_cons_of_mem _ hq)).1, (ho q.1 (fun e => hnd.1 (List.mem_map.2 ⟨q, hq, e⟩))).trans (h.bx q (List.mem_cons_of_mem _ hq)).2⟩
  · rw [List.map_cons, List.nodup_cons]; exact hnd
theorem Ow.row (hM : Mach Pm) {n : Nat} {cs : Array Value} {T : TypeId} (h : Ow Pm F0 w0 w b S ((n, .cells cs T (0, 0)) :: bs)) (cs' : Array Value) : Ow Pm F0 w0 (w.setRow n cs') b S ((n, .cells cs' T (0, 0)) :: bs) :=
  h.turn hM (setRow_heap w n cs cs' T _ (h.bx _ (List.mem_cons_self ..)).2) (fun k hk => setRow_other w n k cs' hk) (by simp [World.setRow]) ⟨rfl, rfl, rfl⟩
theorem Ow.cell (hM : Mach Pm) {n : Nat} {cs : Array Value} {T : TypeId} (h : Ow Pm F0 w0 w b S ((n, .cells cs T (0, 0)) :: bs)) (i : Nat) (v : Value) : Ow Pm F0 w0 (w.setCell ⟨n, i, none⟩ v) b S ((n, .cells (cs.setIfInBounds i v) T (0, 0)) :: bs) :=
  h.turn hM (heap_setCell_same w n i cs T v (h.bx _ (List.mem_cons_self ..)).2) (fun k hk => heap_setCell_other w ⟨n, i, none⟩ k v hk) (by simp [World.setCell]) ⟨rfl, rfl, rfl⟩
theorem Ow.bl (h : Ow Pm F0 w0 w b S bs) (i : Nat) {n : Nat} {u : Obj} (hi : bs[i]? = some (n, u)) : w.heap[n]? = some u := (h.bx (n, u) (List.mem_of_getElem? hi)).2
/-- A method's contract. -/
theorem Ow.lift (_ : Mach Pm) (h : Ow Pm F0 w0 w b S bs) {f : FuncId} {args : Array Value} {E : Ending → Prop} (hc : ∀ F, Pm w b S F → Calls Try.prog f args w fun e w' => E e ∧ PmR Pm b S' F w w') : Calls Try.prog f args w fun e w' => E e ∧ Ow Pm F0 w0 w' b S' bs := by
  obtain ⟨F, h1, h2, h3⟩ := h.ex
  refine (hc F h1).mono fun e w' hr => ⟨hr.1, ?_⟩
  obtain ⟨F', g1, g2, g3⟩ := hr.2
  refine ⟨⟨F', g1, fun k hk => ?_, fun q hq e => ?_⟩, h.tch.trans g2 (fun j hj f => (h2 j f).resolve_right (by omega)), fun q hq => ⟨(h.bx q hq).1, (g2.block q.1 (h.lt hq) (h3 q hq)).trans (h.bx q hq).2⟩, h.nd⟩
  · rcases g3 k hk with f | f
    · exact h2 k f
    · exact .inr (Nat.le_trans h.tch.size f)
  · rcases g3 _ e with f | f
    · exact h3 q hq f
    · have := h.lt hq; omega
theorem Ow.fin (h : Ow Pm F0 w0 w b S bs) : PmR Pm b S F0 w0 w := by
  obtain ⟨F, h1, h2, _⟩ := h.ex
  exact ⟨F, h1, h.tch, h2⟩
/-- A contract that makes memory alone. -/
theorem Ow.asks (h : Ow Pm F0 w0 w b S bs) {f : FuncId} {args : Array Value} {E : Ending → World → Prop} (hc : ∀ F, Pm w b S F → Calls Try.prog f args w E) : Calls Try.prog f args w E := by
  obtain ⟨F, h1, _, _⟩ := h.ex
  exact hc F h1
end
end Go.Proofs.Ytdgkofnboeepbaa
