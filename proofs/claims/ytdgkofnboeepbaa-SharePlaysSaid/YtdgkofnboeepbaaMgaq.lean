import Derived.Test.YtdgkofnboeepbaaProg
import Derived.Test.YtdgkofnboeepbaaMgap
import Derived.Deep.MidRow
/- Share: an act of a pair: what all acts of words there are hold. -/
namespace Go.Proofs.Ytdgkofnboeepbaa
open Go.RowKit
set_option maxRecDepth 100000
/-- The words and values that there are, in blocks that are neither machine's. -/
structure Lv (w : World) (X : Nat → Prop) (NL gL gV : Nat) (WF : Nat → Nat → Int) (VF : Nat → Nat) : Prop where
  xl : X gL
  xv : X gV
  ll : gL < w.heap.size
  lv : gV < w.heap.size
  L : ∀ i, i < NL → w.rangeAt gL (i * 3) (wdV (WF i)).toList
  V : ∀ i, i < NL → w.cell? ⟨gV, i, none⟩ = some (.int .u64 (VF i : Int))
  wb : ∀ i, i < NL → Wb (WF i)
  vb : ∀ i, i < NL → VF i < 2 ^ 64
/-- What an act's walk holds behind the word's box: b12. -/
structure Pd (Pm : World → Nat → Ms → (Nat → Prop) → Prop) (lo : Nat) (X : Nat → Prop) (W w : World) (pa : Array Value) (a : Ac5) (wx : World) (p b : Nat) (S1 S2 : Ms) (b12 b7 b8 : Nat) (c12 c7 c8 : Array Value) : Prop where
  g : Gz Pm lo (fun k => X k ∨ k = w.heap.size ∨ k = w.heap.size + 1) W ((w.alloc (.cells pa 28)).alloc (.cells (ac5 a) 38)) wx p b S1 S2 [(b12, c12), (b7, c7), (b8, c8), (w.heap.size + 2, #[.int .i64 0, .int .i64 0, .int .i64 0])]
  ne : (b7 ≠ b8 ∧ b7 ≠ w.heap.size + 2 ∧ b8 ≠ w.heap.size + 2) ∧ b12 ≠ b7 ∧ b12 ≠ b8 ∧ b12 ≠ w.heap.size + 2
section
variable {Pm : World → Nat → Ms → (Nat → Prop) → Prop} {lo : Nat} {X : Nat → Prop} {W w wx wy : World} {pa : Array Value} {a : Ac5} {p b : Nat} {S1 S2 S1' S2' : Ms} {b12 b7 b8 : Nat} {c12 c7 c8 : Array Value}
theorem Pd.pb (h : Pd Pm lo X W w pa a wx p b S1 S2 b12 b7 b8 c12 c7 c8) : Pb Pm lo X W w pa a wx p b S1 S2 b7 b8 c7 c8 := ⟨h.g.swap (by intro q hq; simp at hq ⊢; rcases hq with rfl | rfl | rfl <;> simp), h.ne.1⟩
theorem Pd.self (hM : Mach Pm) (h : Pd Pm lo X W w pa a wx p b S1 S2 b12 b7 b8 c12 c7 c8) (hb : Below wx.heap.size wx wy) : Pd Pm lo X W w pa a wy p b S1 S2 b12 b7 b8 c12 c7 c8 := ⟨h.g.self hM hb, h.ne⟩
theorem Pd.on (h : Pd Pm lo X W w pa a wx p b S1 S2 b12 b7 b8 c12 c7 c8) (hz : Bz Pm lo (fun k => (X k ∨ k = w.heap.size ∨ k = w.heap.size + 1) ∨ ∃ q ∈ [(b12, c12), (b7, c7), (b8, c8), (w.heap.size + 2, #[.int .i64 0, .int .i64 0, .int .i64 0])], q.1 = k) W wy p b S1' S2')
    (hs : ∀ k, ((X k ∨ k = w.heap.size ∨ k = w.heap.size + 1) ∨ ∃ q ∈ [(b12, c12), (b7, c7), (b8, c8), (w.heap.size + 2, #[.int .i64 0, .int .i64 0, .int .i64 0])], q.1 = k) → wy.heap[k]? = wx.heap[k]?) : Pd Pm lo X W w pa a wy p b S1' S2' b12 b7 b8 c12 c7 c8 := ⟨h.g.on hz hs, h.ne⟩
theorem Pd.put7 (hM : Mach Pm) (h : Pd Pm lo X W w pa a wx p b S1 S2 b12 b7 b8 c12 c7 c8) (cs : Array Value) : Pd Pm lo X W w pa a (wx.setRow b7 cs) p b S1 S2 b12 b7 b8 c12 cs c8 :=
  ⟨((h.g.swap (bs' := [(b7, c7), (b12, c12), (b8, c8), (w.heap.size + 2, #[.int .i64 0, .int .i64 0, .int .i64 0])]) (by intro q hq; simp at hq ⊢; rcases hq with rfl | rfl | rfl | rfl <;> simp)).row hM (by intro q hq; simp at hq; rcases hq with rfl | rfl | rfl; exact h.ne.2.1; exact h.ne.1.1.symm; exact h.ne.1.2.1.symm) cs).swap (by intro q hq; simp at hq ⊢; rcases hq with rfl | rfl | rfl | rfl <;> simp), h.ne⟩
theorem Pd.put8 (hM : Mach Pm) (h : Pd Pm lo X W w pa a wx p b S1 S2 b12 b7 b8 c12 c7 c8) (cs : Array Value) : Pd Pm lo X W w pa a (wx.setRow b8 cs) p b S1 S2 b12 b7 b8 c12 c7 cs :=
  ⟨((h.g.swap (bs' := [(b8, c8), (b12, c12), (b7, c7), (w.heap.size + 2, #[.int .i64 0, .int .i64 0, .int .i64 0])]) (by intro q hq; simp at hq ⊢; rcases hq with rfl | rfl | rfl | rfl <;> simp)).row hM (by intro q hq; simp at hq; rcases hq with rfl | rfl | rfl; exact h.ne.2.2.1; exact h.ne.1.1; exact h.ne.1.2.2.symm) cs).swap (by intro q hq; simp at hq ⊢; rcases hq with rfl | rfl | rfl | rfl <;> simp), h.ne⟩
theorem Pd.h7 (h : Pd Pm lo X W w pa a wx p b S1 S2 b12 b7 b8 c12 c7 c8) : wx.heap[b7]? = some (.cells c7 33 (0, 0)) := h.pb.h7
theorem Pd.h8 (h : Pd Pm lo X W w pa a wx p b S1 S2 b12 b7 b8 c12 c7 c8) : wx.heap[b8]? = some (.cells c8 33 (0, 0)) := h.pb.h8
theorem Pd.h12 (h : Pd Pm lo X W w pa a wx p b S1 S2 b12 b7 b8 c12 c7 c8) : wx.heap[b12]? = some (.cells c12 33 (0, 0)) := (h.g.bx (b12, c12) (by simp)).2
theorem Pd.pair (h : Pd Pm lo X W w pa a wx p b S1 S2 b12 b7 b8 c12 c7 c8) : wx.heap[w.heap.size]? = some (.cells pa 28 (0, 0)) := h.pb.pair
theorem Pd.act (h : Pd Pm lo X W w pa a wx p b S1 S2 b12 b7 b8 c12 c7 c8) : wx.heap[w.heap.size + 1]? = some (.cells (ac5 a) 38 (0, 0)) := h.pb.act
/-- What is neither machine's is as it was. -/
theorem Pb.keep (h : Pb Pm lo X W w pa a wx p b S1 S2 b7 b8 c7 c8) {g : Nat} (hX : X g) (hlt : g < w.heap.size) : wx.heap[g]? = w.heap[g]? :=
  (h.g.st g (.inl hX)).2.trans ((heap_alloc_old _ _ (by simp; omega)).trans (heap_alloc_old _ _ hlt))
theorem Pd.keep (h : Pd Pm lo X W w pa a wx p b S1 S2 b12 b7 b8 c12 c7 c8) {g : Nat} (hX : X g) (hlt : g < w.heap.size) : wx.heap[g]? = w.heap[g]? := h.pb.keep hX hlt
theorem Lv.at_ {NL gL gV : Nat} {WF : Nat → Nat → Int} {VF : Nat → Nat} (l : Lv w X NL gL gV WF VF) (hL : wx.heap[gL]? = w.heap[gL]?) {i : Nat} (hi : i < NL) : wx.rangeAt gL (i * 3) (wdV (WF i)).toList := fun j v hv => by
  rw [World.cell?_of_block (a := ⟨gL, i * 3 + j, none⟩) hL]; exact l.L i hi j v hv
theorem Lv.v_ {NL gL gV : Nat} {WF : Nat → Nat → Int} {VF : Nat → Nat} (l : Lv w X NL gL gV WF VF) (hV : wx.heap[gV]? = w.heap[gV]?) {i : Nat} (hi : i < NL) : wx.cell? ⟨gV, i, none⟩ = some (.int .u64 (VF i : Int)) := by
  rw [World.cell?_of_block (a := ⟨gV, i, none⟩) hV]; exact l.V i hi
/-- The word's box. -/
theorem Pb.word (hM : Mach Pm) (h : Pb Pm lo X W w pa a wx p b S1 S2 b7 b8 c7 c8) (cs : Array Value) : Pd Pm lo X W w pa a (wx.alloc (.cells cs 33)) p b S1 S2 wx.heap.size b7 b8 cs c7 c8 := by
  have h4 := (Array.getElem?_eq_some_iff.1 h.h4).1
  have h7 := (Array.getElem?_eq_some_iff.1 h.h7).1
  have h8 := (Array.getElem?_eq_some_iff.1 h.h8).1
  exact ⟨h.g.box hM (by simp; omega) cs, h.ne, by omega, by omega, by omega⟩
end
end Go.Proofs.Ytdgkofnboeepbaa

/- Share: an act of a pair: words that there are. -/
namespace Go.Proofs.Ytdgkofnboeepbaa
open Go.RowKit
set_option maxRecDepth 100000
set_option maxHeartbeats 12800000 in
theorem ldoe_3 {Pm : World → Nat → Ms → (Nat → Prop) → Prop} (hM : Mach Pm) (hS : ShI Pm) {lo : Nat} {X : Nat → Prop} {W w : World} {p b k : Nat} {S : Ms} (h : Bz Pm lo X W w p b S S) (hq : Bq k S) (hk : k + 10 ≤ 100000) (hn : S.n = 2 ∨ S.n = 3) (a : Ac5) (gL gV NL lc vc : Nat) (hC : a.C < 2 ^ 64) (WF : Nat → Nat → Int) (VF : Nat → Nat) (hl : Lv w X NL gL gV WF VF) (hN0 : 0 < NL) (hNl : NL ≤ 1000000) (iN jN : Nat) (hiN : pkN a.A NL = iN) (hjN : pkN a.B NL = jN) (hkd : kd5 a.K NL = 3) :
    Calls Try.prog 7 #[.agg (paC p b (.slice (some ⟨gL, 0, none⟩) NL lc) (.slice (some ⟨gV, 0, none⟩) NL vc)), .agg (ac5 a)] w fun e w' => e = .returned (.tuple #[.agg (wdV (xorR S (WF iN) (WF jN))), .int .u64 ((VF iN ^^^ VF jN : Nat) : Int), .bool true]) ∧ Bz Pm lo X W w' p b (xorS S (WF iN) (WF jN)) (xorS S (WF iN) (WF jN)) ∧ ∀ k, X k → w'.heap[k]? = w.heap[k]? := by
  have hi := pkN_lt a.A hN0
  have hj := pkN_lt a.B hN0
  rw [hiN] at hi
  rw [hjN] at hj
  have HPA := hid (fun (w' : World) => lpick_any (some ⟨gL, 0, none⟩) NL lc a.A w' hN0 hNl)
  have HPB := hid (fun (w' : World) => lpick_any (some ⟨gL, 0, none⟩) NL lc a.B w' hN0 hNl)
  rw [hiN] at HPA
  rw [hjN] at HPB
  have HI := hid hi
  have HJ := hid hj
  have HL := hid hl
  have i0 : (0 : Int) ≤ (iN : Int) := by omega
  have i1 : (iN : Int) < (NL : Int) := by omega
  have j0 : (0 : Int) ≤ (jN : Int) := by omega
  have j1 : (jN : Int) < (NL : Int) := by omega
  have HVI := hid (hl.vb iN hi)
  have HVJ := hid (hl.vb jN hj)
  have HWI := hid (hl.wb iN hi)
  have HWJ := hid (hl.wb jN hj)
  have hxv := wx64 (hl.vb iN hi) hC
  have hxw := wx64 (hl.vb iN hi) (hl.vb jN hj)
  generalize hgx : VF iN ^^^ a.C = zC at *
  have HGX := hid hgx
  clear hiN hjN hi hj hl hN0 hNl hgx
  have HQ := hid hq
  have HK := hid hk
  have HK3 : Hid (k + 3 ≤ 100000) := hid (by omega)
  have HN := hid hn
  have HC := hid hC
  have HKD := hid hkd
  have HXL : Hid (∀ k, X k → k < w.heap.size) := hid (by
    obtain ⟨F, G, ov, bv, vv, tv, h1, h2, h3, h4, h5, h6, h7⟩ := h
    exact fun k hk => (h4 k hk).1)
  have HBW0 : Hid (Below w.heap.size w ((w.alloc (.cells (paC p b (.slice (some ⟨gL, 0, none⟩) NL lc) (.slice (some ⟨gV, 0, none⟩) NL vc)) 28)).alloc (.cells (ac5 { a with K := kd5 a.K NL }) 38))) := hid (((Below.refl _ _).alloc (Nat.le_refl _) _).alloc (by simp) _)
  have HI3 : Hid (I64 3) := hid (i64c 3 (by decide) (by decide))
  have HI4 : Hid (I64 4) := hid (i64c 4 (by decide) (by decide))
  clear hq hk hn hC hkd
  have HE0 : Hid (∀ wx bs, Gz Pm lo (fun k => X k ∨ k = w.heap.size ∨ k = w.heap.size + 1) W ((w.alloc (.cells (paC p b (.slice (some ⟨gL, 0, none⟩) NL lc) (.slice (some ⟨gV, 0, none⟩) NL vc)) 28)).alloc (.cells (ac5 { a with K := kd5 a.K NL }) 38)) wx p b S S bs → wx.heap[w.heap.size + 1]? = some (.cells (ac5 { a with K := kd5 a.K NL }) 38 (0, 0))) := hid (fun wx bs hg => (hg.st _ (.inr (.inr rfl))).2.trans (by have := heap_alloc_new (w.alloc (.cells (paC p b (.slice (some ⟨gL, 0, none⟩) NL lc) (.slice (some ⟨gV, 0, none⟩) NL vc)) 28)) (.cells (ac5 { a with K := kd5 a.K NL }) 38); rw [show (w.alloc (.cells (paC p b (.slice (some ⟨gL, 0, none⟩) NL lc) (.slice (some ⟨gV, 0, none⟩) NL vc)) 28)).heap.size = w.heap.size + 1 by simp] at this; exact this))
  obtain ⟨w1, hw1⟩ : ∃ w1, ((w.alloc (.cells (paC p b (.slice (some ⟨gL, 0, none⟩) NL lc) (.slice (some ⟨gV, 0, none⟩) NL vc)) 28)).alloc (.cells (ac5 a) 38)).alloc (.cells #[.int .i64 0, .int .i64 0, .int .i64 0] 33) = w1 := ⟨_, rfl⟩
  have HB1 : Hid (Below w.heap.size w w1) := hid (by rw [← hw1]; exact (((Below.refl _ _).alloc (Nat.le_refl _) _).alloc (by simp) _).alloc (by simp; try omega) _)
  have HS1 : Hid (w1.heap.size = w.heap.size + 3) := hid (by rw [← hw1]; simp)
  have HX0 : Hid (w1.heap[w.heap.size]? = some (.cells (paC p b (.slice (some ⟨gL, 0, none⟩) NL lc) (.slice (some ⟨gV, 0, none⟩) NL vc)) 28 (0, 0))) := hid (by rw [← hw1]; exact (heap_alloc_old _ _ (by simp; try omega)).trans ((heap_alloc_old _ _ (by simp)).trans (heap_alloc_new _ _)))
  have HX1 : Hid (w1.heap[w.heap.size + 1]? = some (.cells (ac5 a) 38 (0, 0))) := hid (by rw [← hw1]; refine (heap_alloc_old _ _ (by simp)).trans ?_; have := heap_alloc_new (w.alloc (.cells (paC p b (.slice (some ⟨gL, 0, none⟩) NL lc) (.slice (some ⟨gV, 0, none⟩) NL vc)) 28)) (.cells (ac5 a) 38); rw [show (w.alloc (.cells (paC p b (.slice (some ⟨gL, 0, none⟩) NL lc) (.slice (some ⟨gV, 0, none⟩) NL vc)) 28)).heap.size = w.heap.size + 1 by simp] at this; exact this)
  have HX2 : Hid (w1.heap[w.heap.size + 2]? = some (.cells #[.int .i64 0, .int .i64 0, .int .i64 0] 33 (0, 0))) := hid (by rw [← hw1]; have := heap_alloc_new ((w.alloc (.cells (paC p b (.slice (some ⟨gL, 0, none⟩) NL lc) (.slice (some ⟨gV, 0, none⟩) NL vc)) 28)).alloc (.cells (ac5 a) 38)) (.cells #[.int .i64 0, .int .i64 0, .int .i64 0] 33); rw [show ((w.alloc (.cells (paC p b (.slice (some ⟨gL, 0, none⟩) NL lc) (.slice (some ⟨gV, 0, none⟩) NL vc)) 28)).alloc (.cells (ac5 a) 38)).heap.size = w.heap.size + 2 by simp] at this; exact this)
  have HW1 := hid hw1
  have H := hid h
  clear h hw1
  go_enter Try.func7, Try.ntmps7
  go_upto_region 1 with fail
  rw [HW1.out]
  go_cut [28] from 15 to 28 (fun q wx => q = .bool (decide (a.K < 0 ∨ (NL = 0 ∧ 2 < a.K))) ∧ w1 = wx)
  case first =>
    have x2 := row_c (i := 2) (u := .slice (some ⟨gL, 0, none⟩) NL lc) HX0.out rfl
    have x0 := row_c (i := 0) (u := .int .i64 a.K) HX1.out rfl
    by_cases f1 : a.K < 0
    · have hd : decide (a.K < 0 ∨ (NL = 0 ∧ 2 < a.K)) = true := decide_eq_true (.inl f1)
      have q1 : decide (a.K < 0) = true := decide_eq_true f1
      have HD := hid hd
      clear hd
      go_wp2
      go_meet
      exact ⟨by rw [HD.out], rfl⟩
    · have q1 : decide (a.K < 0) = false := decide_eq_false f1
      by_cases f2 : NL = 0
      · have e2 : ((NL : Int) == 0) = true := by simp [f2]
        by_cases f3 : 2 < a.K
        · have hd : decide (a.K < 0 ∨ (NL = 0 ∧ 2 < a.K)) = true := decide_eq_true (.inr ⟨f2, f3⟩)
          have q3 : decide (2 < a.K) = true := decide_eq_true f3
          clear f2
          have HD := hid hd
          clear hd
          go_wp2
          go_meet
          exact ⟨by rw [HD.out], rfl⟩
        · have hd : decide (a.K < 0 ∨ (NL = 0 ∧ 2 < a.K)) = false := decide_eq_false (by omega)
          have q3 : decide (2 < a.K) = false := decide_eq_false f3
          clear f2
          have HD := hid hd
          clear hd
          go_wp2
          go_meet
          exact ⟨by rw [HD.out], rfl⟩
      · have e2 : ((NL : Int) == 0) = false := by simp [f2]
        have hd : decide (a.K < 0 ∨ (NL = 0 ∧ 2 < a.K)) = false := decide_eq_false (by omega)
        have HD := hid hd
        clear hd
        go_wp2
        go_meet
        exact ⟨by rw [HD.out], rfl⟩
  case rest =>
    obtain ⟨rfl, rfl⟩ := hcut
    obtain ⟨cb, hcb⟩ : ∃ cb, decide (a.K < 0 ∨ (NL = 0 ∧ 2 < a.K)) = cb := ⟨_, rfl⟩
    rw [hcb]
    have HCB := hid hcb
    clear hcb
    go_upto_if 28 with fail
    go_cut [29] from 29 to 29 (fun q wx => wx.heap.size = w.heap.size + 3 ∧ Below w.heap.size w wx ∧ wx.heap[w.heap.size]? = some (.cells (paC p b (.slice (some ⟨gL, 0, none⟩) NL lc) (.slice (some ⟨gV, 0, none⟩) NL vc)) 28 (0, 0)) ∧ wx.heap[w.heap.size + 1]? = some (.cells (ac5 { a with K := kd5 a.K NL }) 38 (0, 0)) ∧ wx.heap[w.heap.size + 2]? = some (.cells #[.int .i64 0, .int .i64 0, .int .i64 0] 33 (0, 0)))
    case first =>
      cases cb
      · have hk0 : kd5 a.K NL = a.K := if_neg (of_decide_eq_false HCB.out)
        have HK0 := hid hk0
        clear hk0
        go_wp2
        go_meet
        rw [HK0.out]
        exact ⟨HS1.out, HB1.out, HX0.out, HX1.out, HX2.out⟩
      · have hk0 : kd5 a.K NL = 1 := if_pos (of_decide_eq_true HCB.out)
        have HK0 := hid hk0
        have x0 := row_c (i := 0) (u := .int .i64 a.K) HX1.out rfl
        have f0 := frozen_of_row w1 (w.heap.size + 1) 0 _ _ HX1.out
        clear hk0
        go_wp2
        go_meet
        rw [HK0.out]
        refine ⟨by simp [World.setCell]; exact HS1.out, below_set HB1.out (by omega) 0 _, (heap_setCell_other w1 ⟨w.heap.size + 1, 0, none⟩ _ _ (by simp)).trans HX0.out, ?_, (heap_setCell_other w1 ⟨w.heap.size + 1, 0, none⟩ _ _ (by simp)).trans HX2.out⟩
        rw [heap_setCell_same w1 (w.heap.size + 1) 0 _ 38 _ HX1.out]
        rfl
    case rest =>
      obtain ⟨hsz, hbw, e0, e1, e2⟩ := hcut
      have HSZ := hid hsz
      have G0 := hid (Gz.begins hM H.out hbw hsz _ _ e0 e1 e2)
      clear hsz hbw e0 e1 e2
      obtain ⟨wB, hwB⟩ : ∃ wB, wc = wB := ⟨_, rfl⟩
      subst hwB
      go_upto_region 3 with fail
      go_cut [7, 8, 9] from 30 to 33 (fun p7 p8 p9 wx => ∃ b7 b8, p7 = .pointer (some ⟨b7, 0, none⟩) ∧ p8 = .pointer (some ⟨b8, 0, none⟩) ∧ p9 = .int .u64 (a.C : Int) ∧ Pb Pm lo X W w (paC p b (.slice (some ⟨gL, 0, none⟩) NL lc) (.slice (some ⟨gV, 0, none⟩) NL vc)) { a with K := kd5 a.K NL } wx p b S S b7 b8 #[.int .i64 0, .int .i64 0, .int .i64 0] #[.int .i64 0, .int .i64 0, .int .i64 0])
      case first =>
        have Y0 := hid (G0.out.self hM ((Below.refl _ wc).drew))
        refine wp_region_noPanic ?_
        refine wp_region_held_drew (S := fun w' => w'.heap[w.heap.size + 1]? = some (.cells (ac5 { a with K := kd5 a.K NL }) 38 (0, 0))) (by kernel_rfl) ((HE0.out _ _ Y0.out)) (fun h0 => ?_)
        have HSZ2 : Hid (wc.drew.heap.size = w.heap.size + 3) := hid HSZ.out
        generalize wc.drew = y1 at *
        refine wpAnyH_take (i := 0) (v := .agg #[.int .i64 0, .int .i64 0, .int .i64 0]) rfl (by kernel_rfl) (by kernel_rfl) (by kernel_rfl) (fun _ _ _ h => h) (.inl ⟨by rfl, fun w hw => by clear hw; go_simp⟩) h0 ?_
        try simp only [Act.put, lay_out]
        refine wpAnyH_take (i := 1) (v := .agg #[.int .i64 0, .int .i64 0, .int .i64 0]) rfl (by kernel_rfl) (by kernel_rfl) (by kernel_rfl) (fun _ _ _ h => h) (.inl ⟨by rfl, fun w hw => by clear hw; go_simp⟩) h0 ?_
        try simp only [Act.put, lay_out]
        refine wpAnyH_take (i := 2) (v := .pointer (some ⟨w.heap.size + 1, 4, none⟩)) rfl (by kernel_rfl) (by kernel_rfl) (by kernel_rfl) (fun _ _ _ h => h) (.inl ⟨by rfl, fun w hw => by clear hw; go_simp⟩) h0 ?_
        try simp only [Act.put, lay_out]
        refine wpAnyH_take (i := 3) (v := .int .u64 (a.C : Int)) rfl (by kernel_rfl) (by kernel_rfl) (by kernel_rfl) (fun _ _ _ h => h) (.inl ⟨by rfl, fun w' hw => by have hc := row_c (i := 4) (u := .int .u64 (a.C : Int)) hw rfl; clear hw; go_simp⟩) h0 ?_
        try simp only [Act.put, lay_out]
        refine wpAnyH_ready (rs := [4, 5]) (by kernel_rfl) (by simp) (AllReadyH.cons rfl (fun K hK => ?_) (AllReadyH.cons rfl (fun K hK => ?_) AllReadyH.nil))
        · rw [if_pos (by rfl)]
          go_simp
          have G1 := hid (Y0.out.box hM (by have := HSZ2.out; simp; omega) #[.int .i64 0, .int .i64 0, .int .i64 0])
          refine hK.out _ _ (HE0.out _ _ G1.out) (fun h1x => ?_)
          clear hK K
          try simp only [Act.put, lay_out]
          refine wpAnyH_ready (rs := [5]) (by kernel_rfl) (by simp) (AllReadyH.cons rfl (fun K hK => ?_) AllReadyH.nil)
          rw [if_pos (by rfl)]
          go_simp
          have G2 := hid (G1.out.box hM (by have := HSZ2.out; simp; omega) #[.int .i64 0, .int .i64 0, .int .i64 0])
          refine hK.out _ _ (HE0.out _ _ G2.out) (fun h2x => ?_)
          clear hK K
          try simp only [Act.put, lay_out]
          have P0 : Hid (Pb Pm lo X W w (paC p b (.slice (some ⟨gL, 0, none⟩) NL lc) (.slice (some ⟨gV, 0, none⟩) NL vc)) { a with K := kd5 a.K NL } ((y1.alloc (.cells #[.int .i64 0, .int .i64 0, .int .i64 0] 33)).alloc (.cells #[.int .i64 0, .int .i64 0, .int .i64 0] 33)) p b S S y1.heap.size (y1.heap.size + 1) #[.int .i64 0, .int .i64 0, .int .i64 0] #[.int .i64 0, .int .i64 0, .int .i64 0]) := hid ⟨by have := G2.out.swap (bs' := [(y1.heap.size, #[.int .i64 0, .int .i64 0, .int .i64 0]), ((y1.alloc (.cells #[.int .i64 0, .int .i64 0, .int .i64 0] 33)).heap.size, #[.int .i64 0, .int .i64 0, .int .i64 0]), (w.heap.size + 2, #[.int .i64 0, .int .i64 0, .int .i64 0])]) (by intro q hq; simp at hq ⊢; rcases hq with rfl | rfl | rfl <;> simp); simpa using this, by have := HSZ2.out; simp; try omega⟩
          refine wpAnyH_ready (rs := [6]) (by kernel_rfl) (by simp) (AllReadyH.cons rfl (fun K hK => ?_) AllReadyH.nil)
          rw [if_pos (by rfl)]
          refine wp_store_row 33 _ _ rfl y1.heap.size #[.int .i64 0, .int .i64 0, .int .i64 0] rfl rfl 33 _ P0.out.h7 (by kernel_rfl) rfl (by kernel_rfl) ?_
          have P1 := hid (P0.out.put7 hM #[.int .i64 0, .int .i64 0, .int .i64 0])
          refine hK.out _ _ (P1.out.act) (fun h3x => ?_)
          clear hK K
          try simp only [Act.put, lay_out]
          refine wpAnyH_ready (rs := [7]) (by kernel_rfl) (by simp) (AllReadyH.cons rfl (fun K hK => ?_) AllReadyH.nil)
          rw [if_pos (by rfl)]
          refine wp_store_row 33 _ _ rfl (y1.heap.size + 1) #[.int .i64 0, .int .i64 0, .int .i64 0] rfl rfl 33 _ P1.out.h8 (by kernel_rfl) rfl (by kernel_rfl) ?_
          have P2 := hid (P1.out.put8 hM #[.int .i64 0, .int .i64 0, .int .i64 0])
          refine hK.out _ _ (P2.out.act) (fun h4x => ?_)
          clear hK K
          try simp only [Act.put, lay_out]
          refine wpAnyH_take (i := 8) (v := .int .u64 (a.C : Int)) rfl (by kernel_rfl) (by kernel_rfl) (by kernel_rfl) (fun _ _ _ h => h) (.inl ⟨by rfl, fun w hw => by clear hw; go_simp⟩) h4x ?_
          try simp only [Act.put, lay_out]
          refine wpAnyH_done (by kernel_rfl) ?_ _
          refine NoPanic.normal ?_
          clear h0 h1x h2x h3x h4x
          try simp only [Act.put, lay_out]
          go_wp2_with fail
          go_meet
          exact ⟨_, _, rfl, rfl, rfl, P2.out⟩
        · rw [if_pos (by rfl)]
          go_simp
          have G1 := hid (Y0.out.box hM (by have := HSZ2.out; simp; omega) #[.int .i64 0, .int .i64 0, .int .i64 0])
          refine hK.out _ _ (HE0.out _ _ G1.out) (fun h1x => ?_)
          clear hK K
          try simp only [Act.put, lay_out]
          refine wpAnyH_ready (rs := [4]) (by kernel_rfl) (by simp) (AllReadyH.cons rfl (fun K hK => ?_) AllReadyH.nil)
          rw [if_pos (by rfl)]
          go_simp
          have G2 := hid (G1.out.box hM (by have := HSZ2.out; simp; omega) #[.int .i64 0, .int .i64 0, .int .i64 0])
          refine hK.out _ _ (HE0.out _ _ G2.out) (fun h2x => ?_)
          clear hK K
          try simp only [Act.put, lay_out]
          have P0 : Hid (Pb Pm lo X W w (paC p b (.slice (some ⟨gL, 0, none⟩) NL lc) (.slice (some ⟨gV, 0, none⟩) NL vc)) { a with K := kd5 a.K NL } ((y1.alloc (.cells #[.int .i64 0, .int .i64 0, .int .i64 0] 33)).alloc (.cells #[.int .i64 0, .int .i64 0, .int .i64 0] 33)) p b S S (y1.heap.size + 1) y1.heap.size #[.int .i64 0, .int .i64 0, .int .i64 0] #[.int .i64 0, .int .i64 0, .int .i64 0]) := hid ⟨by have := G2.out; simpa using this, by have := HSZ2.out; simp; try omega⟩
          refine wpAnyH_ready (rs := [6]) (by kernel_rfl) (by simp) (AllReadyH.cons rfl (fun K hK => ?_) AllReadyH.nil)
          rw [if_pos (by rfl)]
          refine wp_store_row 33 _ _ rfl (y1.heap.size + 1) #[.int .i64 0, .int .i64 0, .int .i64 0] rfl rfl 33 _ P0.out.h7 (by kernel_rfl) rfl (by kernel_rfl) ?_
          have P1 := hid (P0.out.put7 hM #[.int .i64 0, .int .i64 0, .int .i64 0])
          refine hK.out _ _ (P1.out.act) (fun h3x => ?_)
          clear hK K
          try simp only [Act.put, lay_out]
          refine wpAnyH_ready (rs := [7]) (by kernel_rfl) (by simp) (AllReadyH.cons rfl (fun K hK => ?_) AllReadyH.nil)
          rw [if_pos (by rfl)]
          refine wp_store_row 33 _ _ rfl y1.heap.size #[.int .i64 0, .int .i64 0, .int .i64 0] rfl rfl 33 _ P1.out.h8 (by kernel_rfl) rfl (by kernel_rfl) ?_
          have P2 := hid (P1.out.put8 hM #[.int .i64 0, .int .i64 0, .int .i64 0])
          refine hK.out _ _ (P2.out.act) (fun h4x => ?_)
          clear hK K
          try simp only [Act.put, lay_out]
          refine wpAnyH_take (i := 8) (v := .int .u64 (a.C : Int)) rfl (by kernel_rfl) (by kernel_rfl) (by kernel_rfl) (fun _ _ _ h => h) (.inl ⟨by rfl, fun w hw => by clear hw; go_simp⟩) h4x ?_
          try simp only [Act.put, lay_out]
          refine wpAnyH_done (by kernel_rfl) ?_ _
          refine NoPanic.normal ?_
          clear h0 h1x h2x h3x h4x
          try simp only [Act.put, lay_out]
          go_wp2_with fail
          go_meet
          exact ⟨_, _, rfl, rfl, rfl, P2.out⟩
      case rest =>
        obtain ⟨b7, b8, rfl, rfl, rfl, hP⟩ := hcut
        have P := hid hP
        clear hP
        have x0 : wc.cell? ⟨w.heap.size + 1, 0, none⟩ = some (.int .i64 3) := by have := row_c (i := 0) (u := .int .i64 (kd5 a.K NL)) P.out.act rfl; rw [HKD.out] at this; exact this
        go_wp2_with fail
        clear x0
        have P0 := hid (P.out.self hM ((Below.refl _ wc).drew))
        refine wp_region_noPanic ?_
        refine wp_region_held_drew (S := fun w' => w'.heap[w.heap.size]? = some (.cells (paC p b (.slice (some ⟨gL, 0, none⟩) NL lc) (.slice (some ⟨gV, 0, none⟩) NL vc)) 28 (0, 0)) ∧ w'.heap[w.heap.size + 1]? = some (.cells (ac5 { a with K := kd5 a.K NL }) 38 (0, 0))) (by kernel_rfl) (⟨P0.out.pair, P0.out.act⟩) (fun h0 => ?_)
        generalize wc.drew = y2 at *
        refine wpAnyH_take (i := 0) (v := .pointer (some ⟨w.heap.size, 2, none⟩)) rfl (by kernel_rfl) (by kernel_rfl) (by kernel_rfl) (fun _ _ _ h => h) (.inl ⟨by rfl, fun w hw => by clear hw; go_simp⟩) h0 ?_
        try simp only [Act.put, lay_out]
        refine wpAnyH_take (i := 1) (v := .slice (some ⟨gL, 0, none⟩) NL lc) rfl (by kernel_rfl) (by kernel_rfl) (by kernel_rfl) (fun _ _ _ h => h) (.inl ⟨by rfl, fun w' hw => by have hc := row_c (i := 2) (u := .slice (some ⟨gL, 0, none⟩) NL lc) hw.1 rfl; clear hw; go_simp⟩) h0 ?_
        try simp only [Act.put, lay_out]
        refine wpAnyH_take (i := 2) (v := .pointer (some ⟨w.heap.size + 1, 1, none⟩)) rfl (by kernel_rfl) (by kernel_rfl) (by kernel_rfl) (fun _ _ _ h => h) (.inl ⟨by rfl, fun w hw => by clear hw; go_simp⟩) h0 ?_
        try simp only [Act.put, lay_out]
        refine wpAnyH_take (i := 3) (v := .int .i64 a.A) rfl (by kernel_rfl) (by kernel_rfl) (by kernel_rfl) (fun _ _ _ h => h) (.inl ⟨by rfl, fun w' hw => by have hc := row_c (i := 1) (u := .int .i64 a.A) hw.2 rfl; clear hw; go_simp⟩) h0 ?_
        try simp only [Act.put, lay_out]
        refine wpAnyH_take (i := 5) (v := .pointer (some ⟨w.heap.size, 2, none⟩)) rfl (by kernel_rfl) (by kernel_rfl) (by kernel_rfl) (fun _ _ _ h => h) (.inl ⟨by rfl, fun w hw => by clear hw; go_simp⟩) h0 ?_
        try simp only [Act.put, lay_out]
        refine wpAnyH_take (i := 6) (v := .slice (some ⟨gL, 0, none⟩) NL lc) rfl (by kernel_rfl) (by kernel_rfl) (by kernel_rfl) (fun _ _ _ h => h) (.inl ⟨by rfl, fun w' hw => by have hc := row_c (i := 2) (u := .slice (some ⟨gL, 0, none⟩) NL lc) hw.1 rfl; clear hw; go_simp⟩) h0 ?_
        try simp only [Act.put, lay_out]
        refine wpAnyH_take (i := 7) (v := .pointer (some ⟨w.heap.size + 1, 2, none⟩)) rfl (by kernel_rfl) (by kernel_rfl) (by kernel_rfl) (fun _ _ _ h => h) (.inl ⟨by rfl, fun w hw => by clear hw; go_simp⟩) h0 ?_
        try simp only [Act.put, lay_out]
        refine wpAnyH_take (i := 8) (v := .int .i64 a.B) rfl (by kernel_rfl) (by kernel_rfl) (by kernel_rfl) (fun _ _ _ h => h) (.inl ⟨by rfl, fun w' hw => by have hc := row_c (i := 2) (u := .int .i64 a.B) hw.2 rfl; clear hw; go_simp⟩) h0 ?_
        try simp only [Act.put, lay_out]
        refine wpAnyH_ready (rs := [4]) (by kernel_rfl) (by simp) (AllReadyH.cons rfl (fun K hK => ?_) AllReadyH.nil)
        rw [if_pos (by rfl)]
        go_simp
        go_at_call 22
        (with_reducible refine (HPA.out _).mono ?_); rintro e w5 ⟨rfl, rfl⟩
        refine hK.out _ _ (⟨P0.out.pair, P0.out.act⟩) (fun h1x => ?_)
        clear hK K
        try simp only [Act.put, lay_out]
        refine wpAnyH_ready (rs := [9]) (by kernel_rfl) (by simp) (AllReadyH.cons rfl (fun K hK => ?_) AllReadyH.nil)
        rw [if_pos (by rfl)]
        go_simp
        go_at_call 22
        (with_reducible refine (HPB.out _).mono ?_); rintro e w6 ⟨rfl, rfl⟩
        refine hK.out _ _ (⟨P0.out.pair, P0.out.act⟩) (fun h2x => ?_)
        clear hK K
        try simp only [Act.put, lay_out]
        refine wpAnyH_take (i := 10) (v := .int .i64 (iN : Int)) rfl (by kernel_rfl) (by kernel_rfl) (by kernel_rfl) (fun _ _ _ h => h) (.inl ⟨by rfl, fun w hw => by clear hw; go_simp⟩) h2x ?_
        try simp only [Act.put, lay_out]
        refine wpAnyH_take (i := 11) (v := .int .i64 (jN : Int)) rfl (by kernel_rfl) (by kernel_rfl) (by kernel_rfl) (fun _ _ _ h => h) (.inl ⟨by rfl, fun w hw => by clear hw; go_simp⟩) h2x ?_
        try simp only [Act.put, lay_out]
        refine wpAnyH_done (by kernel_rfl) ?_ _
        refine NoPanic.normal ?_
        clear h0 h1x h2x
        try simp only [Act.put, lay_out]
        have x2 := row_c (i := 2) (u := .slice (some ⟨gL, 0, none⟩) NL lc) P0.out.pair rfl
        have HRI := hid (HL.out.at_ (P0.out.keep HL.out.xl HL.out.ll) HI.out)
        go_wp2_with (refine wpList_load_mid rfl 33 (.tmp 49) rfl gL (iN * 3) rfl (wdV (WF iN)).toList _ HRI.out Try.underlying33 rfl (by kernel_rfl) ?_)
        clear x2
        have D0 := hid (P0.out.word hM (wdV (WF iN)))
        obtain ⟨b12, hb12⟩ : ∃ b12, w6.heap.size = b12 := ⟨_, rfl⟩
        obtain ⟨w7, hw7⟩ : ∃ w7, w6.alloc (.cells (wdV (WF iN)) 33) = w7 := ⟨_, rfl⟩
        rw [hw7, hb12] at D0
        try rw [hw7]
        try rw [hb12]
        clear hw7 hb12 P0 HRI
        have D1 := hid (D0.out.self hM ((Below.refl _ w7).drew))
        refine wp_region_noPanic ?_
        refine wp_region_held_drew (S := fun w' => w'.heap[w.heap.size]? = some (.cells (paC p b (.slice (some ⟨gL, 0, none⟩) NL lc) (.slice (some ⟨gV, 0, none⟩) NL vc)) 28 (0, 0)) ∧ w'.heap[w.heap.size + 1]? = some (.cells (ac5 { a with K := kd5 a.K NL }) 38 (0, 0)) ∧ w'.cell? ⟨gV, iN, none⟩ = some (.int .u64 (VF iN : Int))) (by kernel_rfl) (⟨D1.out.pair, D1.out.act, HL.out.v_ (D1.out.keep HL.out.xv HL.out.lv) HI.out⟩) (fun h0 => ?_)
        generalize w7.drew = y4 at *
        refine wpAnyH_take (i := 0) (v := .pointer (some ⟨w.heap.size, 3, none⟩)) rfl (by kernel_rfl) (by kernel_rfl) (by kernel_rfl) (fun _ _ _ h => h) (.inl ⟨by rfl, fun w hw => by clear hw; go_simp⟩) h0 ?_
        try simp only [Act.put, lay_out]
        refine wpAnyH_take (i := 1) (v := .slice (some ⟨gV, 0, none⟩) NL vc) rfl (by kernel_rfl) (by kernel_rfl) (by kernel_rfl) (fun _ _ _ h => h) (.inl ⟨by rfl, fun w' hw => by have hc := row_c (i := 3) (u := .slice (some ⟨gV, 0, none⟩) NL vc) hw.1 rfl; clear hw; go_simp⟩) h0 ?_
        try simp only [Act.put, lay_out]
        refine wpAnyH_take (i := 2) (v := .int .i64 (iN : Int)) rfl (by kernel_rfl) (by kernel_rfl) (by kernel_rfl) (fun _ _ _ h => h) (.inl ⟨by rfl, fun w hw => by clear hw; go_simp⟩) h0 ?_
        try simp only [Act.put, lay_out]
        refine wpAnyH_take (i := 3) (v := .pointer (some ⟨gV, iN, none⟩)) rfl (by kernel_rfl) (by kernel_rfl) (by kernel_rfl) (fun _ _ _ h => h) (.inl ⟨by rfl, fun w hw => by clear hw; go_simp⟩) h0 ?_
        try simp only [Act.put, lay_out]
        refine wpAnyH_take (i := 4) (v := .int .u64 (VF iN : Int)) rfl (by kernel_rfl) (by kernel_rfl) (by kernel_rfl) (fun _ _ _ h => h) (.inl ⟨by rfl, fun w' hw => by have hc := hw.2.2; clear hw; go_simp⟩) h0 ?_
        try simp only [Act.put, lay_out]
        refine wpAnyH_take (i := 5) (v := .pointer (some ⟨w.heap.size + 1, 4, none⟩)) rfl (by kernel_rfl) (by kernel_rfl) (by kernel_rfl) (fun _ _ _ h => h) (.inl ⟨by rfl, fun w hw => by clear hw; go_simp⟩) h0 ?_
        try simp only [Act.put, lay_out]
        refine wpAnyH_take (i := 6) (v := .int .u64 (a.C : Int)) rfl (by kernel_rfl) (by kernel_rfl) (by kernel_rfl) (fun _ _ _ h => h) (.inl ⟨by rfl, fun w' hw => by have hc := row_c (i := 4) (u := .int .u64 (a.C : Int)) hw.2.1 rfl; clear hw; go_simp⟩) h0 ?_
        try simp only [Act.put, lay_out]
        refine wpAnyH_take (i := 7) (v := .int .u64 (zC : Int)) rfl (by kernel_rfl) (by kernel_rfl) (by kernel_rfl) (fun _ _ _ h => h) (.inl ⟨by rfl, fun w hw => by clear hw; go_simp⟩) h0 ?_
        try simp only [Act.put, lay_out]
        refine wpAnyH_take (i := 8) (v := .int .u64 (zC : Int)) rfl (by kernel_rfl) (by kernel_rfl) (by kernel_rfl) (fun _ _ _ h => h) (.inl ⟨by rfl, fun w hw => by clear hw; go_simp⟩) h0 ?_
        try simp only [Act.put, lay_out]
        refine wpAnyH_done (by kernel_rfl) ?_ _
        refine NoPanic.normal ?_
        clear h0
        try simp only [Act.put, lay_out]
        have x0 : y4.cell? ⟨w.heap.size + 1, 0, none⟩ = some (.int .i64 3) := by have := row_c (i := 0) (u := .int .i64 (kd5 a.K NL)) D1.out.act rfl; rw [HKD.out] at this; exact this
        go_wp2_with fail
        clear x0
        have D2 := hid (D1.out.self hM ((Below.refl _ y4).drew))
        refine wp_region_noPanic ?_
        refine wp_region_held_drew (S := fun w' => w'.heap[w.heap.size]? = some (.cells (paC p b (.slice (some ⟨gL, 0, none⟩) NL lc) (.slice (some ⟨gV, 0, none⟩) NL vc)) 28 (0, 0)) ∧ w'.heap[b12]? = some (.cells (wdV (WF iN)) 33 (0, 0)) ∧ w'.rangeAt gL (jN * 3) (wdV (WF jN)).toList ∧ w'.cell? ⟨gV, iN, none⟩ = some (.int .u64 (VF iN : Int)) ∧ w'.cell? ⟨gV, jN, none⟩ = some (.int .u64 (VF jN : Int))) (by kernel_rfl) (⟨D2.out.pair, D2.out.h12, HL.out.at_ (D2.out.keep HL.out.xl HL.out.ll) HJ.out, HL.out.v_ (D2.out.keep HL.out.xv HL.out.lv) HI.out, HL.out.v_ (D2.out.keep HL.out.xv HL.out.lv) HJ.out⟩) (fun h0 => ?_)
        generalize y4.drew = y5 at *
        refine wpAnyH_take (i := 0) (v := .pointer (some ⟨w.heap.size, 0, none⟩)) rfl (by kernel_rfl) (by kernel_rfl) (by kernel_rfl) (fun _ _ _ h => h) (.inl ⟨by rfl, fun w hw => by clear hw; go_simp⟩) h0 ?_
        try simp only [Act.put, lay_out]
        refine wpAnyH_take (i := 1) (v := .pointer (some ⟨p, 0, none⟩)) rfl (by kernel_rfl) (by kernel_rfl) (by kernel_rfl) (fun _ _ _ h => h) (.inl ⟨by rfl, fun w' hw => by have hc := row_c (i := 0) (u := .pointer (some ⟨p, 0, none⟩)) hw.1 rfl; clear hw; go_simp⟩) h0 ?_
        try simp only [Act.put, lay_out]
        refine wpAnyH_take (i := 2) (v := .agg (wdV (WF iN))) rfl (by kernel_rfl) (by kernel_rfl) (by kernel_rfl) (fun _ _ _ h => h) (yields_load_row (by rfl) 33 _ rfl b12 33 (wdV (WF iN)) _ rfl (fun w h => h.2.1) Try.underlying33 rfl (by kernel_rfl)) h0 ?_
        try simp only [Act.put, lay_out]
        refine wpAnyH_take (i := 3) (v := .pointer (some ⟨w.heap.size, 2, none⟩)) rfl (by kernel_rfl) (by kernel_rfl) (by kernel_rfl) (fun _ _ _ h => h) (.inl ⟨by rfl, fun w hw => by clear hw; go_simp⟩) h0 ?_
        try simp only [Act.put, lay_out]
        refine wpAnyH_take (i := 4) (v := .slice (some ⟨gL, 0, none⟩) NL lc) rfl (by kernel_rfl) (by kernel_rfl) (by kernel_rfl) (fun _ _ _ h => h) (.inl ⟨by rfl, fun w' hw => by have hc := row_c (i := 2) (u := .slice (some ⟨gL, 0, none⟩) NL lc) hw.1 rfl; clear hw; go_simp⟩) h0 ?_
        try simp only [Act.put, lay_out]
        refine wpAnyH_take (i := 5) (v := .int .i64 (jN : Int)) rfl (by kernel_rfl) (by kernel_rfl) (by kernel_rfl) (fun _ _ _ h => h) (.inl ⟨by rfl, fun w hw => by clear hw; go_simp⟩) h0 ?_
        try simp only [Act.put, lay_out]
        refine wpAnyH_take (i := 6) (v := .pointer (some ⟨gL, jN * 3, none⟩)) rfl (by kernel_rfl) (by kernel_rfl) (by kernel_rfl) (fun _ _ _ h => h) (.inl ⟨by rfl, fun w hw => by clear hw; go_simp⟩) h0 ?_
        try simp only [Act.put, lay_out]
        refine wpAnyH_take (i := 7) (v := .agg (wdV (WF jN))) rfl (by kernel_rfl) (by kernel_rfl) (by kernel_rfl) (fun _ _ _ h => h) (yieldsIf_load_mid (by rfl) 33 _ rfl gL (jN * 3) rfl (wdV (WF jN)).toList _ (fun w h => h.2.2.1) Try.underlying33 rfl (by kernel_rfl)) h0 ?_
        try simp only [Act.put, lay_out]
        refine wpAnyH_take (i := 9) (v := .pointer (some ⟨w.heap.size, 1, none⟩)) rfl (by kernel_rfl) (by kernel_rfl) (by kernel_rfl) (fun _ _ _ h => h) (.inl ⟨by rfl, fun w hw => by clear hw; go_simp⟩) h0 ?_
        try simp only [Act.put, lay_out]
        refine wpAnyH_take (i := 10) (v := .pointer (some ⟨b, 0, none⟩)) rfl (by kernel_rfl) (by kernel_rfl) (by kernel_rfl) (fun _ _ _ h => h) (.inl ⟨by rfl, fun w' hw => by have hc := row_c (i := 1) (u := .pointer (some ⟨b, 0, none⟩)) hw.1 rfl; clear hw; go_simp⟩) h0 ?_
        try simp only [Act.put, lay_out]
        refine wpAnyH_take (i := 11) (v := .agg (wdV (WF iN))) rfl (by kernel_rfl) (by kernel_rfl) (by kernel_rfl) (fun _ _ _ h => h) (yields_load_row (by rfl) 33 _ rfl b12 33 (wdV (WF iN)) _ rfl (fun w h => h.2.1) Try.underlying33 rfl (by kernel_rfl)) h0 ?_
        try simp only [Act.put, lay_out]
        refine wpAnyH_take (i := 12) (v := .pointer (some ⟨w.heap.size, 2, none⟩)) rfl (by kernel_rfl) (by kernel_rfl) (by kernel_rfl) (fun _ _ _ h => h) (.inl ⟨by rfl, fun w hw => by clear hw; go_simp⟩) h0 ?_
        try simp only [Act.put, lay_out]
        refine wpAnyH_take (i := 13) (v := .slice (some ⟨gL, 0, none⟩) NL lc) rfl (by kernel_rfl) (by kernel_rfl) (by kernel_rfl) (fun _ _ _ h => h) (.inl ⟨by rfl, fun w' hw => by have hc := row_c (i := 2) (u := .slice (some ⟨gL, 0, none⟩) NL lc) hw.1 rfl; clear hw; go_simp⟩) h0 ?_
        try simp only [Act.put, lay_out]
        refine wpAnyH_take (i := 14) (v := .int .i64 (jN : Int)) rfl (by kernel_rfl) (by kernel_rfl) (by kernel_rfl) (fun _ _ _ h => h) (.inl ⟨by rfl, fun w hw => by clear hw; go_simp⟩) h0 ?_
        try simp only [Act.put, lay_out]
        refine wpAnyH_take (i := 15) (v := .pointer (some ⟨gL, jN * 3, none⟩)) rfl (by kernel_rfl) (by kernel_rfl) (by kernel_rfl) (fun _ _ _ h => h) (.inl ⟨by rfl, fun w hw => by clear hw; go_simp⟩) h0 ?_
        try simp only [Act.put, lay_out]
        refine wpAnyH_take (i := 16) (v := .agg (wdV (WF jN))) rfl (by kernel_rfl) (by kernel_rfl) (by kernel_rfl) (fun _ _ _ h => h) (yieldsIf_load_mid (by rfl) 33 _ rfl gL (jN * 3) rfl (wdV (WF jN)).toList _ (fun w h => h.2.2.1) Try.underlying33 rfl (by kernel_rfl)) h0 ?_
        try simp only [Act.put, lay_out]
        refine wpAnyH_take (i := 18) (v := .pointer (some ⟨w.heap.size, 3, none⟩)) rfl (by kernel_rfl) (by kernel_rfl) (by kernel_rfl) (fun _ _ _ h => h) (.inl ⟨by rfl, fun w hw => by clear hw; go_simp⟩) h0 ?_
        try simp only [Act.put, lay_out]
        refine wpAnyH_take (i := 19) (v := .slice (some ⟨gV, 0, none⟩) NL vc) rfl (by kernel_rfl) (by kernel_rfl) (by kernel_rfl) (fun _ _ _ h => h) (.inl ⟨by rfl, fun w' hw => by have hc := row_c (i := 3) (u := .slice (some ⟨gV, 0, none⟩) NL vc) hw.1 rfl; clear hw; go_simp⟩) h0 ?_
        try simp only [Act.put, lay_out]
        refine wpAnyH_take (i := 20) (v := .int .i64 (iN : Int)) rfl (by kernel_rfl) (by kernel_rfl) (by kernel_rfl) (fun _ _ _ h => h) (.inl ⟨by rfl, fun w hw => by clear hw; go_simp⟩) h0 ?_
        try simp only [Act.put, lay_out]
        refine wpAnyH_take (i := 21) (v := .pointer (some ⟨gV, iN, none⟩)) rfl (by kernel_rfl) (by kernel_rfl) (by kernel_rfl) (fun _ _ _ h => h) (.inl ⟨by rfl, fun w hw => by clear hw; go_simp⟩) h0 ?_
        try simp only [Act.put, lay_out]
        refine wpAnyH_take (i := 22) (v := .int .u64 (VF iN : Int)) rfl (by kernel_rfl) (by kernel_rfl) (by kernel_rfl) (fun _ _ _ h => h) (.inl ⟨by rfl, fun w' hw => by have hc := hw.2.2.2.1; clear hw; go_simp⟩) h0 ?_
        try simp only [Act.put, lay_out]
        refine wpAnyH_take (i := 23) (v := .pointer (some ⟨w.heap.size, 3, none⟩)) rfl (by kernel_rfl) (by kernel_rfl) (by kernel_rfl) (fun _ _ _ h => h) (.inl ⟨by rfl, fun w hw => by clear hw; go_simp⟩) h0 ?_
        try simp only [Act.put, lay_out]
        refine wpAnyH_take (i := 24) (v := .slice (some ⟨gV, 0, none⟩) NL vc) rfl (by kernel_rfl) (by kernel_rfl) (by kernel_rfl) (fun _ _ _ h => h) (.inl ⟨by rfl, fun w' hw => by have hc := row_c (i := 3) (u := .slice (some ⟨gV, 0, none⟩) NL vc) hw.1 rfl; clear hw; go_simp⟩) h0 ?_
        try simp only [Act.put, lay_out]
        refine wpAnyH_take (i := 25) (v := .int .i64 (jN : Int)) rfl (by kernel_rfl) (by kernel_rfl) (by kernel_rfl) (fun _ _ _ h => h) (.inl ⟨by rfl, fun w hw => by clear hw; go_simp⟩) h0 ?_
        try simp only [Act.put, lay_out]
        refine wpAnyH_take (i := 26) (v := .pointer (some ⟨gV, jN, none⟩)) rfl (by kernel_rfl) (by kernel_rfl) (by kernel_rfl) (fun _ _ _ h => h) (.inl ⟨by rfl, fun w hw => by clear hw; go_simp⟩) h0 ?_
        try simp only [Act.put, lay_out]
        refine wpAnyH_take (i := 27) (v := .int .u64 (VF jN : Int)) rfl (by kernel_rfl) (by kernel_rfl) (by kernel_rfl) (fun _ _ _ h => h) (.inl ⟨by rfl, fun w' hw => by have hc := hw.2.2.2.2; clear hw; go_simp⟩) h0 ?_
        try simp only [Act.put, lay_out]
        refine wpAnyH_take (i := 28) (v := .int .u64 ((VF iN ^^^ VF jN : Nat) : Int)) rfl (by kernel_rfl) (by kernel_rfl) (by kernel_rfl) (fun _ _ _ h => h) (.inl ⟨by rfl, fun w hw => by clear hw; go_simp⟩) h0 ?_
        try simp only [Act.put, lay_out]
        refine wpAnyH_ready (rs := [8]) (by kernel_rfl) (by simp) (AllReadyH.cons rfl (fun K hK => ?_) AllReadyH.nil)
        rw [if_pos (by rfl)]
        go_simp
        go_at_call 23
        (with_reducible refine (qxor hM hS (WF iN) (WF jN) D2.out.g.z HQ.out HK.out HN.out HWI.out HWJ.out).mono ?_); rintro e w8 ⟨rfl, hz, hs⟩
        have D3 := hid (D2.out.on hz hs)
        clear hz hs
        refine hK.out _ _ (⟨D3.out.pair, D3.out.h12, HL.out.at_ (D3.out.keep HL.out.xl HL.out.ll) HJ.out, HL.out.v_ (D3.out.keep HL.out.xv HL.out.lv) HI.out, HL.out.v_ (D3.out.keep HL.out.xv HL.out.lv) HJ.out⟩) (fun h41x => ?_)
        clear hK K
        try simp only [Act.put, lay_out]
        refine wpAnyH_ready (rs := [17]) (by kernel_rfl) (by simp) (AllReadyH.cons rfl (fun K hK => ?_) AllReadyH.nil)
        rw [if_pos (by rfl)]
        go_simp
        go_at_call 24
        (with_reducible refine (yxor hM D3.out.g.z HQ.out HK3.out HN.out (WF iN) (WF jN) HWI.out HWJ.out).mono ?_); rintro e w9 ⟨rfl, hz, hs⟩
        have D4 := hid (D3.out.on hz hs)
        clear hz hs
        refine hK.out _ _ (⟨D4.out.pair, D4.out.h12, HL.out.at_ (D4.out.keep HL.out.xl HL.out.ll) HJ.out, HL.out.v_ (D4.out.keep HL.out.xv HL.out.lv) HI.out, HL.out.v_ (D4.out.keep HL.out.xv HL.out.lv) HJ.out⟩) (fun h42x => ?_)
        clear hK K
        try simp only [Act.put, lay_out]
        refine wpAnyH_ready (rs := [29]) (by kernel_rfl) (by simp) (AllReadyH.cons rfl (fun K hK => ?_) AllReadyH.nil)
        rw [if_pos (by rfl)]
        refine wp_store_row 33 _ _ rfl b7 (wdV (xorR S (WF iN) (WF jN))) rfl rfl 33 _ D4.out.h7 (by kernel_rfl) rfl (by kernel_rfl) ?_
        have D5 := hid (D4.out.put7 hM (wdV (xorR S (WF iN) (WF jN))))
        refine hK.out _ _ (⟨D5.out.pair, D5.out.h12, HL.out.at_ (D5.out.keep HL.out.xl HL.out.ll) HJ.out, HL.out.v_ (D5.out.keep HL.out.xv HL.out.lv) HI.out, HL.out.v_ (D5.out.keep HL.out.xv HL.out.lv) HJ.out⟩) (fun h43x => ?_)
        clear hK K
        try simp only [Act.put, lay_out]
        refine wpAnyH_ready (rs := [30]) (by kernel_rfl) (by simp) (AllReadyH.cons rfl (fun K hK => ?_) AllReadyH.nil)
        rw [if_pos (by rfl)]
        refine wp_store_row 33 _ _ rfl b8 (wdV (xorR S (WF iN) (WF jN))) rfl rfl 33 _ D5.out.h8 (by kernel_rfl) rfl (by kernel_rfl) ?_
        have D6 := hid (D5.out.put8 hM (wdV (xorR S (WF iN) (WF jN))))
        refine hK.out _ _ (⟨D6.out.pair, D6.out.h12, HL.out.at_ (D6.out.keep HL.out.xl HL.out.ll) HJ.out, HL.out.v_ (D6.out.keep HL.out.xv HL.out.lv) HI.out, HL.out.v_ (D6.out.keep HL.out.xv HL.out.lv) HJ.out⟩) (fun h44x => ?_)
        clear hK K
        try simp only [Act.put, lay_out]
        refine wpAnyH_take (i := 31) (v := .int .u64 ((VF iN ^^^ VF jN : Nat) : Int)) rfl (by kernel_rfl) (by kernel_rfl) (by kernel_rfl) (fun _ _ _ h => h) (.inl ⟨by rfl, fun w hw => by clear hw; go_simp⟩) h44x ?_
        try simp only [Act.put, lay_out]
        refine wpAnyH_done (by kernel_rfl) ?_ _
        refine NoPanic.normal ?_
        clear h0 h41x h42x h43x h44x
        try simp only [Act.put, lay_out]
        have P4 := hid D6.out.pb
        go_wp2_with fail
        have Q0 := hid (P4.out.self hM ((Below.refl _ ((w9.setRow b7 (wdV (xorR S (WF iN) (WF jN)))).setRow b8 (wdV (xorR S (WF iN) (WF jN))))).drew))
        refine wp_region_noPanic ?_
        refine wp_region_held_drew (S := fun w' => w'.heap[b7]? = some (.cells (wdV (xorR S (WF iN) (WF jN))) 33 (0, 0)) ∧ w'.heap[b8]? = some (.cells (wdV (xorR S (WF iN) (WF jN))) 33 (0, 0))) (by kernel_rfl) (⟨Q0.out.h7, Q0.out.h8⟩) (fun h0 => ?_)
        generalize ((w9.setRow b7 (wdV (xorR S (WF iN) (WF jN)))).setRow b8 (wdV (xorR S (WF iN) (WF jN)))).drew = y3 at *
        refine wpAnyH_take (i := 0) (v := .agg (wdV (xorR S (WF iN) (WF jN)))) rfl (by kernel_rfl) (by kernel_rfl) (by kernel_rfl) (fun _ _ _ h => h) (yields_load_row (by rfl) 33 _ rfl b7 33 (wdV (xorR S (WF iN) (WF jN))) _ rfl (fun w h => h.1) Try.underlying33 rfl (by kernel_rfl)) h0 ?_
        try simp only [Act.put, lay_out]
        refine wpAnyH_take (i := 1) (v := .int .u64 ((VF iN ^^^ VF jN : Nat) : Int)) rfl (by kernel_rfl) (by kernel_rfl) (by kernel_rfl) (fun _ _ _ h => h) (.inl ⟨by rfl, fun w hw => by clear hw; go_simp⟩) h0 ?_
        try simp only [Act.put, lay_out]
        refine wpAnyH_take (i := 2) (v := .agg (wdV (xorR S (WF iN) (WF jN)))) rfl (by kernel_rfl) (by kernel_rfl) (by kernel_rfl) (fun _ _ _ h => h) (yields_load_row (by rfl) 33 _ rfl b7 33 (wdV (xorR S (WF iN) (WF jN))) _ rfl (fun w h => h.1) Try.underlying33 rfl (by kernel_rfl)) h0 ?_
        try simp only [Act.put, lay_out]
        refine wpAnyH_take (i := 3) (v := .agg (wdV (xorR S (WF iN) (WF jN)))) rfl (by kernel_rfl) (by kernel_rfl) (by kernel_rfl) (fun _ _ _ h => h) (yields_load_row (by rfl) 33 _ rfl b8 33 (wdV (xorR S (WF iN) (WF jN))) _ rfl (fun w h => h.2) Try.underlying33 rfl (by kernel_rfl)) h0 ?_
        try simp only [Act.put, lay_out]
        refine wpAnyH_take (i := 4) (v := .bool true) rfl (by kernel_rfl) (by kernel_rfl) (by kernel_rfl) (fun _ _ _ h => h) (.inl ⟨by rfl, fun w' _ => by rw [exec_eqWd _ _ rfl (xorR S (WF iN) (WF jN)) (xorR S (WF iN) (WF jN)) rfl rfl]; simp⟩) h0 ?_
        try simp only [Act.put, lay_out]
        refine wpAnyH_ready (rs := [5]) (by kernel_rfl) (by simp) (AllReadyH.cons rfl (fun K hK => ?_) AllReadyH.nil)
        rw [if_pos (by rfl)]
        refine wp_store_row 33 _ _ rfl (w.heap.size + 2) (wdV (xorR S (WF iN) (WF jN))) rfl rfl 33 _ Q0.out.h4 (by kernel_rfl) rfl (by kernel_rfl) ?_
        have Q1 := hid (Q0.out.put4 hM (wdV (xorR S (WF iN) (WF jN))))
        refine hK.out _ _ (⟨(Q1.out.bx (b7, wdV (xorR S (WF iN) (WF jN))) (by simp)).2, (Q1.out.bx (b8, wdV (xorR S (WF iN) (WF jN))) (by simp)).2⟩) (fun h1x => ?_)
        clear hK K
        try simp only [Act.put, lay_out]
        refine wpAnyH_take (i := 6) (v := .int .u64 ((VF iN ^^^ VF jN : Nat) : Int)) rfl (by kernel_rfl) (by kernel_rfl) (by kernel_rfl) (fun _ _ _ h => h) (.inl ⟨by rfl, fun w hw => by clear hw; go_simp⟩) h1x ?_
        try simp only [Act.put, lay_out]
        refine wpAnyH_take (i := 7) (v := .bool true) rfl (by kernel_rfl) (by kernel_rfl) (by kernel_rfl) (fun _ _ _ h => h) (.inl ⟨by rfl, fun w hw => by clear hw; go_simp⟩) h1x ?_
        try simp only [Act.put, lay_out]
        refine wpAnyH_done (by kernel_rfl) ?_ _
        refine NoPanic.normal ?_
        clear h0 h1x
        try simp only [Act.put, lay_out]
        go_wp2
        exact ret_row_tmp2 rfl rfl (Q1.out.bx (w.heap.size + 2, wdV (xorR S (WF iN) (WF jN))) (by simp)).2 Try.underlying33 rfl (by kernel_rfl) rfl ⟨rfl, Gz.fin5 hM HXL.out Q1.out HBW0.out⟩
end Go.Proofs.Ytdgkofnboeepbaa
