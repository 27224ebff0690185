import Derived.Test.YtdgkofnboeepbaaProg
import Derived.Test.YtdgkofnboeepbaaMgaq
/- Share: an act of a pair: words that there are. -/
namespace Go.Proofs.Ytdgkofnboeepbaa
open Go.RowKit
set_option maxRecDepth 100000
theorem bnot64 {a : Nat} (ha : a < 2 ^ 64) : bits .xor .u64 IntKind.u64.max (a : Int) = (wnt a : Nat) := by
    have h := wx64 (a := 2 ^ 64 - 1) (b := a) (by decide) ha
    rw [show ((2 ^ 64 - 1 : Nat) : Int) = IntKind.u64.max from rfl] at h
    rw [h, wnt_max ha]
set_option maxHeartbeats 12800000 in
theorem ldoe_4 {Pm : World → Nat → Ms → (Nat → Prop) → Prop} (hM : Mach Pm) (hS : ShI Pm) {lo : Nat} {X : Nat → Prop} {W w : World} {p b k : Nat} {S : Ms} (h : Bz Pm lo X W w p b S S) (hq : Bq k S) (hk : k + 10 ≤ 100000) (hn : S.n = 2 ∨ S.n = 3) (a : Ac5) (gL gV NL lc vc : Nat) (hC : a.C < 2 ^ 64) (WF : Nat → Nat → Int) (VF : Nat → Nat) (hl : Lv w X NL gL gV WF VF) (hN0 : 0 < NL) (hNl : NL ≤ 1000000) (iN jN : Nat) (hiN : pkN a.A NL = iN) (hjN : pkN a.B NL = jN) (hkd : kd5 a.K NL = 4) :
    Calls Try.prog 7 #[.agg (paC p b (.slice (some ⟨gL, 0, none⟩) NL lc) (.slice (some ⟨gV, 0, none⟩) NL vc)), .agg (ac5 a)] w fun e w' => e = .returned (.tuple #[.agg (wdV (notR S (WF iN))), .int .u64 ((wnt (VF iN) : Nat) : Int), .bool true]) ∧ Bz Pm lo X W w' p b (notS S (WF iN)) (notS S (WF iN)) ∧ ∀ k, X k → w'.heap[k]? = w.heap[k]? := by
  have hnot : bits .xor .u64 IntKind.u64.max (VF iN : Int) = (wnt (VF iN) : Nat) := bnot64 (hl.vb iN (hiN ▸ pkN_lt a.A hN0))
  have hi := pkN_lt a.A hN0
  have hj := pkN_lt a.B hN0
  rw [hiN] at hi
  rw [hjN] at hj
  have HPA := hid (fun (w' : World) => lpick_any (some ⟨gL, 0, none⟩) NL lc a.A w' hN0 hNl)
  have HPB := hid (fun (w' : World) => lpick_any (some ⟨gL, 0, none⟩) NL lc a.B w' hN0 hNl)
  rw [hiN] at HPA
  rw [hjN] at HPB
  have HI := hid hi
  have HJ := hid hj
  have HL := hid hl
  have i0 : (0 : Int) ≤ (iN : Int) := by omega
  have i1 : (iN : Int) < (NL : Int) := by omega
  have j0 : (0 : Int) ≤ (jN : Int) := by omega
  have j1 : (jN : Int) < (NL : Int) := by omega
  have HVI := hid (hl.vb iN hi)
  have HVJ := hid (hl.vb jN hj)
  have HWI := hid (hl.wb iN hi)
  have HWJ := hid (hl.wb jN hj)
  have hxv := wx64 (hl.vb iN hi) hC
  have hxw := wx64 (hl.vb iN hi) (hl.vb jN hj)
  generalize hgx : VF iN ^^^ a.C = zC at *
  have HGX := hid hgx
  clear hiN hjN hi hj hl hN0 hNl hgx
  have HQ := hid hq
  have HK := hid hk
  have HK3 : Hid (k + 3 ≤ 100000) := hid (by omega)
  have HN := hid hn
  have HC := hid hC
  have HKD := hid hkd
  have HXL : Hid (∀ k, X k → k < w.heap.size) := hid (by
    obtain ⟨F, G, ov, bv, vv, tv, h1, h2, h3, h4, h5, h6, h7⟩ := h
    exact fun k hk => (h4 k hk).1)
  have HBW0 : Hid (Below w.heap.size w ((w.alloc (.cells (paC p b (.slice (some ⟨gL, 0, none⟩) NL lc) (.slice (some ⟨gV, 0, none⟩) NL vc)) 28)).alloc (.cells (ac5 { a with K := kd5 a.K NL }) 38))) := hid (((Below.refl _ _).alloc (Nat.le_refl _) _).alloc (by simp) _)
  have HI3 : Hid (I64 3) := hid (i64c 3 (by decide) (by decide))
  have HI4 : Hid (I64 4) := hid (i64c 4 (by decide) (by decide))
  clear hq hk hn hC hkd
  have HE0 : Hid (∀ wx bs, Gz Pm lo (fun k => X k ∨ k = w.heap.size ∨ k = w.heap.size + 1) W ((w.alloc (.cells (paC p b (.slice (some ⟨gL, 0, none⟩) NL lc) (.slice (some ⟨gV, 0, none⟩) NL vc)) 28)).alloc (.cells (ac5 { a with K := kd5 a.K NL }) 38)) wx p b S S bs → wx.heap[w.heap.size + 1]? = some (.cells (ac5 { a with K := kd5 a.K NL }) 38 (0, 0))) := hid (fun wx bs hg => (hg.st _ (.inr (.inr rfl))).2.trans (by have := heap_alloc_new (w.alloc (.cells (paC p b (.slice (some ⟨gL, 0, none⟩) NL lc) (.slice (some ⟨gV, 0, none⟩) NL vc)) 28)) (.cells (ac5 { a with K := kd5 a.K NL }) 38); rw [show (w.alloc (.cells (paC p b (.slice (some ⟨gL, 0, none⟩) NL lc) (.slice (some ⟨gV, 0, none⟩) NL vc)) 28)).heap.size = w.heap.size + 1 by simp] at this; exact this))
  obtain ⟨w1, hw1⟩ : ∃ w1, ((w.alloc (.cells (paC p b (.slice (some ⟨gL, 0, none⟩) NL lc) (.slice (some ⟨gV, 0, none⟩) NL vc)) 28)).alloc (.cells (ac5 a) 38)).alloc (.cells #[.int .i64 0, .int .i64 0, .int .i64 0] 33) = w1 := ⟨_, rfl⟩
  have HB1 : Hid (Below w.heap.size w w1) := hid (by rw [← hw1]; exact (((Below.refl _ _).alloc (Nat.le_refl _) _).alloc (by simp) _).alloc (by simp; try omega) _)
  have HS1 : Hid (w1.heap.size = w.heap.size + 3) := hid (by rw [← hw1]; simp)
  have HX0 : Hid (w1.heap[w.heap.size]? = some (.cells (paC p b (.slice (some ⟨gL, 0, none⟩) NL lc) (.slice (some ⟨gV, 0, none⟩) NL vc)) 28 (0, 0))) := hid (by rw [← hw1]; exact (heap_alloc_old _ _ (by simp; try omega)).trans ((heap_alloc_old _ _ (by simp)).trans (heap_alloc_new _ _)))
  have HX1 : Hid (w1.heap[w.heap.size + 1]? = some (.cells (ac5 a) 38 (0, 0))) := hid (by rw [← hw1]; refine (heap_alloc_old _ _ (by simp)).trans ?_; have := heap_alloc_new (w.alloc (.cells (paC p b (.slice (some ⟨gL, 0, none⟩) NL lc) (.slice (some ⟨gV, 0, none⟩) NL vc)) 28)) (.cells (ac5 a) 38); rw [show (w.alloc (.cells (paC p b (.slice (some ⟨gL, 0, none⟩) NL lc) (.slice (some ⟨gV, 0, none⟩) NL vc)) 28)).heap.size = w.heap.size + 1 by simp] at this; exact this)
  have HX2 : Hid (w1.heap[w.heap.size + 2]? = some (.cells #[.int .i64 0, .int .i64 0, .int .i64 0] 33 (0, 0))) := hid (by rw [← hw1]; have := heap_alloc_new ((w.alloc (.cells (paC p b (.slice (some ⟨gL, 0, none⟩) NL lc) (.slice (some ⟨gV, 0, none⟩) NL vc)) 28)).alloc (.cells (ac5 a) 38)) (.cells #[.int .i64 0, .int .i64 0, .int .i64 0] 33); rw [show ((w.alloc (.cells (paC p b (.slice (some ⟨gL, 0, none⟩) NL lc) (.slice (some ⟨gV, 0, none⟩) NL vc)) 28)).alloc (.cells (ac5 a) 38)).heap.size = w.heap.size + 2 by simp] at this; exact this)
  have HW1 := hid hw1
  have H := hid h
  clear h hw1
  go_enter Try.func7, Try.ntmps7
  go_upto_region 1 with fail
  rw [HW1.out]
  go_cut [28] from 15 to 28 (fun q wx => q = .bool (decide (a.K < 0 ∨ (NL = 0 ∧ 2 < a.K))) ∧ w1 = wx)
  case first =>
    have x2 := row_c (i := 2) (u := .slice (some ⟨gL, 0, none⟩) NL lc) HX0.out rfl
    have x0 := row_c (i := 0) (u := .int .i64 a.K) HX1.out rfl
    by_cases f1 : a.K < 0
    · have hd : decide (a.K < 0 ∨ (NL = 0 ∧ 2 < a.K)) = true := decide_eq_true (.inl f1)
      have q1 : decide (a.K < 0) = true := decide_eq_true f1
      have HD := hid hd
      clear hd
      go_wp2
      go_meet
      exact ⟨by rw [HD.out], rfl⟩
    · have q1 : decide (a.K < 0) = false := decide_eq_false f1
      by_cases f2 : NL = 0
      · have e2 : ((NL : Int) == 0) = true := by simp [f2]
        by_cases f3 : 2 < a.K
        · have hd : decide (a.K < 0 ∨ (NL = 0 ∧ 2 < a.K)) = true := decide_eq_true (.inr ⟨f2, f3⟩)
          have q3 : decide (2 < a.K) = true := decide_eq_true f3
          clear f2
          have HD := hid hd
          clear hd
          go_wp2
          go_meet
          exact ⟨by rw [HD.out], rfl⟩
        · have hd : decide (a.K < 0 ∨ (NL = 0 ∧ 2 < a.K)) = false := decide_eq_false (by omega)
          have q3 : decide (2 < a.K) = false := decide_eq_false f3
          clear f2
          have HD := hid hd
          clear hd
          go_wp2
          go_meet
          exact ⟨by rw [HD.out], rfl⟩
      · have e2 : ((NL : Int) == 0) = false := by simp [f2]
        have hd : decide (a.K < 0 ∨ (NL = 0 ∧ 2 < a.K)) = false := decide_eq_false (by omega)
        have HD := hid hd
        clear hd
        go_wp2
        go_meet
        exact ⟨by rw [HD.out], rfl⟩
  case rest =>
    obtain ⟨rfl, rfl⟩ := hcut
    obtain ⟨cb, hcb⟩ : ∃ cb, decide (a.K < 0 ∨ (NL = 0 ∧ 2 < a.K)) = cb := ⟨_, rfl⟩
    rw [hcb]
    have HCB := hid hcb
    clear hcb
    go_upto_if 28 with fail
    go_cut [29] from 29 to 29 (fun q wx => wx.heap.size = w.heap.size + 3 ∧ Below w.heap.size w wx ∧ wx.heap[w.heap.size]? = some (.cells (paC p b (.slice (some ⟨gL, 0, none⟩) NL lc) (.slice (some ⟨gV, 0, none⟩) NL vc)) 28 (0, 0)) ∧ wx.heap[w.heap.size + 1]? = some (.cells (ac5 { a with K := kd5 a.K NL }) 38 (0, 0)) ∧ wx.heap[w.heap.size + 2]? = some (.cells #[.int .i64 0, .int .i64 0, .int .i64 0] 33 (0, 0)))
    case first =>
      cases cb
      · have hk0 : kd5 a.K NL = a.K := if_neg (of_decide_eq_false HCB.out)
        have HK0 := hid hk0
        clear hk0
        go_wp2
        go_meet
        rw [HK0.out]
        exact ⟨HS1.out, HB1.out, HX0.out, HX1.out, HX2.out⟩
      · have hk0 : kd5 a.K NL = 1 := if_pos (of_decide_eq_true HCB.out)
        have HK0 := hid hk0
        have x0 := row_c (i := 0) (u := .int .i64 a.K) HX1.out rfl
        have f0 := frozen_of_row w1 (w.heap.size + 1) 0 _ _ HX1.out
        clear hk0
        go_wp2
        go_meet
        rw [HK0.out]
        refine ⟨by simp [World.setCell]; exact HS1.out, below_set HB1.out (by omega) 0 _, (heap_setCell_other w1 ⟨w.heap.size + 1, 0, none⟩ _ _ (by simp)).trans HX0.out, ?_, (heap_setCell_other w1 ⟨w.heap.size + 1, 0, none⟩ _ _ (by simp)).trans HX2.out⟩
        rw [heap_setCell_same w1 (w.heap.size + 1) 0 _ 38 _ HX1.out]
        rfl
    case rest =>
      obtain ⟨hsz, hbw, e0, e1, e2⟩ := hcut
      have HSZ := hid hsz
      have G0 := hid (Gz.begins hM H.out hbw hsz _ _ e0 e1 e2)
      clear hsz hbw e0 e1 e2
      obtain ⟨wB, hwB⟩ : ∃ wB, wc = wB := ⟨_, rfl⟩
      subst hwB
      go_upto_region 3 with fail
      go_cut [7, 8, 9] from 30 to 33 (fun p7 p8 p9 wx => ∃ b7 b8, p7 = .pointer (some ⟨b7, 0, none⟩) ∧ p8 = .pointer (some ⟨b8, 0, none⟩) ∧ p9 = .int .u64 (a.C : Int) ∧ Pb Pm lo X W w (paC p b (.slice (some ⟨gL, 0, none⟩) NL lc) (.slice (some ⟨gV, 0, none⟩) NL vc)) { a with K := kd5 a.K NL } wx p b S S b7 b8 #[.int .i64 0, .int .i64 0, .int .i64 0] #[.int .i64 0, .int .i64 0, .int .i64 0])
      case first =>
        have Y0 := hid (G0.out.self hM ((Below.refl _ wc).drew))
        refine wp_region_noPanic ?_
        refine wp_region_held_drew (S := fun w' => w'.heap[w.heap.size + 1]? = some (.cells (ac5 { a with K := kd5 a.K NL }) 38 (0, 0))) (by kernel_rfl) ((HE0.out _ _ Y0.out)) (fun h0 => ?_)
        have HSZ2 : Hid (wc.drew.heap.size = w.heap.size + 3) := hid HSZ.out
        generalize wc.drew = y1 at *
        refine wpAnyH_take (i := 0) (v := .agg #[.int .i64 0, .int .i64 0, .int .i64 0]) rfl (by kernel_rfl) (by kernel_rfl) (by kernel_rfl) (fun _ _ _ h => h) (.inl ⟨by rfl, fun w hw => by clear hw; go_simp⟩) h0 ?_
        try simp only [Act.put, lay_out]
        refine wpAnyH_take (i := 1) (v := .agg #[.int .i64 0, .int .i64 0, .int .i64 0]) rfl (by kernel_rfl) (by kernel_rfl) (by kernel_rfl) (fun _ _ _ h => h) (.inl ⟨by rfl, fun w hw => by clear hw; go_simp⟩) h0 ?_
        try simp only [Act.put, lay_out]
        refine wpAnyH_take (i := 2) (v := .pointer (some ⟨w.heap.size + 1, 4, none⟩)) rfl (by kernel_rfl) (by kernel_rfl) (by kernel_rfl) (fun _ _ _ h => h) (.inl ⟨by rfl, fun w hw => by clear hw; go_simp⟩) h0 ?_
        try simp only [Act.put, lay_out]
        refine wpAnyH_take (i := 3) (v := .int .u64 (a.C : Int)) rfl (by kernel_rfl) (by kernel_rfl) (by kernel_rfl) (fun _ _ _ h => h) (.inl ⟨by rfl, fun w' hw => by have hc := row_c (i := 4) (u := .int .u64 (a.C : Int)) hw rfl; clear hw; go_simp⟩) h0 ?_
        try simp only [Act.put, lay_out]
        refine wpAnyH_ready (rs := [4, 5]) (by kernel_rfl) (by simp) (AllReadyH.cons rfl (fun K hK => ?_) (AllReadyH.cons rfl (fun K hK => ?_) AllReadyH.nil))
        · rw [if_pos (by rfl)]
          go_simp
          have G1 := hid (Y0.out.box hM (by have := HSZ2.out; simp; omega) #[.int .i64 0, .int .i64 0, .int .i64 0])
          refine hK.out _ _ (HE0.out _ _ G1.out) (fun h1x => ?_)
          clear hK K
          try simp only [Act.put, lay_out]
          refine wpAnyH_ready (rs := [5]) (by kernel_rfl) (by simp) (AllReadyH.cons rfl (fun K hK => ?_) AllReadyH.nil)
          rw [if_pos (by rfl)]
          go_simp
          have G2 := hid (G1.out.box hM (by have := HSZ2.out; simp; omega) #[.int .i64 0, .int .i64 0, .int .i64 0])
          refine hK.out _ _ (HE0.out _ _ G2.out) (fun h2x => ?_)
          clear hK K
          try simp only [Act.put, lay_out]
          have P0 : Hid (Pb Pm lo X W w (paC p b (.slice (some ⟨gL, 0, none⟩) NL lc) (.slice (some ⟨gV, 0, none⟩) NL vc)) { a with K := kd5 a.K NL } ((y1.alloc (.cells #[.int .i64 0, .int .i64 0, .int .i64 0] 33)).alloc (.cells #[.int .i64 0, .int .i64 0, .int .i64 0] 33)) p b S S y1.heap.size (y1.heap.size + 1) #[.int .i64 0, .int .i64 0, .int .i64 0] #[.int .i64 0, .int .i64 0, .int .i64 0]) := hid ⟨by have := G2.out.swap (bs' := [(y1.heap.size, #[.int .i64 0, .int .i64 0, .int .i64 0]), ((y1.alloc (.cells #[.int .i64 0, .int .i64 0, .int .i64 0] 33)).heap.size, #[.int .i64 0, .int .i64 0, .int .i64 0]), (w.heap.size + 2, #[.int .i64 0, .int .i64 0, .int .i64 0])]) (by intro q hq; simp at hq ⊢; rcases hq with rfl | rfl | rfl <;> simp); simpa using this, by have := HSZ2.out; simp; try omega⟩
          refine wpAnyH_ready (rs := [6]) (by kernel_rfl) (by simp) (AllReadyH.cons rfl (fun K hK => ?_) AllReadyH.nil)
          rw [if_pos (by rfl)]
          refine wp_store_row 33 _ _ rfl y1.heap.size #[.int .i64 0, .int .i64 0, .int .i64 0] rfl rfl 33 _ P0.out.h7 (by kernel_rfl) rfl (by kernel_rfl) ?_
          have P1 := hid (P0.out.put7 hM #[.int .i64 0, .int .i64 0, .int .i64 0])
          refine hK.out _ _ (P1.out.act) (fun h3x => ?_)
          clear hK K
          try simp only [Act.put, lay_out]
          refine wpAnyH_ready (rs := [7]) (by kernel_rfl) (by simp) (AllReadyH.cons rfl (fun K hK => ?_) AllReadyH.nil)
          rw [if_pos (by rfl)]
          refine wp_store_row 33 _ _ rfl (y1.heap.size + 1) #[.int .i64 0, .int .i64 0, .int .i64 0] rfl rfl 33 _ P1.out.h8 (by kernel_rfl) rfl (by kernel_rfl) ?_
          have P2 := hid (P1.out.put8 hM #[.int .i64 0, .int .i64 0, .int .i64 0])
          refine hK.out _ _ (P2.out.act) (fun h4x => ?_)
          clear hK K
          try simp only [Act.put, lay_out]
          refine wpAnyH_take (i := 8) (v := .int .u64 (a.C : Int)) rfl (by kernel_rfl) (by kernel_rfl) (by kernel_rfl) (fun _ _ _ h => h) (.inl ⟨by rfl, fun w hw => by clear hw; go_simp⟩) h4x ?_
          try simp only [Act.put, lay_out]
          refine wpAnyH_done (by kernel_rfl) ?_ _
          refine NoPanic.normal ?_
          clear h0 h1x h2x h3x h4x
          try simp only [Act.put, lay_out]
          go_wp2_with fail
          go_meet
          exact ⟨_, _, rfl, rfl, rfl, P2.out⟩
        · rw [if_pos (by rfl)]
          go_simp
          have G1 := hid (Y0.out.box hM (by have := HSZ2.out; simp; omega) #[.int .i64 0, .int .i64 0, .int .i64 0])
          refine hK.out _ _ (HE0.out _ _ G1.out) (fun h1x => ?_)
          clear hK K
          try simp only [Act.put, lay_out]
          refine wpAnyH_ready (rs := [4]) (by kernel_rfl) (by simp) (AllReadyH.cons rfl (fun K hK => ?_) AllReadyH.nil)
          rw [if_pos (by rfl)]
          go_simp
          have G2 := hid (G1.out.box hM (by have := HSZ2.out; simp; omega) #[.int .i64 0, .int .i64 0, .int .i64 0])
          refine hK.out _ _ (HE0.out _ _ G2.out) (fun h2x => ?_)
          clear hK K
          try simp only [Act.put, lay_out]
          have P0 : Hid (Pb Pm lo X W w (paC p b (.slice (some ⟨gL, 0, none⟩) NL lc) (.slice (some ⟨gV, 0, none⟩) NL vc)) { a with K := kd5 a.K NL } ((y1.alloc (.cells #[.int .i64 0, .int .i64 0, .int .i64 0] 33)).alloc (.cells #[.int .i64 0, .int .i64 0, .int .i64 0] 33)) p b S S (y1.heap.size + 1) y1.heap.size #[.int .i64 0, .int .i64 0, .int .i64 0] #[.int .i64 0, .int .i64 0, .int .i64 0]) := hid ⟨by have := G2.out; simpa using this, by have := HSZ2.out; simp; try omega⟩
          refine wpAnyH_ready (rs := [6]) (by kernel_rfl) (by simp) (AllReadyH.cons rfl (fun K hK => ?_) AllReadyH.nil)
          rw [if_pos (by rfl)]
          refine wp_store_row 33 _ _ rfl (y1.heap.size + 1) #[.int .i64 0, .int .i64 0, .int .i64 0] rfl rfl 33 _ P0.out.h7 (by kernel_rfl) rfl (by kernel_rfl) ?_
          have P1 := hid (P0.out.put7 hM #[.int .i64 0, .int .i64 0, .int .i64 0])
          refine hK.out _ _ (P1.out.act) (fun h3x => ?_)
          clear hK K
          try simp only [Act.put, lay_out]
          refine wpAnyH_ready (rs := [7]) (by kernel_rfl) (by simp) (AllReadyH.cons rfl (fun K hK => ?_) AllReadyH.nil)
          rw [if_pos (by rfl)]
          refine wp_store_row 33 _ _ rfl y1.heap.size #[.int .i64 0, .int .i64 0, .int .i64 0] rfl rfl 33 _ P1.out.h8 (by kernel_rfl) rfl (by kernel_rfl) ?_
          have P2 := hid (P1.out.put8 hM #[.int .i64 0, .int .i64 0, .int .i64 0])
          refine hK.out _ _ (P2.out.act) (fun h4x => ?_)
          clear hK K
          try simp only [Act.put, lay_out]
          refine wpAnyH_take (i := 8) (v := .int .u64 (a.C : Int)) rfl (by kernel_rfl) (by kernel_rfl) (by kernel_rfl) (fun _ _ _ h => h) (.inl ⟨by rfl, fun w hw => by clear hw; go_simp⟩) h4x ?_
          try simp only [Act.put, lay_out]
          refine wpAnyH_done (by kernel_rfl) ?_ _
          refine NoPanic.normal ?_
          clear h0 h1x h2x h3x h4x
          try simp only [Act.put, lay_out]
          go_wp2_with fail
          go_meet
          exact ⟨_, _, rfl, rfl, rfl, P2.out⟩
      case rest =>
        obtain ⟨b7, b8, rfl, rfl, rfl, hP⟩ := hcut
        have P := hid hP
        clear hP
        have x0 : wc.cell? ⟨w.heap.size + 1, 0, none⟩ = some (.int .i64 4) := by have := row_c (i := 0) (u := .int .i64 (kd5 a.K NL)) P.out.act rfl; rw [HKD.out] at this; exact this
        go_wp2_with fail
        clear x0
        have P0 := hid (P.out.self hM ((Below.refl _ wc).drew))
        refine wp_region_noPanic ?_
        refine wp_region_held_drew (S := fun w' => w'.heap[w.heap.size]? = some (.cells (paC p b (.slice (some ⟨gL, 0, none⟩) NL lc) (.slice (some ⟨gV, 0, none⟩) NL vc)) 28 (0, 0)) ∧ w'.heap[w.heap.size + 1]? = some (.cells (ac5 { a with K := kd5 a.K NL }) 38 (0, 0))) (by kernel_rfl) (⟨P0.out.pair, P0.out.act⟩) (fun h0 => ?_)
        generalize wc.drew = y2 at *
        refine wpAnyH_take (i := 0) (v := .pointer (some ⟨w.heap.size, 2, none⟩)) rfl (by kernel_rfl) (by kernel_rfl) (by kernel_rfl) (fun _ _ _ h => h) (.inl ⟨by rfl, fun w hw => by clear hw; go_simp⟩) h0 ?_
        try simp only [Act.put, lay_out]
        refine wpAnyH_take (i := 1) (v := .slice (some ⟨gL, 0, none⟩) NL lc) rfl (by kernel_rfl) (by kernel_rfl) (by kernel_rfl) (fun _ _ _ h => h) (.inl ⟨by rfl, fun w' hw => by have hc := row_c (i := 2) (u := .slice (some ⟨gL, 0, none⟩) NL lc) hw.1 rfl; clear hw; go_simp⟩) h0 ?_
        try simp only [Act.put, lay_out]
        refine wpAnyH_take (i := 2) (v := .pointer (some ⟨w.heap.size + 1, 1, none⟩)) rfl (by kernel_rfl) (by kernel_rfl) (by kernel_rfl) (fun _ _ _ h => h) (.inl ⟨by rfl, fun w hw => by clear hw; go_simp⟩) h0 ?_
        try simp only [Act.put, lay_out]
        refine wpAnyH_take (i := 3) (v := .int .i64 a.A) rfl (by kernel_rfl) (by kernel_rfl) (by kernel_rfl) (fun _ _ _ h => h) (.inl ⟨by rfl, fun w' hw => by have hc := row_c (i := 1) (u := .int .i64 a.A) hw.2 rfl; clear hw; go_simp⟩) h0 ?_
        try simp only [Act.put, lay_out]
        refine wpAnyH_take (i := 5) (v := .pointer (some ⟨w.heap.size, 2, none⟩)) rfl (by kernel_rfl) (by kernel_rfl) (by kernel_rfl) (fun _ _ _ h => h) (.inl ⟨by rfl, fun w hw => by clear hw; go_simp⟩) h0 ?_
        try simp only [Act.put, lay_out]
        refine wpAnyH_take (i := 6) (v := .slice (some ⟨gL, 0, none⟩) NL lc) rfl (by kernel_rfl) (by kernel_rfl) (by kernel_rfl) (fun _ _ _ h => h) (.inl ⟨by rfl, fun w' hw => by have hc := row_c (i := 2) (u := .slice (some ⟨gL, 0, none⟩) NL lc) hw.1 rfl; clear hw; go_simp⟩) h0 ?_
        try simp only [Act.put, lay_out]
        refine wpAnyH_take (i := 7) (v := .pointer (some ⟨w.heap.size + 1, 2, none⟩)) rfl (by kernel_rfl) (by kernel_rfl) (by kernel_rfl) (fun _ _ _ h => h) (.inl ⟨by rfl, fun w hw => by clear hw; go_simp⟩) h0 ?_
        try simp only [Act.put, lay_out]
        refine wpAnyH_take (i := 8) (v := .int .i64 a.B) rfl (by kernel_rfl) (by kernel_rfl) (by kernel_rfl) (fun _ _ _ h => h) (.inl ⟨by rfl, fun w' hw => by have hc := row_c (i := 2) (u := .int .i64 a.B) hw.2 rfl; clear hw; go_simp⟩) h0 ?_
        try simp only [Act.put, lay_out]
        refine wpAnyH_ready (rs := [4]) (by kernel_rfl) (by simp) (AllReadyH.cons rfl (fun K hK => ?_) AllReadyH.nil)
        rw [if_pos (by rfl)]
        go_simp
        go_at_call 22
        (with_reducible refine (HPA.out _).mono ?_); rintro e w5 ⟨rfl, rfl⟩
        refine hK.out _ _ (⟨P0.out.pair, P0.out.act⟩) (fun h1x => ?_)
        clear hK K
        try simp only [Act.put, lay_out]
        refine wpAnyH_ready (rs := [9]) (by kernel_rfl) (by simp) (AllReadyH.cons rfl (fun K hK => ?_) AllReadyH.nil)
        rw [if_pos (by rfl)]
        go_simp
        go_at_call 22
        (with_reducible refine (HPB.out _).mono ?_); rintro e w6 ⟨rfl, rfl⟩
        refine hK.out _ _ (⟨P0.out.pair, P0.out.act⟩) (fun h2x => ?_)
        clear hK K
        try simp only [Act.put, lay_out]
        refine wpAnyH_take (i := 10) (v := .int .i64 (iN : Int)) rfl (by kernel_rfl) (by kernel_rfl) (by kernel_rfl) (fun _ _ _ h => h) (.inl ⟨by rfl, fun w hw => by clear hw; go_simp⟩) h2x ?_
        try simp only [Act.put, lay_out]
        refine wpAnyH_take (i := 11) (v := .int .i64 (jN : Int)) rfl (by kernel_rfl) (by kernel_rfl) (by kernel_rfl) (fun _ _ _ h => h) (.inl ⟨by rfl, fun w hw => by clear hw; go_simp⟩) h2x ?_
        try simp only [Act.put, lay_out]
        refine wpAnyH_done (by kernel_rfl) ?_ _
        refine NoPanic.normal ?_
        clear h0 h1x h2x
        try simp only [Act.put, lay_out]
        have x2 := row_c (i := 2) (u := .slice (some ⟨gL, 0, none⟩) NL lc) P0.out.pair rfl
        have HRI := hid (HL.out.at_ (P0.out.keep HL.out.xl HL.out.ll) HI.out)
        go_wp2_with (refine wpList_load_mid rfl 33 (.tmp 49) rfl gL (iN * 3) rfl (wdV (WF iN)).toList _ HRI.out Try.underlying33 rfl (by kernel_rfl) ?_)
        clear x2
        have D0 := hid (P0.out.word hM (wdV (WF iN)))
        obtain ⟨b12, hb12⟩ : ∃ b12, w6.heap.size = b12 := ⟨_, rfl⟩
        obtain ⟨w7, hw7⟩ : ∃ w7, w6.alloc (.cells (wdV (WF iN)) 33) = w7 := ⟨_, rfl⟩
        rw [hw7, hb12] at D0
        try rw [hw7]
        try rw [hb12]
        clear hw7 hb12 P0 HRI
        have D1 := hid (D0.out.self hM ((Below.refl _ w7).drew))
        refine wp_region_noPanic ?_
        refine wp_region_held_drew (S := fun w' => w'.heap[w.heap.size]? = some (.cells (paC p b (.slice (some ⟨gL, 0, none⟩) NL lc) (.slice (some ⟨gV, 0, none⟩) NL vc)) 28 (0, 0)) ∧ w'.heap[w.heap.size + 1]? = some (.cells (ac5 { a with K := kd5 a.K NL }) 38 (0, 0)) ∧ w'.cell? ⟨gV, iN, none⟩ = some (.int .u64 (VF iN : Int))) (by kernel_rfl) (⟨D1.out.pair, D1.out.act, HL.out.v_ (D1.out.keep HL.out.xv HL.out.lv) HI.out⟩) (fun h0 => ?_)
        generalize w7.drew = y4 at *
        refine wpAnyH_take (i := 0) (v := .pointer (some ⟨w.heap.size, 3, none⟩)) rfl (by kernel_rfl) (by kernel_rfl) (by kernel_rfl) (fun _ _ _ h => h) (.inl ⟨by rfl, fun w hw => by clear hw; go_simp⟩) h0 ?_
        try simp only [Act.put, lay_out]
        refine wpAnyH_take (i := 1) (v := .slice (some ⟨gV, 0, none⟩) NL vc) rfl (by kernel_rfl) (by kernel_rfl) (by kernel_rfl) (fun _ _ _ h => h) (.inl ⟨by rfl, fun w' hw => by have hc := row_c (i := 3) (u := .slice (some ⟨gV, 0, none⟩) NL vc) hw.1 rfl; clear hw; go_simp⟩) h0 ?_
        try simp only [Act.put, lay_out]
        refine wpAnyH_take (i := 2) (v := .int .i64 (iN : Int)) rfl (by kernel_rfl) (by kernel_rfl) (by kernel_rfl) (fun _ _ _ h => h) (.inl ⟨by rfl, fun w hw => by clear hw; go_simp⟩) h0 ?_
        try simp only [Act.put, lay_out]
        refine wpAnyH_take (i := 3) (v := .pointer (some ⟨gV, iN, none⟩)) rfl (by kernel_rfl) (by kernel_rfl) (by kernel_rfl) (fun _ _ _ h => h) (.inl ⟨by rfl, fun w hw => by clear hw; go_simp⟩) h0 ?_
        try simp only [Act.put, lay_out]
        refine wpAnyH_take (i := 4) (v := .int .u64 (VF iN : Int)) rfl (by kernel_rfl) (by kernel_rfl) (by kernel_rfl) (fun _ _ _ h => h) (.inl ⟨by rfl, fun w' hw => by have hc := hw.2.2; clear hw; go_simp⟩) h0 ?_
        try simp only [Act.put, lay_out]
        refine wpAnyH_take (i := 5) (v := .pointer (some ⟨w.heap.size + 1, 4, none⟩)) rfl (by kernel_rfl) (by kernel_rfl) (by kernel_rfl) (fun _ _ _ h => h) (.inl ⟨by rfl, fun w hw => by clear hw; go_simp⟩) h0 ?_
        try simp only [Act.put, lay_out]
        refine wpAnyH_take (i := 6) (v := .int .u64 (a.C : Int)) rfl (by kernel_rfl) (by kernel_rfl) (by kernel_rfl) (fun _ _ _ h => h) (.inl ⟨by rfl, fun w' hw => by have hc := row_c (i := 4) (u := .int .u64 (a.C : Int)) hw.2.1 rfl; clear hw; go_simp⟩) h0 ?_
        try simp only [Act.put, lay_out]
        refine wpAnyH_take (i := 7) (v := .int .u64 (zC : Int)) rfl (by kernel_rfl) (by kernel_rfl) (by kernel_rfl) (fun _ _ _ h => h) (.inl ⟨by rfl, fun w hw => by clear hw; go_simp⟩) h0 ?_
        try simp only [Act.put, lay_out]
        refine wpAnyH_take (i := 8) (v := .int .u64 (zC : Int)) rfl (by kernel_rfl) (by kernel_rfl) (by kernel_rfl) (fun _ _ _ h => h) (.inl ⟨by rfl, fun w hw => by clear hw; go_simp⟩) h0 ?_
        try simp only [Act.put, lay_out]
        refine wpAnyH_done (by kernel_rfl) ?_ _
        refine NoPanic.normal ?_
        clear h0
        try simp only [Act.put, lay_out]
        have x0 : y4.cell? ⟨w.heap.size + 1, 0, none⟩ = some (.int .i64 4) := by have := row_c (i := 0) (u := .int .i64 (kd5 a.K NL)) D1.out.act rfl; rw [HKD.out] at this; exact this
        go_wp2_with fail
        clear x0
        have D2 := hid (D1.out.self hM ((Below.refl _ y4).drew))
        refine wp_region_noPanic ?_
        refine wp_region_held_drew (S := fun w' => w'.heap[w.heap.size]? = some (.cells (paC p b (.slice (some ⟨gL, 0, none⟩) NL lc) (.slice (some ⟨gV, 0, none⟩) NL vc)) 28 (0, 0)) ∧ w'.heap[b12]? = some (.cells (wdV (WF iN)) 33 (0, 0)) ∧ w'.cell? ⟨gV, iN, none⟩ = some (.int .u64 (VF iN : Int))) (by kernel_rfl) (⟨D2.out.pair, D2.out.h12, HL.out.v_ (D2.out.keep HL.out.xv HL.out.lv) HI.out⟩) (fun h0 => ?_)
        generalize y4.drew = y5 at *
        refine wpAnyH_take (i := 0) (v := .pointer (some ⟨w.heap.size, 0, none⟩)) rfl (by kernel_rfl) (by kernel_rfl) (by kernel_rfl) (fun _ _ _ h => h) (.inl ⟨by rfl, fun w hw => by clear hw; go_simp⟩) h0 ?_
        try simp only [Act.put, lay_out]
        refine wpAnyH_take (i := 1) (v := .pointer (some ⟨p, 0, none⟩)) rfl (by kernel_rfl) (by kernel_rfl) (by kernel_rfl) (fun _ _ _ h => h) (.inl ⟨by rfl, fun w' hw => by have hc := row_c (i := 0) (u := .pointer (some ⟨p, 0, none⟩)) hw.1 rfl; clear hw; go_simp⟩) h0 ?_
        try simp only [Act.put, lay_out]
        refine wpAnyH_take (i := 2) (v := .agg (wdV (WF iN))) rfl (by kernel_rfl) (by kernel_rfl) (by kernel_rfl) (fun _ _ _ h => h) (yields_load_row (by rfl) 33 _ rfl b12 33 (wdV (WF iN)) _ rfl (fun w h => h.2.1) Try.underlying33 rfl (by kernel_rfl)) h0 ?_
        try simp only [Act.put, lay_out]
        refine wpAnyH_take (i := 4) (v := .pointer (some ⟨w.heap.size, 1, none⟩)) rfl (by kernel_rfl) (by kernel_rfl) (by kernel_rfl) (fun _ _ _ h => h) (.inl ⟨by rfl, fun w hw => by clear hw; go_simp⟩) h0 ?_
        try simp only [Act.put, lay_out]
        refine wpAnyH_take (i := 5) (v := .pointer (some ⟨b, 0, none⟩)) rfl (by kernel_rfl) (by kernel_rfl) (by kernel_rfl) (fun _ _ _ h => h) (.inl ⟨by rfl, fun w' hw => by have hc := row_c (i := 1) (u := .pointer (some ⟨b, 0, none⟩)) hw.1 rfl; clear hw; go_simp⟩) h0 ?_
        try simp only [Act.put, lay_out]
        refine wpAnyH_take (i := 6) (v := .agg (wdV (WF iN))) rfl (by kernel_rfl) (by kernel_rfl) (by kernel_rfl) (fun _ _ _ h => h) (yields_load_row (by rfl) 33 _ rfl b12 33 (wdV (WF iN)) _ rfl (fun w h => h.2.1) Try.underlying33 rfl (by kernel_rfl)) h0 ?_
        try simp only [Act.put, lay_out]
        refine wpAnyH_take (i := 8) (v := .pointer (some ⟨w.heap.size, 3, none⟩)) rfl (by kernel_rfl) (by kernel_rfl) (by kernel_rfl) (fun _ _ _ h => h) (.inl ⟨by rfl, fun w hw => by clear hw; go_simp⟩) h0 ?_
        try simp only [Act.put, lay_out]
        refine wpAnyH_take (i := 9) (v := .slice (some ⟨gV, 0, none⟩) NL vc) rfl (by kernel_rfl) (by kernel_rfl) (by kernel_rfl) (fun _ _ _ h => h) (.inl ⟨by rfl, fun w' hw => by have hc := row_c (i := 3) (u := .slice (some ⟨gV, 0, none⟩) NL vc) hw.1 rfl; clear hw; go_simp⟩) h0 ?_
        try simp only [Act.put, lay_out]
        refine wpAnyH_take (i := 10) (v := .int .i64 (iN : Int)) rfl (by kernel_rfl) (by kernel_rfl) (by kernel_rfl) (fun _ _ _ h => h) (.inl ⟨by rfl, fun w hw => by clear hw; go_simp⟩) h0 ?_
        try simp only [Act.put, lay_out]
        refine wpAnyH_take (i := 11) (v := .pointer (some ⟨gV, iN, none⟩)) rfl (by kernel_rfl) (by kernel_rfl) (by kernel_rfl) (fun _ _ _ h => h) (.inl ⟨by rfl, fun w hw => by clear hw; go_simp⟩) h0 ?_
        try simp only [Act.put, lay_out]
        refine wpAnyH_take (i := 12) (v := .int .u64 (VF iN : Int)) rfl (by kernel_rfl) (by kernel_rfl) (by kernel_rfl) (fun _ _ _ h => h) (.inl ⟨by rfl, fun w' hw => by have hc := hw.2.2; clear hw; go_simp⟩) h0 ?_
        try simp only [Act.put, lay_out]
        refine wpAnyH_take (i := 13) (v := .int .u64 ((wnt (VF iN) : Nat) : Int)) rfl (by kernel_rfl) (by kernel_rfl) (by kernel_rfl) (fun _ _ _ h => h) (.inl ⟨by rfl, fun w hw => by clear hw; go_simp; exact hnot⟩) h0 ?_
        try simp only [Act.put, lay_out]
        refine wpAnyH_ready (rs := [3]) (by kernel_rfl) (by simp) (AllReadyH.cons rfl (fun K hK => ?_) AllReadyH.nil)
        rw [if_pos (by rfl)]
        go_simp
        go_at_call 25
        (with_reducible refine (qnot hM hS (WF iN) D2.out.g.z HQ.out HK.out HN.out HWI.out).mono ?_); rintro e w8 ⟨rfl, hz, hs⟩
        have D3 := hid (D2.out.on hz hs)
        clear hz hs
        refine hK.out _ _ (⟨D3.out.pair, D3.out.h12, HL.out.v_ (D3.out.keep HL.out.xv HL.out.lv) HI.out⟩) (fun h41x => ?_)
        clear hK K
        try simp only [Act.put, lay_out]
        refine wpAnyH_ready (rs := [7]) (by kernel_rfl) (by simp) (AllReadyH.cons rfl (fun K hK => ?_) AllReadyH.nil)
        rw [if_pos (by rfl)]
        go_simp
        go_at_call 26
        (with_reducible refine (ynot hM D3.out.g.z HQ.out HK3.out (WF iN) HWI.out).mono ?_); rintro e w9 ⟨rfl, hz, hs⟩
        have D4 := hid (D3.out.on hz hs)
        clear hz hs
        refine hK.out _ _ (⟨D4.out.pair, D4.out.h12, HL.out.v_ (D4.out.keep HL.out.xv HL.out.lv) HI.out⟩) (fun h42x => ?_)
        clear hK K
        try simp only [Act.put, lay_out]
        refine wpAnyH_ready (rs := [14]) (by kernel_rfl) (by simp) (AllReadyH.cons rfl (fun K hK => ?_) AllReadyH.nil)
        rw [if_pos (by rfl)]
        refine wp_store_row 33 _ _ rfl b7 (wdV (notR S (WF iN))) rfl rfl 33 _ D4.out.h7 (by kernel_rfl) rfl (by kernel_rfl) ?_
        have D5 := hid (D4.out.put7 hM (wdV (notR S (WF iN))))
        refine hK.out _ _ (⟨D5.out.pair, D5.out.h12, HL.out.v_ (D5.out.keep HL.out.xv HL.out.lv) HI.out⟩) (fun h43x => ?_)
        clear hK K
        try simp only [Act.put, lay_out]
        refine wpAnyH_ready (rs := [15]) (by kernel_rfl) (by simp) (AllReadyH.cons rfl (fun K hK => ?_) AllReadyH.nil)
        rw [if_pos (by rfl)]
        refine wp_store_row 33 _ _ rfl b8 (wdV (notR S (WF iN))) rfl rfl 33 _ D5.out.h8 (by kernel_rfl) rfl (by kernel_rfl) ?_
        have D6 := hid (D5.out.put8 hM (wdV (notR S (WF iN))))
        refine hK.out _ _ (⟨D6.out.pair, D6.out.h12, HL.out.v_ (D6.out.keep HL.out.xv HL.out.lv) HI.out⟩) (fun h44x => ?_)
        clear hK K
        try simp only [Act.put, lay_out]
        refine wpAnyH_take (i := 16) (v := .int .u64 ((wnt (VF iN) : Nat) : Int)) rfl (by kernel_rfl) (by kernel_rfl) (by kernel_rfl) (fun _ _ _ h => h) (.inl ⟨by rfl, fun w hw => by clear hw; go_simp⟩) h44x ?_
        try simp only [Act.put, lay_out]
        refine wpAnyH_done (by kernel_rfl) ?_ _
        refine NoPanic.normal ?_
        clear h0 h41x h42x h43x h44x
        try simp only [Act.put, lay_out]
        have P4 := hid D6.out.pb
        go_wp2_with fail
        have Q0 := hid (P4.out.self hM ((Below.refl _ ((w9.setRow b7 (wdV (notR S (WF iN)))).setRow b8 (wdV (notR S (WF iN))))).drew))
        refine wp_region_noPanic ?_
        refine wp_region_held_drew (S := fun w' => w'.heap[b7]? = some (.cells (wdV (notR S (WF iN))) 33 (0, 0)) ∧ w'.heap[b8]? = some (.cells (wdV (notR S (WF iN))) 33 (0, 0))) (by kernel_rfl) (⟨Q0.out.h7, Q0.out.h8⟩) (fun h0 => ?_)
        generalize ((w9.setRow b7 (wdV (notR S (WF iN)))).setRow b8 (wdV (notR S (WF iN)))).drew = y3 at *
        refine wpAnyH_take (i := 0) (v := .agg (wdV (notR S (WF iN)))) rfl (by kernel_rfl) (by kernel_rfl) (by kernel_rfl) (fun _ _ _ h => h) (yields_load_row (by rfl) 33 _ rfl b7 33 (wdV (notR S (WF iN))) _ rfl (fun w h => h.1) Try.underlying33 rfl (by kernel_rfl)) h0 ?_
        try simp only [Act.put, lay_out]
        refine wpAnyH_take (i := 1) (v := .int .u64 ((wnt (VF iN) : Nat) : Int)) rfl (by kernel_rfl) (by kernel_rfl) (by kernel_rfl) (fun _ _ _ h => h) (.inl ⟨by rfl, fun w hw => by clear hw; go_simp⟩) h0 ?_
        try simp only [Act.put, lay_out]
        refine wpAnyH_take (i := 2) (v := .agg (wdV (notR S (WF iN)))) rfl (by kernel_rfl) (by kernel_rfl) (by kernel_rfl) (fun _ _ _ h => h) (yields_load_row (by rfl) 33 _ rfl b7 33 (wdV (notR S (WF iN))) _ rfl (fun w h => h.1) Try.underlying33 rfl (by kernel_rfl)) h0 ?_
        try simp only [Act.put, lay_out]
        refine wpAnyH_take (i := 3) (v := .agg (wdV (notR S (WF iN)))) rfl (by kernel_rfl) (by kernel_rfl) (by kernel_rfl) (fun _ _ _ h => h) (yields_load_row (by rfl) 33 _ rfl b8 33 (wdV (notR S (WF iN))) _ rfl (fun w h => h.2) Try.underlying33 rfl (by kernel_rfl)) h0 ?_
        try simp only [Act.put, lay_out]
        refine wpAnyH_take (i := 4) (v := .bool true) rfl (by kernel_rfl) (by kernel_rfl) (by kernel_rfl) (fun _ _ _ h => h) (.inl ⟨by rfl, fun w' _ => by rw [exec_eqWd _ _ rfl (notR S (WF iN)) (notR S (WF iN)) rfl rfl]; simp⟩) h0 ?_
        try simp only [Act.put, lay_out]
        refine wpAnyH_ready (rs := [5]) (by kernel_rfl) (by simp) (AllReadyH.cons rfl (fun K hK => ?_) AllReadyH.nil)
        rw [if_pos (by rfl)]
        refine wp_store_row 33 _ _ rfl (w.heap.size + 2) (wdV (notR S (WF iN))) rfl rfl 33 _ Q0.out.h4 (by kernel_rfl) rfl (by kernel_rfl) ?_
        have Q1 := hid (Q0.out.put4 hM (wdV (notR S (WF iN))))
        refine hK.out _ _ (⟨(Q1.out.bx (b7, wdV (notR S (WF iN))) (by simp)).2, (Q1.out.bx (b8, wdV (notR S (WF iN))) (by simp)).2⟩) (fun h1x => ?_)
        clear hK K
        try simp only [Act.put, lay_out]
        refine wpAnyH_take (i := 6) (v := .int .u64 ((wnt (VF iN) : Nat) : Int)) rfl (by kernel_rfl) (by kernel_rfl) (by kernel_rfl) (fun _ _ _ h => h) (.inl ⟨by rfl, fun w hw => by clear hw; go_simp⟩) h1x ?_
        try simp only [Act.put, lay_out]
        refine wpAnyH_take (i := 7) (v := .bool true) rfl (by kernel_rfl) (by kernel_rfl) (by kernel_rfl) (fun _ _ _ h => h) (.inl ⟨by rfl, fun w hw => by clear hw; go_simp⟩) h1x ?_
        try simp only [Act.put, lay_out]
        refine wpAnyH_done (by kernel_rfl) ?_ _
        refine NoPanic.normal ?_
        clear h0 h1x
        try simp only [Act.put, lay_out]
        go_wp2
        exact ret_row_tmp2 rfl rfl (Q1.out.bx (w.heap.size + 2, wdV (notR S (WF iN))) (by simp)).2 Try.underlying33 rfl (by kernel_rfl) rfl ⟨rfl, Gz.fin5 hM HXL.out Q1.out HBW0.out⟩
set_option maxHeartbeats 12800000 in
theorem ldoe_6 {Pm : World → Nat → Ms → (Nat → Prop) → Prop} (hM : Mach Pm) (hS : ShI Pm) {lo : Nat} {X : Nat → Prop} {W w : World} {p b k : Nat} {S : Ms} (h : Bz Pm lo X W w p b S S) (hq : Bq k S) (hk : k + 10 ≤ 100000) (hn : S.n = 2 ∨ S.n = 3) (a : Ac5) (gL gV NL lc vc : Nat) (hC : a.C < 2 ^ 64) (WF : Nat → Nat → Int) (VF : Nat → Nat) (hl : Lv w X NL gL gV WF VF) (hN0 : 0 < NL) (hNl : NL ≤ 1000000) (iN jN : Nat) (hiN : pkN a.A NL = iN) (hjN : pkN a.B NL = jN) (hkd : kd5 a.K NL = 6) :
    Calls Try.prog 7 #[.agg (paC p b (.slice (some ⟨gL, 0, none⟩) NL lc) (.slice (some ⟨gV, 0, none⟩) NL vc)), .agg (ac5 a)] w fun e w' => e = .returned (.tuple #[.agg (wdV (addR S 3 (WF iN) a.C)), .int .u64 ((VF iN ^^^ a.C : Nat) : Int), .bool true]) ∧ Bz Pm lo X W w' p b (addS S 3 (WF iN) a.C) (addS S 3 (WF iN) a.C) ∧ ∀ k, X k → w'.heap[k]? = w.heap[k]? := by
  have hi := pkN_lt a.A hN0
  have hj := pkN_lt a.B hN0
  rw [hiN] at hi
  rw [hjN] at hj
  have HPA := hid (fun (w' : World) => lpick_any (some ⟨gL, 0, none⟩) NL lc a.A w' hN0 hNl)
  have HPB := hid (fun (w' : World) => lpick_any (some ⟨gL, 0, none⟩) NL lc a.B w' hN0 hNl)
  rw [hiN] at HPA
  rw [hjN] at HPB
  have HI := hid hi
  have HJ := hid hj
  have HL := hid hl
  have i0 : (0 : Int) ≤ (iN : Int) := by omega
  have i1 : (iN : Int) < (NL : Int) := by omega
  have j0 : (0 : Int) ≤ (jN : Int) := by omega
  have j1 : (jN : Int) < (NL : Int) := by omega
  have HVI := hid (hl.vb iN hi)
  have HVJ := hid (hl.vb jN hj)
  have HWI := hid (hl.wb iN hi)
  have HWJ := hid (hl.wb jN hj)
  have hxv := wx64 (hl.vb iN hi) hC
  have hxw := wx64 (hl.vb iN hi) (hl.vb jN hj)
  generalize hgx : VF iN ^^^ a.C = zC at *
  have HGX := hid hgx
  clear hiN hjN hi hj hl hN0 hNl hgx
  have HQ := hid hq
  have HK := hid hk
  have HK3 : Hid (k + 3 ≤ 100000) := hid (by omega)
  have HN := hid hn
  have HC := hid hC
  have HKD := hid hkd
  have HXL : Hid (∀ k, X k → k < w.heap.size) := hid (by
    obtain ⟨F, G, ov, bv, vv, tv, h1, h2, h3, h4, h5, h6, h7⟩ := h
    exact fun k hk => (h4 k hk).1)
  have HBW0 : Hid (Below w.heap.size w ((w.alloc (.cells (paC p b (.slice (some ⟨gL, 0, none⟩) NL lc) (.slice (some ⟨gV, 0, none⟩) NL vc)) 28)).alloc (.cells (ac5 { a with K := kd5 a.K NL }) 38))) := hid (((Below.refl _ _).alloc (Nat.le_refl _) _).alloc (by simp) _)
  have HI3 : Hid (I64 3) := hid (i64c 3 (by decide) (by decide))
  have HI4 : Hid (I64 4) := hid (i64c 4 (by decide) (by decide))
  clear hq hk hn hC hkd
  have HE0 : Hid (∀ wx bs, Gz Pm lo (fun k => X k ∨ k = w.heap.size ∨ k = w.heap.size + 1) W ((w.alloc (.cells (paC p b (.slice (some ⟨gL, 0, none⟩) NL lc) (.slice (some ⟨gV, 0, none⟩) NL vc)) 28)).alloc (.cells (ac5 { a with K := kd5 a.K NL }) 38)) wx p b S S bs → wx.heap[w.heap.size + 1]? = some (.cells (ac5 { a with K := kd5 a.K NL }) 38 (0, 0))) := hid (fun wx bs hg => (hg.st _ (.inr (.inr rfl))).2.trans (by have := heap_alloc_new (w.alloc (.cells (paC p b (.slice (some ⟨gL, 0, none⟩) NL lc) (.slice (some ⟨gV, 0, none⟩) NL vc)) 28)) (.cells (ac5 { a with K := kd5 a.K NL }) 38); rw [show (w.alloc (.cells (paC p b (.slice (some ⟨gL, 0, none⟩) NL lc) (.slice (some ⟨gV, 0, none⟩) NL vc)) 28)).heap.size = w.heap.size + 1 by simp] at this; exact this))
  obtain ⟨w1, hw1⟩ : ∃ w1, ((w.alloc (.cells (paC p b (.slice (some ⟨gL, 0, none⟩) NL lc) (.slice (some ⟨gV, 0, none⟩) NL vc)) 28)).alloc (.cells (ac5 a) 38)).alloc (.cells #[.int .i64 0, .int .i64 0, .int .i64 0] 33) = w1 := ⟨_, rfl⟩
  have HB1 : Hid (Below w.heap.size w w1) := hid (by rw [← hw1]; exact (((Below.refl _ _).alloc (Nat.le_refl _) _).alloc (by simp) _).alloc (by simp; try omega) _)
  have HS1 : Hid (w1.heap.size = w.heap.size + 3) := hid (by rw [← hw1]; simp)
  have HX0 : Hid (w1.heap[w.heap.size]? = some (.cells (paC p b (.slice (some ⟨gL, 0, none⟩) NL lc) (.slice (some ⟨gV, 0, none⟩) NL vc)) 28 (0, 0))) := hid (by rw [← hw1]; exact (heap_alloc_old _ _ (by simp; try omega)).trans ((heap_alloc_old _ _ (by simp)).trans (heap_alloc_new _ _)))
  have HX1 : Hid (w1.heap[w.heap.size + 1]? = some (.cells (ac5 a) 38 (0, 0))) := hid (by rw [← hw1]; refine (heap_alloc_old _ _ (by simp)).trans ?_; have := heap_alloc_new (w.alloc (.cells (paC p b (.slice (some ⟨gL, 0, none⟩) NL lc) (.slice (some ⟨gV, 0, none⟩) NL vc)) 28)) (.cells (ac5 a) 38); rw [show (w.alloc (.cells (paC p b (.slice (some ⟨gL, 0, none⟩) NL lc) (.slice (some ⟨gV, 0, none⟩) NL vc)) 28)).heap.size = w.heap.size + 1 by simp] at this; exact this)
  have HX2 : Hid (w1.heap[w.heap.size + 2]? = some (.cells #[.int .i64 0, .int .i64 0, .int .i64 0] 33 (0, 0))) := hid (by rw [← hw1]; have := heap_alloc_new ((w.alloc (.cells (paC p b (.slice (some ⟨gL, 0, none⟩) NL lc) (.slice (some ⟨gV, 0, none⟩) NL vc)) 28)).alloc (.cells (ac5 a) 38)) (.cells #[.int .i64 0, .int .i64 0, .int .i64 0] 33); rw [show ((w.alloc (.cells (paC p b (.slice (some ⟨gL, 0, none⟩) NL lc) (.slice (some ⟨gV, 0, none⟩) NL vc)) 28)).alloc (.cells (ac5 a) 38)).heap.size = w.heap.size + 2 by simp] at this; exact this)
  have HW1 := hid hw1
  have H := hid h
  clear h hw1
  go_enter Try.func7, Try.ntmps7
  go_upto_region 1 with fail
  rw [HW1.out]
  go_cut [28] from 15 to 28 (fun q wx => q = .bool (decide (a.K < 0 ∨ (NL = 0 ∧ 2 < a.K))) ∧ w1 = wx)
  case first =>
    have x2 := row_c (i := 2) (u := .slice (some ⟨gL, 0, none⟩) NL lc) HX0.out rfl
    have x0 := row_c (i := 0) (u := .int .i64 a.K) HX1.out rfl
    by_cases f1 : a.K < 0
    · have hd : decide (a.K < 0 ∨ (NL = 0 ∧ 2 < a.K)) = true := decide_eq_true (.inl f1)
      have q1 : decide (a.K < 0) = true := decide_eq_true f1
      have HD := hid hd
      clear hd
      go_wp2
      go_meet
      exact ⟨by rw [HD.out], rfl⟩
    · have q1 : decide (a.K < 0) = false := decide_eq_false f1
      by_cases f2 : NL = 0
      · have e2 : ((NL : Int) == 0) = true := by simp [f2]
        by_cases f3 : 2 < a.K
        · have hd : decide (a.K < 0 ∨ (NL = 0 ∧ 2 < a.K)) = true := decide_eq_true (.inr ⟨f2, f3⟩)
          have q3 : decide (2 < a.K) = true := decide_eq_true f3
          clear f2
          have HD := hid hd
          clear hd
          go_wp2
          go_meet
          exact ⟨by rw [HD.out], rfl⟩
        · have hd : decide (a.K < 0 ∨ (NL = 0 ∧ 2 < a.K)) = false := decide_eq_false (by omega)
          have q3 : decide (2 < a.K) = false := decide_eq_false f3
          clear f2
          have HD := hid hd
          clear hd
          go_wp2
          go_meet
          exact ⟨by rw [HD.out], rfl⟩
      · have e2 : ((NL : Int) == 0) = false := by simp [f2]
        have hd : decide (a.K < 0 ∨ (NL = 0 ∧ 2 < a.K)) = false := decide_eq_false (by omega)
        have HD := hid hd
        clear hd
        go_wp2
        go_meet
        exact ⟨by rw [HD.out], rfl⟩
  case rest =>
    obtain ⟨rfl, rfl⟩ := hcut
    obtain ⟨cb, hcb⟩ : ∃ cb, decide (a.K < 0 ∨ (NL = 0 ∧ 2 < a.K)) = cb := ⟨_, rfl⟩
    rw [hcb]
    have HCB := hid hcb
    clear hcb
    go_upto_if 28 with fail
    go_cut [29] from 29 to 29 (fun q wx => wx.heap.size = w.heap.size + 3 ∧ Below w.heap.size w wx ∧ wx.heap[w.heap.size]? = some (.cells (paC p b (.slice (some ⟨gL, 0, none⟩) NL lc) (.slice (some ⟨gV, 0, none⟩) NL vc)) 28 (0, 0)) ∧ wx.heap[w.heap.size + 1]? = some (.cells (ac5 { a with K := kd5 a.K NL }) 38 (0, 0)) ∧ wx.heap[w.heap.size + 2]? = some (.cells #[.int .i64 0, .int .i64 0, .int .i64 0] 33 (0, 0)))
    case first =>
      cases cb
      · have hk0 : kd5 a.K NL = a.K := if_neg (of_decide_eq_false HCB.out)
        have HK0 := hid hk0
        clear hk0
        go_wp2
        go_meet
        rw [HK0.out]
        exact ⟨HS1.out, HB1.out, HX0.out, HX1.out, HX2.out⟩
      · have hk0 : kd5 a.K NL = 1 := if_pos (of_decide_eq_true HCB.out)
        have HK0 := hid hk0
        have x0 := row_c (i := 0) (u := .int .i64 a.K) HX1.out rfl
        have f0 := frozen_of_row w1 (w.heap.size + 1) 0 _ _ HX1.out
        clear hk0
        go_wp2
        go_meet
        rw [HK0.out]
        refine ⟨by simp [World.setCell]; exact HS1.out, below_set HB1.out (by omega) 0 _, (heap_setCell_other w1 ⟨w.heap.size + 1, 0, none⟩ _ _ (by simp)).trans HX0.out, ?_, (heap_setCell_other w1 ⟨w.heap.size + 1, 0, none⟩ _ _ (by simp)).trans HX2.out⟩
        rw [heap_setCell_same w1 (w.heap.size + 1) 0 _ 38 _ HX1.out]
        rfl
    case rest =>
      obtain ⟨hsz, hbw, e0, e1, e2⟩ := hcut
      have HSZ := hid hsz
      have G0 := hid (Gz.begins hM H.out hbw hsz _ _ e0 e1 e2)
      clear hsz hbw e0 e1 e2
      obtain ⟨wB, hwB⟩ : ∃ wB, wc = wB := ⟨_, rfl⟩
      subst hwB
      go_upto_region 3 with fail
      go_cut [7, 8, 9] from 30 to 33 (fun p7 p8 p9 wx => ∃ b7 b8, p7 = .pointer (some ⟨b7, 0, none⟩) ∧ p8 = .pointer (some ⟨b8, 0, none⟩) ∧ p9 = .int .u64 (a.C : Int) ∧ Pb Pm lo X W w (paC p b (.slice (some ⟨gL, 0, none⟩) NL lc) (.slice (some ⟨gV, 0, none⟩) NL vc)) { a with K := kd5 a.K NL } wx p b S S b7 b8 #[.int .i64 0, .int .i64 0, .int .i64 0] #[.int .i64 0, .int .i64 0, .int .i64 0])
      case first =>
        have Y0 := hid (G0.out.self hM ((Below.refl _ wc).drew))
        refine wp_region_noPanic ?_
        refine wp_region_held_drew (S := fun w' => w'.heap[w.heap.size + 1]? = some (.cells (ac5 { a with K := kd5 a.K NL }) 38 (0, 0))) (by kernel_rfl) ((HE0.out _ _ Y0.out)) (fun h0 => ?_)
        have HSZ2 : Hid (wc.drew.heap.size = w.heap.size + 3) := hid HSZ.out
        generalize wc.drew = y1 at *
        refine wpAnyH_take (i := 0) (v := .agg #[.int .i64 0, .int .i64 0, .int .i64 0]) rfl (by kernel_rfl) (by kernel_rfl) (by kernel_rfl) (fun _ _ _ h => h) (.inl ⟨by rfl, fun w hw => by clear hw; go_simp⟩) h0 ?_
        try simp only [Act.put, lay_out]
        refine wpAnyH_take (i := 1) (v := .agg #[.int .i64 0, .int .i64 0, .int .i64 0]) rfl (by kernel_rfl) (by kernel_rfl) (by kernel_rfl) (fun _ _ _ h => h) (.inl ⟨by rfl, fun w hw => by clear hw; go_simp⟩) h0 ?_
        try simp only [Act.put, lay_out]
        refine wpAnyH_take (i := 2) (v := .pointer (some ⟨w.heap.size + 1, 4, none⟩)) rfl (by kernel_rfl) (by kernel_rfl) (by kernel_rfl) (fun _ _ _ h => h) (.inl ⟨by rfl, fun w hw => by clear hw; go_simp⟩) h0 ?_
        try simp only [Act.put, lay_out]
        refine wpAnyH_take (i := 3) (v := .int .u64 (a.C : Int)) rfl (by kernel_rfl) (by kernel_rfl) (by kernel_rfl) (fun _ _ _ h => h) (.inl ⟨by rfl, fun w' hw => by have hc := row_c (i := 4) (u := .int .u64 (a.C : Int)) hw rfl; clear hw; go_simp⟩) h0 ?_
        try simp only [Act.put, lay_out]
        refine wpAnyH_ready (rs := [4, 5]) (by kernel_rfl) (by simp) (AllReadyH.cons rfl (fun K hK => ?_) (AllReadyH.cons rfl (fun K hK => ?_) AllReadyH.nil))
        · rw [if_pos (by rfl)]
          go_simp
          have G1 := hid (Y0.out.box hM (by have := HSZ2.out; simp; omega) #[.int .i64 0, .int .i64 0, .int .i64 0])
          refine hK.out _ _ (HE0.out _ _ G1.out) (fun h1x => ?_)
          clear hK K
          try simp only [Act.put, lay_out]
          refine wpAnyH_ready (rs := [5]) (by kernel_rfl) (by simp) (AllReadyH.cons rfl (fun K hK => ?_) AllReadyH.nil)
          rw [if_pos (by rfl)]
          go_simp
          have G2 := hid (G1.out.box hM (by have := HSZ2.out; simp; omega) #[.int .i64 0, .int .i64 0, .int .i64 0])
          refine hK.out _ _ (HE0.out _ _ G2.out) (fun h2x => ?_)
          clear hK K
          try simp only [Act.put, lay_out]
          have P0 : Hid (Pb Pm lo X W w (paC p b (.slice (some ⟨gL, 0, none⟩) NL lc) (.slice (some ⟨gV, 0, none⟩) NL vc)) { a with K := kd5 a.K NL } ((y1.alloc (.cells #[.int .i64 0, .int .i64 0, .int .i64 0] 33)).alloc (.cells #[.int .i64 0, .int .i64 0, .int .i64 0] 33)) p b S S y1.heap.size (y1.heap.size + 1) #[.int .i64 0, .int .i64 0, .int .i64 0] #[.int .i64 0, .int .i64 0, .int .i64 0]) := hid ⟨by have := G2.out.swap (bs' := [(y1.heap.size, #[.int .i64 0, .int .i64 0, .int .i64 0]), ((y1.alloc (.cells #[.int .i64 0, .int .i64 0, .int .i64 0] 33)).heap.size, #[.int .i64 0, .int .i64 0, .int .i64 0]), (w.heap.size + 2, #[.int .i64 0, .int .i64 0, .int .i64 0])]) (by intro q hq; simp at hq ⊢; rcases hq with rfl | rfl | rfl <;> simp); simpa using this, by have := HSZ2.out; simp; try omega⟩
          refine wpAnyH_ready (rs := [6]) (by kernel_rfl) (by simp) (AllReadyH.cons rfl (fun K hK => ?_) AllReadyH.nil)
          rw [if_pos (by rfl)]
          refine wp_store_row 33 _ _ rfl y1.heap.size #[.int .i64 0, .int .i64 0, .int .i64 0] rfl rfl 33 _ P0.out.h7 (by kernel_rfl) rfl (by kernel_rfl) ?_
          have P1 := hid (P0.out.put7 hM #[.int .i64 0, .int .i64 0, .int .i64 0])
          refine hK.out _ _ (P1.out.act) (fun h3x => ?_)
          clear hK K
          try simp only [Act.put, lay_out]
          refine wpAnyH_ready (rs := [7]) (by kernel_rfl) (by simp) (AllReadyH.cons rfl (fun K hK => ?_) AllReadyH.nil)
          rw [if_pos (by rfl)]
          refine wp_store_row 33 _ _ rfl (y1.heap.size + 1) #[.int .i64 0, .int .i64 0, .int .i64 0] rfl rfl 33 _ P1.out.h8 (by kernel_rfl) rfl (by kernel_rfl) ?_
          have P2 := hid (P1.out.put8 hM #[.int .i64 0, .int .i64 0, .int .i64 0])
          refine hK.out _ _ (P2.out.act) (fun h4x => ?_)
          clear hK K
          try simp only [Act.put, lay_out]
          refine wpAnyH_take (i := 8) (v := .int .u64 (a.C : Int)) rfl (by kernel_rfl) (by kernel_rfl) (by kernel_rfl) (fun _ _ _ h => h) (.inl ⟨by rfl, fun w hw => by clear hw; go_simp⟩) h4x ?_
          try simp only [Act.put, lay_out]
          refine wpAnyH_done (by kernel_rfl) ?_ _
          refine NoPanic.normal ?_
          clear h0 h1x h2x h3x h4x
          try simp only [Act.put, lay_out]
          go_wp2_with fail
          go_meet
          exact ⟨_, _, rfl, rfl, rfl, P2.out⟩
        · rw [if_pos (by rfl)]
          go_simp
          have G1 := hid (Y0.out.box hM (by have := HSZ2.out; simp; omega) #[.int .i64 0, .int .i64 0, .int .i64 0])
          refine hK.out _ _ (HE0.out _ _ G1.out) (fun h1x => ?_)
          clear hK K
          try simp only [Act.put, lay_out]
          refine wpAnyH_ready (rs := [4]) (by kernel_rfl) (by simp) (AllReadyH.cons rfl (fun K hK => ?_) AllReadyH.nil)
          rw [if_pos (by rfl)]
          go_simp
          have G2 := hid (G1.out.box hM (by have := HSZ2.out; simp; omega) #[.int .i64 0, .int .i64 0, .int .i64 0])
          refine hK.out _ _ (HE0.out _ _ G2.out) (fun h2x => ?_)
          clear hK K
          try simp only [Act.put, lay_out]
          have P0 : Hid (Pb Pm lo X W w (paC p b (.slice (some ⟨gL, 0, none⟩) NL lc) (.slice (some ⟨gV, 0, none⟩) NL vc)) { a with K := kd5 a.K NL } ((y1.alloc (.cells #[.int .i64 0, .int .i64 0, .int .i64 0] 33)).alloc (.cells #[.int .i64 0, .int .i64 0, .int .i64 0] 33)) p b S S (y1.heap.size + 1) y1.heap.size #[.int .i64 0, .int .i64 0, .int .i64 0] #[.int .i64 0, .int .i64 0, .int .i64 0]) := hid ⟨by have := G2.out; simpa using this, by have := HSZ2.out; simp; try omega⟩
          refine wpAnyH_ready (rs := [6]) (by kernel_rfl) (by simp) (AllReadyH.cons rfl (fun K hK => ?_) AllReadyH.nil)
          rw [if_pos (by rfl)]
          refine wp_store_row 33 _ _ rfl (y1.heap.size + 1) #[.int .i64 0, .int .i64 0, .int .i64 0] rfl rfl 33 _ P0.out.h7 (by kernel_rfl) rfl (by kernel_rfl) ?_
          have P1 := hid (P0.out.put7 hM #[.int .i64 0, .int .i64 0, .int .i64 0])
          refine hK.out _ _ (P1.out.act) (fun h3x => ?_)
          clear hK K
          try simp only [Act.put, lay_out]
          refine wpAnyH_ready (rs := [7]) (by kernel_rfl) (by simp) (AllReadyH.cons rfl (fun K hK => ?_) AllReadyH.nil)
          rw [if_pos (by rfl)]
          refine wp_store_row 33 _ _ rfl y1.heap.size #[.int .i64 0, .int .i64 0, .int .i64 0] rfl rfl 33 _ P1.out.h8 (by kernel_rfl) rfl (by kernel_rfl) ?_
          have P2 := hid (P1.out.put8 hM #[.int .i64 0, .int .i64 0, .int .i64 0])
          refine hK.out _ _ (P2.out.act) (fun h4x => ?_)
          clear hK K
          try simp only [Act.put, lay_out]
          refine wpAnyH_take (i := 8) (v := .int .u64 (a.C : Int)) rfl (by kernel_rfl) (by kernel_rfl) (by kernel_rfl) (fun _ _ _ h => h) (.inl ⟨by rfl, fun w hw => by clear hw; go_simp⟩) h4x ?_
          try simp only [Act.put, lay_out]
          refine wpAnyH_done (by kernel_rfl) ?_ _
          refine NoPanic.normal ?_
          clear h0 h1x h2x h3x h4x
          try simp only [Act.put, lay_out]
          go_wp2_with fail
          go_meet
          exact ⟨_, _, rfl, rfl, rfl, P2.out⟩
      case rest =>
        obtain ⟨b7, b8, rfl, rfl, rfl, hP⟩ := hcut
        have P := hid hP
        clear hP
        have x0 : wc.cell? ⟨w.heap.size + 1, 0, none⟩ = some (.int .i64 6) := by have := row_c (i := 0) (u := .int .i64 (kd5 a.K NL)) P.out.act rfl; rw [HKD.out] at this; exact this
        go_wp2_with fail
        clear x0
        have P0 := hid (P.out.self hM ((Below.refl _ wc).drew))
        refine wp_region_noPanic ?_
        refine wp_region_held_drew (S := fun w' => w'.heap[w.heap.size]? = some (.cells (paC p b (.slice (some ⟨gL, 0, none⟩) NL lc) (.slice (some ⟨gV, 0, none⟩) NL vc)) 28 (0, 0)) ∧ w'.heap[w.heap.size + 1]? = some (.cells (ac5 { a with K := kd5 a.K NL }) 38 (0, 0))) (by kernel_rfl) (⟨P0.out.pair, P0.out.act⟩) (fun h0 => ?_)
        generalize wc.drew = y2 at *
        refine wpAnyH_take (i := 0) (v := .pointer (some ⟨w.heap.size, 2, none⟩)) rfl (by kernel_rfl) (by kernel_rfl) (by kernel_rfl) (fun _ _ _ h => h) (.inl ⟨by rfl, fun w hw => by clear hw; go_simp⟩) h0 ?_
        try simp only [Act.put, lay_out]
        refine wpAnyH_take (i := 1) (v := .slice (some ⟨gL, 0, none⟩) NL lc) rfl (by kernel_rfl) (by kernel_rfl) (by kernel_rfl) (fun _ _ _ h => h) (.inl ⟨by rfl, fun w' hw => by have hc := row_c (i := 2) (u := .slice (some ⟨gL, 0, none⟩) NL lc) hw.1 rfl; clear hw; go_simp⟩) h0 ?_
        try simp only [Act.put, lay_out]
        refine wpAnyH_take (i := 2) (v := .pointer (some ⟨w.heap.size + 1, 1, none⟩)) rfl (by kernel_rfl) (by kernel_rfl) (by kernel_rfl) (fun _ _ _ h => h) (.inl ⟨by rfl, fun w hw => by clear hw; go_simp⟩) h0 ?_
        try simp only [Act.put, lay_out]
        refine wpAnyH_take (i := 3) (v := .int .i64 a.A) rfl (by kernel_rfl) (by kernel_rfl) (by kernel_rfl) (fun _ _ _ h => h) (.inl ⟨by rfl, fun w' hw => by have hc := row_c (i := 1) (u := .int .i64 a.A) hw.2 rfl; clear hw; go_simp⟩) h0 ?_
        try simp only [Act.put, lay_out]
        refine wpAnyH_take (i := 5) (v := .pointer (some ⟨w.heap.size, 2, none⟩)) rfl (by kernel_rfl) (by kernel_rfl) (by kernel_rfl) (fun _ _ _ h => h) (.inl ⟨by rfl, fun w hw => by clear hw; go_simp⟩) h0 ?_
        try simp only [Act.put, lay_out]
        refine wpAnyH_take (i := 6) (v := .slice (some ⟨gL, 0, none⟩) NL lc) rfl (by kernel_rfl) (by kernel_rfl) (by kernel_rfl) (fun _ _ _ h => h) (.inl ⟨by rfl, fun w' hw => by have hc := row_c (i := 2) (u := .slice (some ⟨gL, 0, none⟩) NL lc) hw.1 rfl; clear hw; go_simp⟩) h0 ?_
        try simp only [Act.put, lay_out]
        refine wpAnyH_take (i := 7) (v := .pointer (some ⟨w.heap.size + 1, 2, none⟩)) rfl (by kernel_rfl) (by kernel_rfl) (by kernel_rfl) (fun _ _ _ h => h) (.inl ⟨by rfl, fun w hw => by clear hw; go_simp⟩) h0 ?_
        try simp only [Act.put, lay_out]
        refine wpAnyH_take (i := 8) (v := .int .i64 a.B) rfl (by kernel_rfl) (by kernel_rfl) (by kernel_rfl) (fun _ _ _ h => h) (.inl ⟨by rfl, fun w' hw => by have hc := row_c (i := 2) (u := .int .i64 a.B) hw.2 rfl; clear hw; go_simp⟩) h0 ?_
        try simp only [Act.put, lay_out]
        refine wpAnyH_ready (rs := [4]) (by kernel_rfl) (by simp) (AllReadyH.cons rfl (fun K hK => ?_) AllReadyH.nil)
        rw [if_pos (by rfl)]
        go_simp
        go_at_call 22
        (with_reducible refine (HPA.out _).mono ?_); rintro e w5 ⟨rfl, rfl⟩
        refine hK.out _ _ (⟨P0.out.pair, P0.out.act⟩) (fun h1x => ?_)
        clear hK K
        try simp only [Act.put, lay_out]
        refine wpAnyH_ready (rs := [9]) (by kernel_rfl) (by simp) (AllReadyH.cons rfl (fun K hK => ?_) AllReadyH.nil)
        rw [if_pos (by rfl)]
        go_simp
        go_at_call 22
        (with_reducible refine (HPB.out _).mono ?_); rintro e w6 ⟨rfl, rfl⟩
        refine hK.out _ _ (⟨P0.out.pair, P0.out.act⟩) (fun h2x => ?_)
        clear hK K
        try simp only [Act.put, lay_out]
        refine wpAnyH_take (i := 10) (v := .int .i64 (iN : Int)) rfl (by kernel_rfl) (by kernel_rfl) (by kernel_rfl) (fun _ _ _ h => h) (.inl ⟨by rfl, fun w hw => by clear hw; go_simp⟩) h2x ?_
        try simp only [Act.put, lay_out]
        refine wpAnyH_take (i := 11) (v := .int .i64 (jN : Int)) rfl (by kernel_rfl) (by kernel_rfl) (by kernel_rfl) (fun _ _ _ h => h) (.inl ⟨by rfl, fun w hw => by clear hw; go_simp⟩) h2x ?_
        try simp only [Act.put, lay_out]
        refine wpAnyH_done (by kernel_rfl) ?_ _
        refine NoPanic.normal ?_
        clear h0 h1x h2x
        try simp only [Act.put, lay_out]
        have x2 := row_c (i := 2) (u := .slice (some ⟨gL, 0, none⟩) NL lc) P0.out.pair rfl
        have HRI := hid (HL.out.at_ (P0.out.keep HL.out.xl HL.out.ll) HI.out)
        go_wp2_with (refine wpList_load_mid rfl 33 (.tmp 49) rfl gL (iN * 3) rfl (wdV (WF iN)).toList _ HRI.out Try.underlying33 rfl (by kernel_rfl) ?_)
        clear x2
        have D0 := hid (P0.out.word hM (wdV (WF iN)))
        obtain ⟨b12, hb12⟩ : ∃ b12, w6.heap.size = b12 := ⟨_, rfl⟩
        obtain ⟨w7, hw7⟩ : ∃ w7, w6.alloc (.cells (wdV (WF iN)) 33) = w7 := ⟨_, rfl⟩
        rw [hw7, hb12] at D0
        try rw [hw7]
        try rw [hb12]
        clear hw7 hb12 P0 HRI
        have D1 := hid (D0.out.self hM ((Below.refl _ w7).drew))
        refine wp_region_noPanic ?_
        refine wp_region_held_drew (S := fun w' => w'.heap[w.heap.size]? = some (.cells (paC p b (.slice (some ⟨gL, 0, none⟩) NL lc) (.slice (some ⟨gV, 0, none⟩) NL vc)) 28 (0, 0)) ∧ w'.heap[w.heap.size + 1]? = some (.cells (ac5 { a with K := kd5 a.K NL }) 38 (0, 0)) ∧ w'.cell? ⟨gV, iN, none⟩ = some (.int .u64 (VF iN : Int))) (by kernel_rfl) (⟨D1.out.pair, D1.out.act, HL.out.v_ (D1.out.keep HL.out.xv HL.out.lv) HI.out⟩) (fun h0 => ?_)
        generalize w7.drew = y4 at *
        refine wpAnyH_take (i := 0) (v := .pointer (some ⟨w.heap.size, 3, none⟩)) rfl (by kernel_rfl) (by kernel_rfl) (by kernel_rfl) (fun _ _ _ h => h) (.inl ⟨by rfl, fun w hw => by clear hw; go_simp⟩) h0 ?_
        try simp only [Act.put, lay_out]
        refine wpAnyH_take (i := 1) (v := .slice (some ⟨gV, 0, none⟩) NL vc) rfl (by kernel_rfl) (by kernel_rfl) (by kernel_rfl) (fun _ _ _ h => h) (.inl ⟨by rfl, fun w' hw => by have hc := row_c (i := 3) (u := .slice (some ⟨gV, 0, none⟩) NL vc) hw.1 rfl; clear hw; go_simp⟩) h0 ?_
        try simp only [Act.put, lay_out]
        refine wpAnyH_take (i := 2) (v := .int .i64 (iN : Int)) rfl (by kernel_rfl) (by kernel_rfl) (by kernel_rfl) (fun _ _ _ h => h) (.inl ⟨by rfl, fun w hw => by clear hw; go_simp⟩) h0 ?_
        try simp only [Act.put, lay_out]
        refine wpAnyH_take (i := 3) (v := .pointer (some ⟨gV, iN, none⟩)) rfl (by kernel_rfl) (by kernel_rfl) (by kernel_rfl) (fun _ _ _ h => h) (.inl ⟨by rfl, fun w hw => by clear hw; go_simp⟩) h0 ?_
        try simp only [Act.put, lay_out]
        refine wpAnyH_take (i := 4) (v := .int .u64 (VF iN : Int)) rfl (by kernel_rfl) (by kernel_rfl) (by kernel_rfl) (fun _ _ _ h => h) (.inl ⟨by rfl, fun w' hw => by have hc := hw.2.2; clear hw; go_simp⟩) h0 ?_
        try simp only [Act.put, lay_out]
        refine wpAnyH_take (i := 5) (v := .pointer (some ⟨w.heap.size + 1, 4, none⟩)) rfl (by kernel_rfl) (by kernel_rfl) (by kernel_rfl) (fun _ _ _ h => h) (.inl ⟨by rfl, fun w hw => by clear hw; go_simp⟩) h0 ?_
        try simp only [Act.put, lay_out]
        refine wpAnyH_take (i := 6) (v := .int .u64 (a.C : Int)) rfl (by kernel_rfl) (by kernel_rfl) (by kernel_rfl) (fun _ _ _ h => h) (.inl ⟨by rfl, fun w' hw => by have hc := row_c (i := 4) (u := .int .u64 (a.C : Int)) hw.2.1 rfl; clear hw; go_simp⟩) h0 ?_
        try simp only [Act.put, lay_out]
        refine wpAnyH_take (i := 7) (v := .int .u64 (zC : Int)) rfl (by kernel_rfl) (by kernel_rfl) (by kernel_rfl) (fun _ _ _ h => h) (.inl ⟨by rfl, fun w hw => by clear hw; go_simp⟩) h0 ?_
        try simp only [Act.put, lay_out]
        refine wpAnyH_take (i := 8) (v := .int .u64 (zC : Int)) rfl (by kernel_rfl) (by kernel_rfl) (by kernel_rfl) (fun _ _ _ h => h) (.inl ⟨by rfl, fun w hw => by clear hw; go_simp⟩) h0 ?_
        try simp only [Act.put, lay_out]
        refine wpAnyH_done (by kernel_rfl) ?_ _
        refine NoPanic.normal ?_
        clear h0
        try simp only [Act.put, lay_out]
        have x0 : y4.cell? ⟨w.heap.size + 1, 0, none⟩ = some (.int .i64 6) := by have := row_c (i := 0) (u := .int .i64 (kd5 a.K NL)) D1.out.act rfl; rw [HKD.out] at this; exact this
        go_wp2_with fail
        clear x0
        have D2 := hid (D1.out.self hM ((Below.refl _ y4).drew))
        refine wp_region_noPanic ?_
        refine wp_region_held_drew (S := fun w' => w'.heap[w.heap.size]? = some (.cells (paC p b (.slice (some ⟨gL, 0, none⟩) NL lc) (.slice (some ⟨gV, 0, none⟩) NL vc)) 28 (0, 0)) ∧ w'.heap[w.heap.size + 1]? = some (.cells (ac5 { a with K := kd5 a.K NL }) 38 (0, 0)) ∧ w'.heap[b12]? = some (.cells (wdV (WF iN)) 33 (0, 0))) (by kernel_rfl) (⟨D2.out.pair, D2.out.act, D2.out.h12⟩) (fun h0 => ?_)
        generalize y4.drew = y5 at *
        refine wpAnyH_take (i := 0) (v := .pointer (some ⟨w.heap.size, 0, none⟩)) rfl (by kernel_rfl) (by kernel_rfl) (by kernel_rfl) (fun _ _ _ h => h) (.inl ⟨by rfl, fun w hw => by clear hw; go_simp⟩) h0 ?_
        try simp only [Act.put, lay_out]
        refine wpAnyH_take (i := 1) (v := .pointer (some ⟨p, 0, none⟩)) rfl (by kernel_rfl) (by kernel_rfl) (by kernel_rfl) (fun _ _ _ h => h) (.inl ⟨by rfl, fun w' hw => by have hc := row_c (i := 0) (u := .pointer (some ⟨p, 0, none⟩)) hw.1 rfl; clear hw; go_simp⟩) h0 ?_
        try simp only [Act.put, lay_out]
        refine wpAnyH_take (i := 2) (v := .agg (wdV (WF iN))) rfl (by kernel_rfl) (by kernel_rfl) (by kernel_rfl) (fun _ _ _ h => h) (yields_load_row (by rfl) 33 _ rfl b12 33 (wdV (WF iN)) _ rfl (fun w h => h.2.2) Try.underlying33 rfl (by kernel_rfl)) h0 ?_
        try simp only [Act.put, lay_out]
        refine wpAnyH_take (i := 3) (v := .pointer (some ⟨w.heap.size + 1, 4, none⟩)) rfl (by kernel_rfl) (by kernel_rfl) (by kernel_rfl) (fun _ _ _ h => h) (.inl ⟨by rfl, fun w hw => by clear hw; go_simp⟩) h0 ?_
        try simp only [Act.put, lay_out]
        refine wpAnyH_take (i := 4) (v := .int .u64 (a.C : Int)) rfl (by kernel_rfl) (by kernel_rfl) (by kernel_rfl) (fun _ _ _ h => h) (.inl ⟨by rfl, fun w' hw => by have hc := row_c (i := 4) (u := .int .u64 (a.C : Int)) hw.2.1 rfl; clear hw; go_simp⟩) h0 ?_
        try simp only [Act.put, lay_out]
        refine wpAnyH_take (i := 6) (v := .pointer (some ⟨w.heap.size, 1, none⟩)) rfl (by kernel_rfl) (by kernel_rfl) (by kernel_rfl) (fun _ _ _ h => h) (.inl ⟨by rfl, fun w hw => by clear hw; go_simp⟩) h0 ?_
        try simp only [Act.put, lay_out]
        refine wpAnyH_take (i := 7) (v := .pointer (some ⟨b, 0, none⟩)) rfl (by kernel_rfl) (by kernel_rfl) (by kernel_rfl) (fun _ _ _ h => h) (.inl ⟨by rfl, fun w' hw => by have hc := row_c (i := 1) (u := .pointer (some ⟨b, 0, none⟩)) hw.1 rfl; clear hw; go_simp⟩) h0 ?_
        try simp only [Act.put, lay_out]
        refine wpAnyH_take (i := 8) (v := .agg (wdV (WF iN))) rfl (by kernel_rfl) (by kernel_rfl) (by kernel_rfl) (fun _ _ _ h => h) (yields_load_row (by rfl) 33 _ rfl b12 33 (wdV (WF iN)) _ rfl (fun w h => h.2.2) Try.underlying33 rfl (by kernel_rfl)) h0 ?_
        try simp only [Act.put, lay_out]
        refine wpAnyH_take (i := 9) (v := .pointer (some ⟨w.heap.size + 1, 4, none⟩)) rfl (by kernel_rfl) (by kernel_rfl) (by kernel_rfl) (fun _ _ _ h => h) (.inl ⟨by rfl, fun w hw => by clear hw; go_simp⟩) h0 ?_
        try simp only [Act.put, lay_out]
        refine wpAnyH_take (i := 10) (v := .int .u64 (a.C : Int)) rfl (by kernel_rfl) (by kernel_rfl) (by kernel_rfl) (fun _ _ _ h => h) (.inl ⟨by rfl, fun w' hw => by have hc := row_c (i := 4) (u := .int .u64 (a.C : Int)) hw.2.1 rfl; clear hw; go_simp⟩) h0 ?_
        try simp only [Act.put, lay_out]
        refine wpAnyH_ready (rs := [5]) (by kernel_rfl) (by simp) (AllReadyH.cons rfl (fun K hK => ?_) AllReadyH.nil)
        rw [if_pos (by rfl)]
        go_simp
        go_at_call 30
        (with_reducible refine (qadd hM hS (WF iN) a.C D2.out.g.z HQ.out HK.out HN.out HWI.out HC.out).mono ?_); rintro e w8 ⟨rfl, hz, hs⟩
        have D3 := hid (D2.out.on hz hs)
        clear hz hs
        refine hK.out _ _ (⟨D3.out.pair, D3.out.act, D3.out.h12⟩) (fun h41x => ?_)
        clear hK K
        try simp only [Act.put, lay_out]
        refine wpAnyH_ready (rs := [11]) (by kernel_rfl) (by simp) (AllReadyH.cons rfl (fun K hK => ?_) AllReadyH.nil)
        rw [if_pos (by rfl)]
        go_simp
        go_at_call 31
        (with_reducible refine (yadd hM D3.out.g.z HQ.out HK3.out 3 HI3.out (WF iN) HWI.out a.C HC.out).mono ?_); rintro e w9 ⟨rfl, hz, hs⟩
        have D4 := hid (D3.out.on hz hs)
        clear hz hs
        refine hK.out _ _ (⟨D4.out.pair, D4.out.act, D4.out.h12⟩) (fun h42x => ?_)
        clear hK K
        try simp only [Act.put, lay_out]
        refine wpAnyH_ready (rs := [12]) (by kernel_rfl) (by simp) (AllReadyH.cons rfl (fun K hK => ?_) AllReadyH.nil)
        rw [if_pos (by rfl)]
        refine wp_store_row 33 _ _ rfl b7 (wdV (addR S 3 (WF iN) a.C)) rfl rfl 33 _ D4.out.h7 (by kernel_rfl) rfl (by kernel_rfl) ?_
        have D5 := hid (D4.out.put7 hM (wdV (addR S 3 (WF iN) a.C)))
        refine hK.out _ _ (⟨D5.out.pair, D5.out.act, D5.out.h12⟩) (fun h43x => ?_)
        clear hK K
        try simp only [Act.put, lay_out]
        refine wpAnyH_ready (rs := [13]) (by kernel_rfl) (by simp) (AllReadyH.cons rfl (fun K hK => ?_) AllReadyH.nil)
        rw [if_pos (by rfl)]
        refine wp_store_row 33 _ _ rfl b8 (wdV (addR S 3 (WF iN) a.C)) rfl rfl 33 _ D5.out.h8 (by kernel_rfl) rfl (by kernel_rfl) ?_
        have D6 := hid (D5.out.put8 hM (wdV (addR S 3 (WF iN) a.C)))
        refine hK.out _ _ (⟨D6.out.pair, D6.out.act, D6.out.h12⟩) (fun h44x => ?_)
        clear hK K
        try simp only [Act.put, lay_out]
        refine wpAnyH_done (by kernel_rfl) ?_ _
        refine NoPanic.normal ?_
        clear h0 h41x h42x h43x h44x
        try simp only [Act.put, lay_out]
        have P4 := hid D6.out.pb
        go_wp2_with fail
        have Q0 := hid (P4.out.self hM ((Below.refl _ ((w9.setRow b7 (wdV (addR S 3 (WF iN) a.C))).setRow b8 (wdV (addR S 3 (WF iN) a.C)))).drew))
        refine wp_region_noPanic ?_
        refine wp_region_held_drew (S := fun w' => w'.heap[b7]? = some (.cells (wdV (addR S 3 (WF iN) a.C)) 33 (0, 0)) ∧ w'.heap[b8]? = some (.cells (wdV (addR S 3 (WF iN) a.C)) 33 (0, 0))) (by kernel_rfl) (⟨Q0.out.h7, Q0.out.h8⟩) (fun h0 => ?_)
        generalize ((w9.setRow b7 (wdV (addR S 3 (WF iN) a.C))).setRow b8 (wdV (addR S 3 (WF iN) a.C))).drew = y3 at *
        refine wpAnyH_take (i := 0) (v := .agg (wdV (addR S 3 (WF iN) a.C))) rfl (by kernel_rfl) (by kernel_rfl) (by kernel_rfl) (fun _ _ _ h => h) (yields_load_row (by rfl) 33 _ rfl b7 33 (wdV (addR S 3 (WF iN) a.C)) _ rfl (fun w h => h.1) Try.underlying33 rfl (by kernel_rfl)) h0 ?_
        try simp only [Act.put, lay_out]
        refine wpAnyH_take (i := 1) (v := .int .u64 (zC : Int)) rfl (by kernel_rfl) (by kernel_rfl) (by kernel_rfl) (fun _ _ _ h => h) (.inl ⟨by rfl, fun w hw => by clear hw; go_simp⟩) h0 ?_
        try simp only [Act.put, lay_out]
        refine wpAnyH_take (i := 2) (v := .agg (wdV (addR S 3 (WF iN) a.C))) rfl (by kernel_rfl) (by kernel_rfl) (by kernel_rfl) (fun _ _ _ h => h) (yields_load_row (by rfl) 33 _ rfl b7 33 (wdV (addR S 3 (WF iN) a.C)) _ rfl (fun w h => h.1) Try.underlying33 rfl (by kernel_rfl)) h0 ?_
        try simp only [Act.put, lay_out]
        refine wpAnyH_take (i := 3) (v := .agg (wdV (addR S 3 (WF iN) a.C))) rfl (by kernel_rfl) (by kernel_rfl) (by kernel_rfl) (fun _ _ _ h => h) (yields_load_row (by rfl) 33 _ rfl b8 33 (wdV (addR S 3 (WF iN) a.C)) _ rfl (fun w h => h.2) Try.underlying33 rfl (by kernel_rfl)) h0 ?_
        try simp only [Act.put, lay_out]
        refine wpAnyH_take (i := 4) (v := .bool true) rfl (by kernel_rfl) (by kernel_rfl) (by kernel_rfl) (fun _ _ _ h => h) (.inl ⟨by rfl, fun w' _ => by rw [exec_eqWd _ _ rfl (addR S 3 (WF iN) a.C) (addR S 3 (WF iN) a.C) rfl rfl]; simp⟩) h0 ?_
        try simp only [Act.put, lay_out]
        refine wpAnyH_ready (rs := [5]) (by kernel_rfl) (by simp) (AllReadyH.cons rfl (fun K hK => ?_) AllReadyH.nil)
        rw [if_pos (by rfl)]
        refine wp_store_row 33 _ _ rfl (w.heap.size + 2) (wdV (addR S 3 (WF iN) a.C)) rfl rfl 33 _ Q0.out.h4 (by kernel_rfl) rfl (by kernel_rfl) ?_
        have Q1 := hid (Q0.out.put4 hM (wdV (addR S 3 (WF iN) a.C)))
        refine hK.out _ _ (⟨(Q1.out.bx (b7, wdV (addR S 3 (WF iN) a.C)) (by simp)).2, (Q1.out.bx (b8, wdV (addR S 3 (WF iN) a.C)) (by simp)).2⟩) (fun h1x => ?_)
        clear hK K
        try simp only [Act.put, lay_out]
        refine wpAnyH_take (i := 6) (v := .int .u64 (zC : Int)) rfl (by kernel_rfl) (by kernel_rfl) (by kernel_rfl) (fun _ _ _ h => h) (.inl ⟨by rfl, fun w hw => by clear hw; go_simp⟩) h1x ?_
        try simp only [Act.put, lay_out]
        refine wpAnyH_take (i := 7) (v := .bool true) rfl (by kernel_rfl) (by kernel_rfl) (by kernel_rfl) (fun _ _ _ h => h) (.inl ⟨by rfl, fun w hw => by clear hw; go_simp⟩) h1x ?_
        try simp only [Act.put, lay_out]
        refine wpAnyH_done (by kernel_rfl) ?_ _
        refine NoPanic.normal ?_
        clear h0 h1x
        try simp only [Act.put, lay_out]
        go_wp2
        exact ret_row_tmp2 rfl rfl (Q1.out.bx (w.heap.size + 2, wdV (addR S 3 (WF iN) a.C)) (by simp)).2 Try.underlying33 rfl (by kernel_rfl) rfl ⟨rfl, Gz.fin5 hM HXL.out Q1.out HBW0.out⟩
set_option maxHeartbeats 12800000 in
theorem ldoe_7 {Pm : World → Nat → Ms → (Nat → Prop) → Prop} (hM : Mach Pm) (hS : ShI Pm) {lo : Nat} {X : Nat → Prop} {W w : World} {p b k : Nat} {S : Ms} (h : Bz Pm lo X W w p b S S) (hq : Bq k S) (hk : k + 10 ≤ 100000) (hn : S.n = 2 ∨ S.n = 3) (a : Ac5) (gL gV NL lc vc : Nat) (hC : a.C < 2 ^ 64) (WF : Nat → Nat → Int) (VF : Nat → Nat) (hl : Lv w X NL gL gV WF VF) (hN0 : 0 < NL) (hNl : NL ≤ 1000000) (iN jN : Nat) (hiN : pkN a.A NL = iN) (hjN : pkN a.B NL = jN) (h7 : 7 ≤ a.K) (hkd : kd5 a.K NL = a.K) :
    Calls Try.prog 7 #[.agg (paC p b (.slice (some ⟨gL, 0, none⟩) NL lc) (.slice (some ⟨gV, 0, none⟩) NL vc)), .agg (ac5 a)] w fun e w' => e = .returned (.tuple #[.agg (wdV (addR S 4 (WF iN) a.C)), .int .u64 ((VF iN ^^^ a.C : Nat) : Int), .bool true]) ∧ Bz Pm lo X W w' p b (addS S 4 (WF iN) a.C) (addS S 4 (WF iN) a.C) ∧ ∀ k, X k → w'.heap[k]? = w.heap[k]? := by
  have H7 := hid h7
  clear h7
  have hi := pkN_lt a.A hN0
  have hj := pkN_lt a.B hN0
  rw [hiN] at hi
  rw [hjN] at hj
  have HPA := hid (fun (w' : World) => lpick_any (some ⟨gL, 0, none⟩) NL lc a.A w' hN0 hNl)
  have HPB := hid (fun (w' : World) => lpick_any (some ⟨gL, 0, none⟩) NL lc a.B w' hN0 hNl)
  rw [hiN] at HPA
  rw [hjN] at HPB
  have HI := hid hi
  have HJ := hid hj
  have HL := hid hl
  have i0 : (0 : Int) ≤ (iN : Int) := by omega
  have i1 : (iN : Int) < (NL : Int) := by omega
  have j0 : (0 : Int) ≤ (jN : Int) := by omega
  have j1 : (jN : Int) < (NL : Int) := by omega
  have HVI := hid (hl.vb iN hi)
  have HVJ := hid (hl.vb jN hj)
  have HWI := hid (hl.wb iN hi)
  have HWJ := hid (hl.wb jN hj)
  have hxv := wx64 (hl.vb iN hi) hC
  have hxw := wx64 (hl.vb iN hi) (hl.vb jN hj)
  generalize hgx : VF iN ^^^ a.C = zC at *
  have HGX := hid hgx
  clear hiN hjN hi hj hl hN0 hNl hgx
  have HQ := hid hq
  have HK := hid hk
  have HK3 : Hid (k + 3 ≤ 100000) := hid (by omega)
  have HN := hid hn
  have HC := hid hC
  have HKD := hid hkd
  have HXL : Hid (∀ k, X k → k < w.heap.size) := hid (by
    obtain ⟨F, G, ov, bv, vv, tv, h1, h2, h3, h4, h5, h6, h7⟩ := h
    exact fun k hk => (h4 k hk).1)
  have HBW0 : Hid (Below w.heap.size w ((w.alloc (.cells (paC p b (.slice (some ⟨gL, 0, none⟩) NL lc) (.slice (some ⟨gV, 0, none⟩) NL vc)) 28)).alloc (.cells (ac5 { a with K := kd5 a.K NL }) 38))) := hid (((Below.refl _ _).alloc (Nat.le_refl _) _).alloc (by simp) _)
  have HI3 : Hid (I64 3) := hid (i64c 3 (by decide) (by decide))
  have HI4 : Hid (I64 4) := hid (i64c 4 (by decide) (by decide))
  clear hq hk hn hC hkd
  have HE0 : Hid (∀ wx bs, Gz Pm lo (fun k => X k ∨ k = w.heap.size ∨ k = w.heap.size + 1) W ((w.alloc (.cells (paC p b (.slice (some ⟨gL, 0, none⟩) NL lc) (.slice (some ⟨gV, 0, none⟩) NL vc)) 28)).alloc (.cells (ac5 { a with K := kd5 a.K NL }) 38)) wx p b S S bs → wx.heap[w.heap.size + 1]? = some (.cells (ac5 { a with K := kd5 a.K NL }) 38 (0, 0))) := hid (fun wx bs hg => (hg.st _ (.inr (.inr rfl))).2.trans (by have := heap_alloc_new (w.alloc (.cells (paC p b (.slice (some ⟨gL, 0, none⟩) NL lc) (.slice (some ⟨gV, 0, none⟩) NL vc)) 28)) (.cells (ac5 { a with K := kd5 a.K NL }) 38); rw [show (w.alloc (.cells (paC p b (.slice (some ⟨gL, 0, none⟩) NL lc) (.slice (some ⟨gV, 0, none⟩) NL vc)) 28)).heap.size = w.heap.size + 1 by simp] at this; exact this))
  obtain ⟨w1, hw1⟩ : ∃ w1, ((w.alloc (.cells (paC p b (.slice (some ⟨gL, 0, none⟩) NL lc) (.slice (some ⟨gV, 0, none⟩) NL vc)) 28)).alloc (.cells (ac5 a) 38)).alloc (.cells #[.int .i64 0, .int .i64 0, .int .i64 0] 33) = w1 := ⟨_, rfl⟩
  have HB1 : Hid (Below w.heap.size w w1) := hid (by rw [← hw1]; exact (((Below.refl _ _).alloc (Nat.le_refl _) _).alloc (by simp) _).alloc (by simp; try omega) _)
  have HS1 : Hid (w1.heap.size = w.heap.size + 3) := hid (by rw [← hw1]; simp)
  have HX0 : Hid (w1.heap[w.heap.size]? = some (.cells (paC p b (.slice (some ⟨gL, 0, none⟩) NL lc) (.slice (some ⟨gV, 0, none⟩) NL vc)) 28 (0, 0))) := hid (by rw [← hw1]; exact (heap_alloc_old _ _ (by simp; try omega)).trans ((heap_alloc_old _ _ (by simp)).trans (heap_alloc_new _ _)))
  have HX1 : Hid (w1.heap[w.heap.size + 1]? = some (.cells (ac5 a) 38 (0, 0))) := hid (by rw [← hw1]; refine (heap_alloc_old _ _ (by simp)).trans ?_; have := heap_alloc_new (w.alloc (.cells (paC p b (.slice (some ⟨gL, 0, none⟩) NL lc) (.slice (some ⟨gV, 0, none⟩) NL vc)) 28)) (.cells (ac5 a) 38); rw [show (w.alloc (.cells (paC p b (.slice (some ⟨gL, 0, none⟩) NL lc) (.slice (some ⟨gV, 0, none⟩) NL vc)) 28)).heap.size = w.heap.size + 1 by simp] at this; exact this)
  have HX2 : Hid (w1.heap[w.heap.size + 2]? = some (.cells #[.int .i64 0, .int .i64 0, .int .i64 0] 33 (0, 0))) := hid (by rw [← hw1]; have := heap_alloc_new ((w.alloc (.cells (paC p b (.slice (some ⟨gL, 0, none⟩) NL lc) (.slice (some ⟨gV, 0, none⟩) NL vc)) 28)).alloc (.cells (ac5 a) 38)) (.cells #[.int .i64 0, .int .i64 0, .int .i64 0] 33); rw [show ((w.alloc (.cells (paC p b (.slice (some ⟨gL, 0, none⟩) NL lc) (.slice (some ⟨gV, 0, none⟩) NL vc)) 28)).alloc (.cells (ac5 a) 38)).heap.size = w.heap.size + 2 by simp] at this; exact this)
  have HW1 := hid hw1
  have H := hid h
  clear h hw1
  go_enter Try.func7, Try.ntmps7
  go_upto_region 1 with fail
  rw [HW1.out]
  go_cut [28] from 15 to 28 (fun q wx => q = .bool (decide (a.K < 0 ∨ (NL = 0 ∧ 2 < a.K))) ∧ w1 = wx)
  case first =>
    have x2 := row_c (i := 2) (u := .slice (some ⟨gL, 0, none⟩) NL lc) HX0.out rfl
    have x0 := row_c (i := 0) (u := .int .i64 a.K) HX1.out rfl
    by_cases f1 : a.K < 0
    · have hd : decide (a.K < 0 ∨ (NL = 0 ∧ 2 < a.K)) = true := decide_eq_true (.inl f1)
      have q1 : decide (a.K < 0) = true := decide_eq_true f1
      have HD := hid hd
      clear hd
      go_wp2
      go_meet
      exact ⟨by rw [HD.out], rfl⟩
    · have q1 : decide (a.K < 0) = false := decide_eq_false f1
      by_cases f2 : NL = 0
      · have e2 : ((NL : Int) == 0) = true := by simp [f2]
        by_cases f3 : 2 < a.K
        · have hd : decide (a.K < 0 ∨ (NL = 0 ∧ 2 < a.K)) = true := decide_eq_true (.inr ⟨f2, f3⟩)
          have q3 : decide (2 < a.K) = true := decide_eq_true f3
          clear f2
          have HD := hid hd
          clear hd
          go_wp2
          go_meet
          exact ⟨by rw [HD.out], rfl⟩
        · have hd : decide (a.K < 0 ∨ (NL = 0 ∧ 2 < a.K)) = false := decide_eq_false (by omega)
          have q3 : decide (2 < a.K) = false := decide_eq_false f3
          clear f2
          have HD := hid hd
          clear hd
          go_wp2
          go_meet
          exact ⟨by rw [HD.out], rfl⟩
      · have e2 : ((NL : Int) == 0) = false := by simp [f2]
        have hd : decide (a.K < 0 ∨ (NL = 0 ∧ 2 < a.K)) = false := decide_eq_false (by omega)
        have HD := hid hd
        clear hd
        go_wp2
        go_meet
        exact ⟨by rw [HD.out], rfl⟩
  case rest =>
    obtain ⟨rfl, rfl⟩ := hcut
    obtain ⟨cb, hcb⟩ : ∃ cb, decide (a.K < 0 ∨ (NL = 0 ∧ 2 < a.K)) = cb := ⟨_, rfl⟩
    rw [hcb]
    have HCB := hid hcb
    clear hcb
    go_upto_if 28 with fail
    go_cut [29] from 29 to 29 (fun q wx => wx.heap.size = w.heap.size + 3 ∧ Below w.heap.size w wx ∧ wx.heap[w.heap.size]? = some (.cells (paC p b (.slice (some ⟨gL, 0, none⟩) NL lc) (.slice (some ⟨gV, 0, none⟩) NL vc)) 28 (0, 0)) ∧ wx.heap[w.heap.size + 1]? = some (.cells (ac5 { a with K := kd5 a.K NL }) 38 (0, 0)) ∧ wx.heap[w.heap.size + 2]? = some (.cells #[.int .i64 0, .int .i64 0, .int .i64 0] 33 (0, 0)))
    case first =>
      cases cb
      · have hk0 : kd5 a.K NL = a.K := if_neg (of_decide_eq_false HCB.out)
        have HK0 := hid hk0
        clear hk0
        go_wp2
        go_meet
        rw [HK0.out]
        exact ⟨HS1.out, HB1.out, HX0.out, HX1.out, HX2.out⟩
      · have hk0 : kd5 a.K NL = 1 := if_pos (of_decide_eq_true HCB.out)
        have HK0 := hid hk0
        have x0 := row_c (i := 0) (u := .int .i64 a.K) HX1.out rfl
        have f0 := frozen_of_row w1 (w.heap.size + 1) 0 _ _ HX1.out
        clear hk0
        go_wp2
        go_meet
        rw [HK0.out]
        refine ⟨by simp [World.setCell]; exact HS1.out, below_set HB1.out (by omega) 0 _, (heap_setCell_other w1 ⟨w.heap.size + 1, 0, none⟩ _ _ (by simp)).trans HX0.out, ?_, (heap_setCell_other w1 ⟨w.heap.size + 1, 0, none⟩ _ _ (by simp)).trans HX2.out⟩
        rw [heap_setCell_same w1 (w.heap.size + 1) 0 _ 38 _ HX1.out]
        rfl
    case rest =>
      obtain ⟨hsz, hbw, e0, e1, e2⟩ := hcut
      have HSZ := hid hsz
      have G0 := hid (Gz.begins hM H.out hbw hsz _ _ e0 e1 e2)
      clear hsz hbw e0 e1 e2
      obtain ⟨wB, hwB⟩ : ∃ wB, wc = wB := ⟨_, rfl⟩
      subst hwB
      go_upto_region 3 with fail
      go_cut [7, 8, 9] from 30 to 33 (fun p7 p8 p9 wx => ∃ b7 b8, p7 = .pointer (some ⟨b7, 0, none⟩) ∧ p8 = .pointer (some ⟨b8, 0, none⟩) ∧ p9 = .int .u64 (a.C : Int) ∧ Pb Pm lo X W w (paC p b (.slice (some ⟨gL, 0, none⟩) NL lc) (.slice (some ⟨gV, 0, none⟩) NL vc)) { a with K := kd5 a.K NL } wx p b S S b7 b8 #[.int .i64 0, .int .i64 0, .int .i64 0] #[.int .i64 0, .int .i64 0, .int .i64 0])
      case first =>
        have Y0 := hid (G0.out.self hM ((Below.refl _ wc).drew))
        refine wp_region_noPanic ?_
        refine wp_region_held_drew (S := fun w' => w'.heap[w.heap.size + 1]? = some (.cells (ac5 { a with K := kd5 a.K NL }) 38 (0, 0))) (by kernel_rfl) ((HE0.out _ _ Y0.out)) (fun h0 => ?_)
        have HSZ2 : Hid (wc.drew.heap.size = w.heap.size + 3) := hid HSZ.out
        generalize wc.drew = y1 at *
        refine wpAnyH_take (i := 0) (v := .agg #[.int .i64 0, .int .i64 0, .int .i64 0]) rfl (by kernel_rfl) (by kernel_rfl) (by kernel_rfl) (fun _ _ _ h => h) (.inl ⟨by rfl, fun w hw => by clear hw; go_simp⟩) h0 ?_
        try simp only [Act.put, lay_out]
        refine wpAnyH_take (i := 1) (v := .agg #[.int .i64 0, .int .i64 0, .int .i64 0]) rfl (by kernel_rfl) (by kernel_rfl) (by kernel_rfl) (fun _ _ _ h => h) (.inl ⟨by rfl, fun w hw => by clear hw; go_simp⟩) h0 ?_
        try simp only [Act.put, lay_out]
        refine wpAnyH_take (i := 2) (v := .pointer (some ⟨w.heap.size + 1, 4, none⟩)) rfl (by kernel_rfl) (by kernel_rfl) (by kernel_rfl) (fun _ _ _ h => h) (.inl ⟨by rfl, fun w hw => by clear hw; go_simp⟩) h0 ?_
        try simp only [Act.put, lay_out]
        refine wpAnyH_take (i := 3) (v := .int .u64 (a.C : Int)) rfl (by kernel_rfl) (by kernel_rfl) (by kernel_rfl) (fun _ _ _ h => h) (.inl ⟨by rfl, fun w' hw => by have hc := row_c (i := 4) (u := .int .u64 (a.C : Int)) hw rfl; clear hw; go_simp⟩) h0 ?_
        try simp only [Act.put, lay_out]
        refine wpAnyH_ready (rs := [4, 5]) (by kernel_rfl) (by simp) (AllReadyH.cons rfl (fun K hK => ?_) (AllReadyH.cons rfl (fun K hK => ?_) AllReadyH.nil))
        · rw [if_pos (by rfl)]
          go_simp
          have G1 := hid (Y0.out.box hM (by have := HSZ2.out; simp; omega) #[.int .i64 0, .int .i64 0, .int .i64 0])
          refine hK.out _ _ (HE0.out _ _ G1.out) (fun h1x => ?_)
          clear hK K
          try simp only [Act.put, lay_out]
          refine wpAnyH_ready (rs := [5]) (by kernel_rfl) (by simp) (AllReadyH.cons rfl (fun K hK => ?_) AllReadyH.nil)
          rw [if_pos (by rfl)]
          go_simp
          have G2 := hid (G1.out.box hM (by have := HSZ2.out; simp; omega) #[.int .i64 0, .int .i64 0, .int .i64 0])
          refine hK.out _ _ (HE0.out _ _ G2.out) (fun h2x => ?_)
          clear hK K
          try simp only [Act.put, lay_out]
          have P0 : Hid (Pb Pm lo X W w (paC p b (.slice (some ⟨gL, 0, none⟩) NL lc) (.slice (some ⟨gV, 0, none⟩) NL vc)) { a with K := kd5 a.K NL } ((y1.alloc (.cells #[.int .i64 0, .int .i64 0, .int .i64 0] 33)).alloc (.cells #[.int .i64 0, .int .i64 0, .int .i64 0] 33)) p b S S y1.heap.size (y1.heap.size + 1) #[.int .i64 0, .int .i64 0, .int .i64 0] #[.int .i64 0, .int .i64 0, .int .i64 0]) := hid ⟨by have := G2.out.swap (bs' := [(y1.heap.size, #[.int .i64 0, .int .i64 0, .int .i64 0]), ((y1.alloc (.cells #[.int .i64 0, .int .i64 0, .int .i64 0] 33)).heap.size, #[.int .i64 0, .int .i64 0, .int .i64 0]), (w.heap.size + 2, #[.int .i64 0, .int .i64 0, .int .i64 0])]) (by intro q hq; simp at hq ⊢; rcases hq with rfl | rfl | rfl <;> simp); simpa using this, by have := HSZ2.out; simp; try omega⟩
          refine wpAnyH_ready (rs := [6]) (by kernel_rfl) (by simp) (AllReadyH.cons rfl (fun K hK => ?_) AllReadyH.nil)
          rw [if_pos (by rfl)]
          refine wp_store_row 33 _ _ rfl y1.heap.size #[.int .i64 0, .int .i64 0, .int .i64 0] rfl rfl 33 _ P0.out.h7 (by kernel_rfl) rfl (by kernel_rfl) ?_
          have P1 := hid (P0.out.put7 hM #[.int .i64 0, .int .i64 0, .int .i64 0])
          refine hK.out _ _ (P1.out.act) (fun h3x => ?_)
          clear hK K
          try simp only [Act.put, lay_out]
          refine wpAnyH_ready (rs := [7]) (by kernel_rfl) (by simp) (AllReadyH.cons rfl (fun K hK => ?_) AllReadyH.nil)
          rw [if_pos (by rfl)]
          refine wp_store_row 33 _ _ rfl (y1.heap.size + 1) #[.int .i64 0, .int .i64 0, .int .i64 0] rfl rfl 33 _ P1.out.h8 (by kernel_rfl) rfl (by kernel_rfl) ?_
          have P2 := hid (P1.out.put8 hM #[.int .i64 0, .int .i64 0, .int .i64 0])
          refine hK.out _ _ (P2.out.act) (fun h4x => ?_)
          clear hK K
          try simp only [Act.put, lay_out]
          refine wpAnyH_take (i := 8) (v := .int .u64 (a.C : Int)) rfl (by kernel_rfl) (by kernel_rfl) (by kernel_rfl) (fun _ _ _ h => h) (.inl ⟨by rfl, fun w hw => by clear hw; go_simp⟩) h4x ?_
          try simp only [Act.put, lay_out]
          refine wpAnyH_done (by kernel_rfl) ?_ _
          refine NoPanic.normal ?_
          clear h0 h1x h2x h3x h4x
          try simp only [Act.put, lay_out]
          go_wp2_with fail
          go_meet
          exact ⟨_, _, rfl, rfl, rfl, P2.out⟩
        · rw [if_pos (by rfl)]
          go_simp
          have G1 := hid (Y0.out.box hM (by have := HSZ2.out; simp; omega) #[.int .i64 0, .int .i64 0, .int .i64 0])
          refine hK.out _ _ (HE0.out _ _ G1.out) (fun h1x => ?_)
          clear hK K
          try simp only [Act.put, lay_out]
          refine wpAnyH_ready (rs := [4]) (by kernel_rfl) (by simp) (AllReadyH.cons rfl (fun K hK => ?_) AllReadyH.nil)
          rw [if_pos (by rfl)]
          go_simp
          have G2 := hid (G1.out.box hM (by have := HSZ2.out; simp; omega) #[.int .i64 0, .int .i64 0, .int .i64 0])
          refine hK.out _ _ (HE0.out _ _ G2.out) (fun h2x => ?_)
          clear hK K
          try simp only [Act.put, lay_out]
          have P0 : Hid (Pb Pm lo X W w (paC p b (.slice (some ⟨gL, 0, none⟩) NL lc) (.slice (some ⟨gV, 0, none⟩) NL vc)) { a with K := kd5 a.K NL } ((y1.alloc (.cells #[.int .i64 0, .int .i64 0, .int .i64 0] 33)).alloc (.cells #[.int .i64 0, .int .i64 0, .int .i64 0] 33)) p b S S (y1.heap.size + 1) y1.heap.size #[.int .i64 0, .int .i64 0, .int .i64 0] #[.int .i64 0, .int .i64 0, .int .i64 0]) := hid ⟨by have := G2.out; simpa using this, by have := HSZ2.out; simp; try omega⟩
          refine wpAnyH_ready (rs := [6]) (by kernel_rfl) (by simp) (AllReadyH.cons rfl (fun K hK => ?_) AllReadyH.nil)
          rw [if_pos (by rfl)]
          refine wp_store_row 33 _ _ rfl (y1.heap.size + 1) #[.int .i64 0, .int .i64 0, .int .i64 0] rfl rfl 33 _ P0.out.h7 (by kernel_rfl) rfl (by kernel_rfl) ?_
          have P1 := hid (P0.out.put7 hM #[.int .i64 0, .int .i64 0, .int .i64 0])
          refine hK.out _ _ (P1.out.act) (fun h3x => ?_)
          clear hK K
          try simp only [Act.put, lay_out]
          refine wpAnyH_ready (rs := [7]) (by kernel_rfl) (by simp) (AllReadyH.cons rfl (fun K hK => ?_) AllReadyH.nil)
          rw [if_pos (by rfl)]
          refine wp_store_row 33 _ _ rfl y1.heap.size #[.int .i64 0, .int .i64 0, .int .i64 0] rfl rfl 33 _ P1.out.h8 (by kernel_rfl) rfl (by kernel_rfl) ?_
          have P2 := hid (P1.out.put8 hM #[.int .i64 0, .int .i64 0, .int .i64 0])
          refine hK.out _ _ (P2.out.act) (fun h4x => ?_)
          clear hK K
          try simp only [Act.put, lay_out]
          refine wpAnyH_take (i := 8) (v := .int .u64 (a.C : Int)) rfl (by kernel_rfl) (by kernel_rfl) (by kernel_rfl) (fun _ _ _ h => h) (.inl ⟨by rfl, fun w hw => by clear hw; go_simp⟩) h4x ?_
          try simp only [Act.put, lay_out]
          refine wpAnyH_done (by kernel_rfl) ?_ _
          refine NoPanic.normal ?_
          clear h0 h1x h2x h3x h4x
          try simp only [Act.put, lay_out]
          go_wp2_with fail
          go_meet
          exact ⟨_, _, rfl, rfl, rfl, P2.out⟩
      case rest =>
        obtain ⟨b7, b8, rfl, rfl, rfl, hP⟩ := hcut
        have P := hid hP
        clear hP
        have e0 : (a.K == 0) = false := by have := H7.out; simp; omega
        have e1 : (a.K == 1) = false := by have := H7.out; simp; omega
        have e2 : (a.K == 2) = false := by have := H7.out; simp; omega
        have e3 : (a.K == 3) = false := by have := H7.out; simp; omega
        have e4 : (a.K == 4) = false := by have := H7.out; simp; omega
        have e5 : (a.K == 5) = false := by have := H7.out; simp; omega
        have e6 : (a.K == 6) = false := by have := H7.out; simp; omega
        have x0 : wc.cell? ⟨w.heap.size + 1, 0, none⟩ = some (.int .i64 a.K) := by have := row_c (i := 0) (u := .int .i64 (kd5 a.K NL)) P.out.act rfl; rw [HKD.out] at this; exact this
        go_wp2_with fail
        clear x0
        have P0 := hid (P.out.self hM ((Below.refl _ wc).drew))
        refine wp_region_noPanic ?_
        refine wp_region_held_drew (S := fun w' => w'.heap[w.heap.size]? = some (.cells (paC p b (.slice (some ⟨gL, 0, none⟩) NL lc) (.slice (some ⟨gV, 0, none⟩) NL vc)) 28 (0, 0)) ∧ w'.heap[w.heap.size + 1]? = some (.cells (ac5 { a with K := kd5 a.K NL }) 38 (0, 0))) (by kernel_rfl) (⟨P0.out.pair, P0.out.act⟩) (fun h0 => ?_)
        generalize wc.drew = y2 at *
        refine wpAnyH_take (i := 0) (v := .pointer (some ⟨w.heap.size, 2, none⟩)) rfl (by kernel_rfl) (by kernel_rfl) (by kernel_rfl) (fun _ _ _ h => h) (.inl ⟨by rfl, fun w hw => by clear hw; go_simp⟩) h0 ?_
        try simp only [Act.put, lay_out]
        refine wpAnyH_take (i := 1) (v := .slice (some ⟨gL, 0, none⟩) NL lc) rfl (by kernel_rfl) (by kernel_rfl) (by kernel_rfl) (fun _ _ _ h => h) (.inl ⟨by rfl, fun w' hw => by have hc := row_c (i := 2) (u := .slice (some ⟨gL, 0, none⟩) NL lc) hw.1 rfl; clear hw; go_simp⟩) h0 ?_
        try simp only [Act.put, lay_out]
        refine wpAnyH_take (i := 2) (v := .pointer (some ⟨w.heap.size + 1, 1, none⟩)) rfl (by kernel_rfl) (by kernel_rfl) (by kernel_rfl) (fun _ _ _ h => h) (.inl ⟨by rfl, fun w hw => by clear hw; go_simp⟩) h0 ?_
        try simp only [Act.put, lay_out]
        refine wpAnyH_take (i := 3) (v := .int .i64 a.A) rfl (by kernel_rfl) (by kernel_rfl) (by kernel_rfl) (fun _ _ _ h => h) (.inl ⟨by rfl, fun w' hw => by have hc := row_c (i := 1) (u := .int .i64 a.A) hw.2 rfl; clear hw; go_simp⟩) h0 ?_
        try simp only [Act.put, lay_out]
        refine wpAnyH_take (i := 5) (v := .pointer (some ⟨w.heap.size, 2, none⟩)) rfl (by kernel_rfl) (by kernel_rfl) (by kernel_rfl) (fun _ _ _ h => h) (.inl ⟨by rfl, fun w hw => by clear hw; go_simp⟩) h0 ?_
        try simp only [Act.put, lay_out]
        refine wpAnyH_take (i := 6) (v := .slice (some ⟨gL, 0, none⟩) NL lc) rfl (by kernel_rfl) (by kernel_rfl) (by kernel_rfl) (fun _ _ _ h => h) (.inl ⟨by rfl, fun w' hw => by have hc := row_c (i := 2) (u := .slice (some ⟨gL, 0, none⟩) NL lc) hw.1 rfl; clear hw; go_simp⟩) h0 ?_
        try simp only [Act.put, lay_out]
        refine wpAnyH_take (i := 7) (v := .pointer (some ⟨w.heap.size + 1, 2, none⟩)) rfl (by kernel_rfl) (by kernel_rfl) (by kernel_rfl) (fun _ _ _ h => h) (.inl ⟨by rfl, fun w hw => by clear hw; go_simp⟩) h0 ?_
        try simp only [Act.put, lay_out]
        refine wpAnyH_take (i := 8) (v := .int .i64 a.B) rfl (by kernel_rfl) (by kernel_rfl) (by kernel_rfl) (fun _ _ _ h => h) (.inl ⟨by rfl, fun w' hw => by have hc := row_c (i := 2) (u := .int .i64 a.B) hw.2 rfl; clear hw; go_simp⟩) h0 ?_
        try simp only [Act.put, lay_out]
        refine wpAnyH_ready (rs := [4]) (by kernel_rfl) (by simp) (AllReadyH.cons rfl (fun K hK => ?_) AllReadyH.nil)
        rw [if_pos (by rfl)]
        go_simp
        go_at_call 22
        (with_reducible refine (HPA.out _).mono ?_); rintro e w5 ⟨rfl, rfl⟩
        refine hK.out _ _ (⟨P0.out.pair, P0.out.act⟩) (fun h1x => ?_)
        clear hK K
        try simp only [Act.put, lay_out]
        refine wpAnyH_ready (rs := [9]) (by kernel_rfl) (by simp) (AllReadyH.cons rfl (fun K hK => ?_) AllReadyH.nil)
        rw [if_pos (by rfl)]
        go_simp
        go_at_call 22
        (with_reducible refine (HPB.out _).mono ?_); rintro e w6 ⟨rfl, rfl⟩
        refine hK.out _ _ (⟨P0.out.pair, P0.out.act⟩) (fun h2x => ?_)
        clear hK K
        try simp only [Act.put, lay_out]
        refine wpAnyH_take (i := 10) (v := .int .i64 (iN : Int)) rfl (by kernel_rfl) (by kernel_rfl) (by kernel_rfl) (fun _ _ _ h => h) (.inl ⟨by rfl, fun w hw => by clear hw; go_simp⟩) h2x ?_
        try simp only [Act.put, lay_out]
        refine wpAnyH_take (i := 11) (v := .int .i64 (jN : Int)) rfl (by kernel_rfl) (by kernel_rfl) (by kernel_rfl) (fun _ _ _ h => h) (.inl ⟨by rfl, fun w hw => by clear hw; go_simp⟩) h2x ?_
        try simp only [Act.put, lay_out]
        refine wpAnyH_done (by kernel_rfl) ?_ _
        refine NoPanic.normal ?_
        clear h0 h1x h2x
        try simp only [Act.put, lay_out]
        have x2 := row_c (i := 2) (u := .slice (some ⟨gL, 0, none⟩) NL lc) P0.out.pair rfl
        have HRI := hid (HL.out.at_ (P0.out.keep HL.out.xl HL.out.ll) HI.out)
        go_wp2_with (refine wpList_load_mid rfl 33 (.tmp 49) rfl gL (iN * 3) rfl (wdV (WF iN)).toList _ HRI.out Try.underlying33 rfl (by kernel_rfl) ?_)
        clear x2
        have D0 := hid (P0.out.word hM (wdV (WF iN)))
        obtain ⟨b12, hb12⟩ : ∃ b12, w6.heap.size = b12 := ⟨_, rfl⟩
        obtain ⟨w7, hw7⟩ : ∃ w7, w6.alloc (.cells (wdV (WF iN)) 33) = w7 := ⟨_, rfl⟩
        rw [hw7, hb12] at D0
        try rw [hw7]
        try rw [hb12]
        clear hw7 hb12 P0 HRI
        have D1 := hid (D0.out.self hM ((Below.refl _ w7).drew))
        refine wp_region_noPanic ?_
        refine wp_region_held_drew (S := fun w' => w'.heap[w.heap.size]? = some (.cells (paC p b (.slice (some ⟨gL, 0, none⟩) NL lc) (.slice (some ⟨gV, 0, none⟩) NL vc)) 28 (0, 0)) ∧ w'.heap[w.heap.size + 1]? = some (.cells (ac5 { a with K := kd5 a.K NL }) 38 (0, 0)) ∧ w'.cell? ⟨gV, iN, none⟩ = some (.int .u64 (VF iN : Int))) (by kernel_rfl) (⟨D1.out.pair, D1.out.act, HL.out.v_ (D1.out.keep HL.out.xv HL.out.lv) HI.out⟩) (fun h0 => ?_)
        generalize w7.drew = y4 at *
        refine wpAnyH_take (i := 0) (v := .pointer (some ⟨w.heap.size, 3, none⟩)) rfl (by kernel_rfl) (by kernel_rfl) (by kernel_rfl) (fun _ _ _ h => h) (.inl ⟨by rfl, fun w hw => by clear hw; go_simp⟩) h0 ?_
        try simp only [Act.put, lay_out]
        refine wpAnyH_take (i := 1) (v := .slice (some ⟨gV, 0, none⟩) NL vc) rfl (by kernel_rfl) (by kernel_rfl) (by kernel_rfl) (fun _ _ _ h => h) (.inl ⟨by rfl, fun w' hw => by have hc := row_c (i := 3) (u := .slice (some ⟨gV, 0, none⟩) NL vc) hw.1 rfl; clear hw; go_simp⟩) h0 ?_
        try simp only [Act.put, lay_out]
        refine wpAnyH_take (i := 2) (v := .int .i64 (iN : Int)) rfl (by kernel_rfl) (by kernel_rfl) (by kernel_rfl) (fun _ _ _ h => h) (.inl ⟨by rfl, fun w hw => by clear hw; go_simp⟩) h0 ?_
        try simp only [Act.put, lay_out]
        refine wpAnyH_take (i := 3) (v := .pointer (some ⟨gV, iN, none⟩)) rfl (by kernel_rfl) (by kernel_rfl) (by kernel_rfl) (fun _ _ _ h => h) (.inl ⟨by rfl, fun w hw => by clear hw; go_simp⟩) h0 ?_
        try simp only [Act.put, lay_out]
        refine wpAnyH_take (i := 4) (v := .int .u64 (VF iN : Int)) rfl (by kernel_rfl) (by kernel_rfl) (by kernel_rfl) (fun _ _ _ h => h) (.inl ⟨by rfl, fun w' hw => by have hc := hw.2.2; clear hw; go_simp⟩) h0 ?_
        try simp only [Act.put, lay_out]
        refine wpAnyH_take (i := 5) (v := .pointer (some ⟨w.heap.size + 1, 4, none⟩)) rfl (by kernel_rfl) (by kernel_rfl) (by kernel_rfl) (fun _ _ _ h => h) (.inl ⟨by rfl, fun w hw => by clear hw; go_simp⟩) h0 ?_
        try simp only [Act.put, lay_out]
        refine wpAnyH_take (i := 6) (v := .int .u64 (a.C : Int)) rfl (by kernel_rfl) (by kernel_rfl) (by kernel_rfl) (fun _ _ _ h => h) (.inl ⟨by rfl, fun w' hw => by have hc := row_c (i := 4) (u := .int .u64 (a.C : Int)) hw.2.1 rfl; clear hw; go_simp⟩) h0 ?_
        try simp only [Act.put, lay_out]
        refine wpAnyH_take (i := 7) (v := .int .u64 (zC : Int)) rfl (by kernel_rfl) (by kernel_rfl) (by kernel_rfl) (fun _ _ _ h => h) (.inl ⟨by rfl, fun w hw => by clear hw; go_simp⟩) h0 ?_
        try simp only [Act.put, lay_out]
        refine wpAnyH_take (i := 8) (v := .int .u64 (zC : Int)) rfl (by kernel_rfl) (by kernel_rfl) (by kernel_rfl) (fun _ _ _ h => h) (.inl ⟨by rfl, fun w hw => by clear hw; go_simp⟩) h0 ?_
        try simp only [Act.put, lay_out]
        refine wpAnyH_done (by kernel_rfl) ?_ _
        refine NoPanic.normal ?_
        clear h0
        try simp only [Act.put, lay_out]
        have x0 : y4.cell? ⟨w.heap.size + 1, 0, none⟩ = some (.int .i64 a.K) := by have := row_c (i := 0) (u := .int .i64 (kd5 a.K NL)) D1.out.act rfl; rw [HKD.out] at this; exact this
        go_wp2_with fail
        clear x0
        have D2 := hid (D1.out.self hM ((Below.refl _ y4).drew))
        refine wp_region_noPanic ?_
        refine wp_region_held_drew (S := fun w' => w'.heap[w.heap.size]? = some (.cells (paC p b (.slice (some ⟨gL, 0, none⟩) NL lc) (.slice (some ⟨gV, 0, none⟩) NL vc)) 28 (0, 0)) ∧ w'.heap[w.heap.size + 1]? = some (.cells (ac5 { a with K := kd5 a.K NL }) 38 (0, 0)) ∧ w'.heap[b12]? = some (.cells (wdV (WF iN)) 33 (0, 0))) (by kernel_rfl) (⟨D2.out.pair, D2.out.act, D2.out.h12⟩) (fun h0 => ?_)
        generalize y4.drew = y5 at *
        refine wpAnyH_take (i := 0) (v := .pointer (some ⟨w.heap.size, 0, none⟩)) rfl (by kernel_rfl) (by kernel_rfl) (by kernel_rfl) (fun _ _ _ h => h) (.inl ⟨by rfl, fun w hw => by clear hw; go_simp⟩) h0 ?_
        try simp only [Act.put, lay_out]
        refine wpAnyH_take (i := 1) (v := .pointer (some ⟨p, 0, none⟩)) rfl (by kernel_rfl) (by kernel_rfl) (by kernel_rfl) (fun _ _ _ h => h) (.inl ⟨by rfl, fun w' hw => by have hc := row_c (i := 0) (u := .pointer (some ⟨p, 0, none⟩)) hw.1 rfl; clear hw; go_simp⟩) h0 ?_
        try simp only [Act.put, lay_out]
        refine wpAnyH_take (i := 2) (v := .agg (wdV (WF iN))) rfl (by kernel_rfl) (by kernel_rfl) (by kernel_rfl) (fun _ _ _ h => h) (yields_load_row (by rfl) 33 _ rfl b12 33 (wdV (WF iN)) _ rfl (fun w h => h.2.2) Try.underlying33 rfl (by kernel_rfl)) h0 ?_
        try simp only [Act.put, lay_out]
        refine wpAnyH_take (i := 3) (v := .pointer (some ⟨w.heap.size + 1, 4, none⟩)) rfl (by kernel_rfl) (by kernel_rfl) (by kernel_rfl) (fun _ _ _ h => h) (.inl ⟨by rfl, fun w hw => by clear hw; go_simp⟩) h0 ?_
        try simp only [Act.put, lay_out]
        refine wpAnyH_take (i := 4) (v := .int .u64 (a.C : Int)) rfl (by kernel_rfl) (by kernel_rfl) (by kernel_rfl) (fun _ _ _ h => h) (.inl ⟨by rfl, fun w' hw => by have hc := row_c (i := 4) (u := .int .u64 (a.C : Int)) hw.2.1 rfl; clear hw; go_simp⟩) h0 ?_
        try simp only [Act.put, lay_out]
        refine wpAnyH_take (i := 6) (v := .pointer (some ⟨w.heap.size, 1, none⟩)) rfl (by kernel_rfl) (by kernel_rfl) (by kernel_rfl) (fun _ _ _ h => h) (.inl ⟨by rfl, fun w hw => by clear hw; go_simp⟩) h0 ?_
        try simp only [Act.put, lay_out]
        refine wpAnyH_take (i := 7) (v := .pointer (some ⟨b, 0, none⟩)) rfl (by kernel_rfl) (by kernel_rfl) (by kernel_rfl) (fun _ _ _ h => h) (.inl ⟨by rfl, fun w' hw => by have hc := row_c (i := 1) (u := .pointer (some ⟨b, 0, none⟩)) hw.1 rfl; clear hw; go_simp⟩) h0 ?_
        try simp only [Act.put, lay_out]
        refine wpAnyH_take (i := 8) (v := .agg (wdV (WF iN))) rfl (by kernel_rfl) (by kernel_rfl) (by kernel_rfl) (fun _ _ _ h => h) (yields_load_row (by rfl) 33 _ rfl b12 33 (wdV (WF iN)) _ rfl (fun w h => h.2.2) Try.underlying33 rfl (by kernel_rfl)) h0 ?_
        try simp only [Act.put, lay_out]
        refine wpAnyH_take (i := 9) (v := .pointer (some ⟨w.heap.size + 1, 4, none⟩)) rfl (by kernel_rfl) (by kernel_rfl) (by kernel_rfl) (fun _ _ _ h => h) (.inl ⟨by rfl, fun w hw => by clear hw; go_simp⟩) h0 ?_
        try simp only [Act.put, lay_out]
        refine wpAnyH_take (i := 10) (v := .int .u64 (a.C : Int)) rfl (by kernel_rfl) (by kernel_rfl) (by kernel_rfl) (fun _ _ _ h => h) (.inl ⟨by rfl, fun w' hw => by have hc := row_c (i := 4) (u := .int .u64 (a.C : Int)) hw.2.1 rfl; clear hw; go_simp⟩) h0 ?_
        try simp only [Act.put, lay_out]
        refine wpAnyH_ready (rs := [5]) (by kernel_rfl) (by simp) (AllReadyH.cons rfl (fun K hK => ?_) AllReadyH.nil)
        rw [if_pos (by rfl)]
        go_simp
        go_at_call 32
        (with_reducible refine (qaddTold hM hS (WF iN) a.C D2.out.g.z HQ.out HK.out HN.out HWI.out HC.out).mono ?_); rintro e w8 ⟨rfl, hz, hs⟩
        have D3 := hid (D2.out.on hz hs)
        clear hz hs
        refine hK.out _ _ (⟨D3.out.pair, D3.out.act, D3.out.h12⟩) (fun h41x => ?_)
        clear hK K
        try simp only [Act.put, lay_out]
        refine wpAnyH_ready (rs := [11]) (by kernel_rfl) (by simp) (AllReadyH.cons rfl (fun K hK => ?_) AllReadyH.nil)
        rw [if_pos (by rfl)]
        go_simp
        go_at_call 31
        (with_reducible refine (yadd hM D3.out.g.z HQ.out HK3.out 4 HI4.out (WF iN) HWI.out a.C HC.out).mono ?_); rintro e w9 ⟨rfl, hz, hs⟩
        have D4 := hid (D3.out.on hz hs)
        clear hz hs
        refine hK.out _ _ (⟨D4.out.pair, D4.out.act, D4.out.h12⟩) (fun h42x => ?_)
        clear hK K
        try simp only [Act.put, lay_out]
        refine wpAnyH_ready (rs := [12]) (by kernel_rfl) (by simp) (AllReadyH.cons rfl (fun K hK => ?_) AllReadyH.nil)
        rw [if_pos (by rfl)]
        refine wp_store_row 33 _ _ rfl b7 (wdV (addR S 4 (WF iN) a.C)) rfl rfl 33 _ D4.out.h7 (by kernel_rfl) rfl (by kernel_rfl) ?_
        have D5 := hid (D4.out.put7 hM (wdV (addR S 4 (WF iN) a.C)))
        refine hK.out _ _ (⟨D5.out.pair, D5.out.act, D5.out.h12⟩) (fun h43x => ?_)
        clear hK K
        try simp only [Act.put, lay_out]
        refine wpAnyH_ready (rs := [13]) (by kernel_rfl) (by simp) (AllReadyH.cons rfl (fun K hK => ?_) AllReadyH.nil)
        rw [if_pos (by rfl)]
        refine wp_store_row 33 _ _ rfl b8 (wdV (addR S 4 (WF iN) a.C)) rfl rfl 33 _ D5.out.h8 (by kernel_rfl) rfl (by kernel_rfl) ?_
        have D6 := hid (D5.out.put8 hM (wdV (addR S 4 (WF iN) a.C)))
        refine hK.out _ _ (⟨D6.out.pair, D6.out.act, D6.out.h12⟩) (fun h44x => ?_)
        clear hK K
        try simp only [Act.put, lay_out]
        refine wpAnyH_done (by kernel_rfl) ?_ _
        refine NoPanic.normal ?_
        clear h0 h41x h42x h43x h44x
        try simp only [Act.put, lay_out]
        have P4 := hid D6.out.pb
        go_wp2_with fail
        have Q0 := hid (P4.out.self hM ((Below.refl _ ((w9.setRow b7 (wdV (addR S 4 (WF iN) a.C))).setRow b8 (wdV (addR S 4 (WF iN) a.C)))).drew))
        refine wp_region_noPanic ?_
        refine wp_region_held_drew (S := fun w' => w'.heap[b7]? = some (.cells (wdV (addR S 4 (WF iN) a.C)) 33 (0, 0)) ∧ w'.heap[b8]? = some (.cells (wdV (addR S 4 (WF iN) a.C)) 33 (0, 0))) (by kernel_rfl) (⟨Q0.out.h7, Q0.out.h8⟩) (fun h0 => ?_)
        generalize ((w9.setRow b7 (wdV (addR S 4 (WF iN) a.C))).setRow b8 (wdV (addR S 4 (WF iN) a.C))).drew = y3 at *
        refine wpAnyH_take (i := 0) (v := .agg (wdV (addR S 4 (WF iN) a.C))) rfl (by kernel_rfl) (by kernel_rfl) (by kernel_rfl) (fun _ _ _ h => h) (yields_load_row (by rfl) 33 _ rfl b7 33 (wdV (addR S 4 (WF iN) a.C)) _ rfl (fun w h => h.1) Try.underlying33 rfl (by kernel_rfl)) h0 ?_
        try simp only [Act.put, lay_out]
        refine wpAnyH_take (i := 1) (v := .int .u64 (zC : Int)) rfl (by kernel_rfl) (by kernel_rfl) (by kernel_rfl) (fun _ _ _ h => h) (.inl ⟨by rfl, fun w hw => by clear hw; go_simp⟩) h0 ?_
        try simp only [Act.put, lay_out]
        refine wpAnyH_take (i := 2) (v := .agg (wdV (addR S 4 (WF iN) a.C))) rfl (by kernel_rfl) (by kernel_rfl) (by kernel_rfl) (fun _ _ _ h => h) (yields_load_row (by rfl) 33 _ rfl b7 33 (wdV (addR S 4 (WF iN) a.C)) _ rfl (fun w h => h.1) Try.underlying33 rfl (by kernel_rfl)) h0 ?_
        try simp only [Act.put, lay_out]
        refine wpAnyH_take (i := 3) (v := .agg (wdV (addR S 4 (WF iN) a.C))) rfl (by kernel_rfl) (by kernel_rfl) (by kernel_rfl) (fun _ _ _ h => h) (yields_load_row (by rfl) 33 _ rfl b8 33 (wdV (addR S 4 (WF iN) a.C)) _ rfl (fun w h => h.2) Try.underlying33 rfl (by kernel_rfl)) h0 ?_
        try simp only [Act.put, lay_out]
        refine wpAnyH_take (i := 4) (v := .bool true) rfl (by kernel_rfl) (by kernel_rfl) (by kernel_rfl) (fun _ _ _ h => h) (.inl ⟨by rfl, fun w' _ => by rw [exec_eqWd _ _ rfl (addR S 4 (WF iN) a.C) (addR S 4 (WF iN) a.C) rfl rfl]; simp⟩) h0 ?_
        try simp only [Act.put, lay_out]
        refine wpAnyH_ready (rs := [5]) (by kernel_rfl) (by simp) (AllReadyH.cons rfl (fun K hK => ?_) AllReadyH.nil)
        rw [if_pos (by rfl)]
        refine wp_store_row 33 _ _ rfl (w.heap.size + 2) (wdV (addR S 4 (WF iN) a.C)) rfl rfl 33 _ Q0.out.h4 (by kernel_rfl) rfl (by kernel_rfl) ?_
        have Q1 := hid (Q0.out.put4 hM (wdV (addR S 4 (WF iN) a.C)))
        refine hK.out _ _ (⟨(Q1.out.bx (b7, wdV (addR S 4 (WF iN) a.C)) (by simp)).2, (Q1.out.bx (b8, wdV (addR S 4 (WF iN) a.C)) (by simp)).2⟩) (fun h1x => ?_)
        clear hK K
        try simp only [Act.put, lay_out]
        refine wpAnyH_take (i := 6) (v := .int .u64 (zC : Int)) rfl (by kernel_rfl) (by kernel_rfl) (by kernel_rfl) (fun _ _ _ h => h) (.inl ⟨by rfl, fun w hw => by clear hw; go_simp⟩) h1x ?_
        try simp only [Act.put, lay_out]
        refine wpAnyH_take (i := 7) (v := .bool true) rfl (by kernel_rfl) (by kernel_rfl) (by kernel_rfl) (fun _ _ _ h => h) (.inl ⟨by rfl, fun w hw => by clear hw; go_simp⟩) h1x ?_
        try simp only [Act.put, lay_out]
        refine wpAnyH_done (by kernel_rfl) ?_ _
        refine NoPanic.normal ?_
        clear h0 h1x
        try simp only [Act.put, lay_out]
        go_wp2
        exact ret_row_tmp2 rfl rfl (Q1.out.bx (w.heap.size + 2, wdV (addR S 4 (WF iN) a.C)) (by simp)).2 Try.underlying33 rfl (by kernel_rfl) rfl ⟨rfl, Gz.fin5 hM HXL.out Q1.out HBW0.out⟩
end Go.Proofs.Ytdgkofnboeepbaa
