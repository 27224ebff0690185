import Derived.Test.YtdgkofnboeepbaaProg
import Derived.Test.YtdgkofnboeepbaaMgao
/- Share: an act of a pair: encode, public, told. -/
namespace Go.Proofs.Ytdgkofnboeepbaa
open Go.RowKit
set_option maxRecDepth 100000
set_option maxHeartbeats 12800000 in
theorem ldoe_0 {Pm : World → Nat → Ms → (Nat → Prop) → Prop} (hM : Mach Pm) (hS : ShI Pm) {lo : Nat} {X : Nat → Prop} {W w : World} {p b k : Nat} {S : Ms} (h : Bz Pm lo X W w p b S S) (hq : Bq k S) (hk : k + 10 ≤ 100000) (hn : S.n = 2 ∨ S.n = 3) (a : Ac5) (la va : Option Addr) (NL lc vc : Nat) (hC : a.C < 2 ^ 64) (hkd : kd5 a.K NL = 0) :
    Calls Try.prog 7 #[.agg (paC p b (.slice la NL lc) (.slice va NL vc)), .agg (ac5 a)] w fun e w' => e = .returned (.tuple #[.agg (wdV (encR S)), .int .u64 (a.C : Int), .bool true]) ∧ Bz Pm lo X W w' p b (encS S a.C) (encS S a.C) ∧ ∀ k, X k → w'.heap[k]? = w.heap[k]? := by
  have HQ := hid hq
  have HK := hid hk
  have HK3 : Hid (k + 3 ≤ 100000) := hid (by omega)
  have HN := hid hn
  have HC := hid hC
  have HKD := hid hkd
  have HXL : Hid (∀ k, X k → k < w.heap.size) := hid (by
    obtain ⟨F, G, ov, bv, vv, tv, h1, h2, h3, h4, h5, h6, h7⟩ := h
    exact fun k hk => (h4 k hk).1)
  have HBW0 : Hid (Below w.heap.size w ((w.alloc (.cells (paC p b (.slice la NL lc) (.slice va NL vc)) 28)).alloc (.cells (ac5 { a with K := kd5 a.K NL }) 38))) := hid (((Below.refl _ _).alloc (Nat.le_refl _) _).alloc (by simp) _)
  have HI3 : Hid (I64 3) := hid (i64c 3 (by decide) (by decide))
  have HI4 : Hid (I64 4) := hid (i64c 4 (by decide) (by decide))
  clear hq hk hn hC hkd
  have HE0 : Hid (∀ wx bs, Gz Pm lo (fun k => X k ∨ k = w.heap.size ∨ k = w.heap.size + 1) W ((w.alloc (.cells (paC p b (.slice la NL lc) (.slice va NL vc)) 28)).alloc (.cells (ac5 { a with K := kd5 a.K NL }) 38)) wx p b S S bs → wx.heap[w.heap.size + 1]? = some (.cells (ac5 { a with K := kd5 a.K NL }) 38 (0, 0))) := hid (fun wx bs hg => (hg.st _ (.inr (.inr rfl))).2.trans (by have := heap_alloc_new (w.alloc (.cells (paC p b (.slice la NL lc) (.slice va NL vc)) 28)) (.cells (ac5 { a with K := kd5 a.K NL }) 38); rw [show (w.alloc (.cells (paC p b (.slice la NL lc) (.slice va NL vc)) 28)).heap.size = w.heap.size + 1 by simp] at this; exact this))
  obtain ⟨w1, hw1⟩ : ∃ w1, ((w.alloc (.cells (paC p b (.slice la NL lc) (.slice va NL vc)) 28)).alloc (.cells (ac5 a) 38)).alloc (.cells #[.int .i64 0, .int .i64 0, .int .i64 0] 33) = w1 := ⟨_, rfl⟩
  have HB1 : Hid (Below w.heap.size w w1) := hid (by rw [← hw1]; exact (((Below.refl _ _).alloc (Nat.le_refl _) _).alloc (by simp) _).alloc (by simp; try omega) _)
  have HS1 : Hid (w1.heap.size = w.heap.size + 3) := hid (by rw [← hw1]; simp)
  have HX0 : Hid (w1.heap[w.heap.size]? = some (.cells (paC p b (.slice la NL lc) (.slice va NL vc)) 28 (0, 0))) := hid (by rw [← hw1]; exact (heap_alloc_old _ _ (by simp; try omega)).trans ((heap_alloc_old _ _ (by simp)).trans (heap_alloc_new _ _)))
  have HX1 : Hid (w1.heap[w.heap.size + 1]? = some (.cells (ac5 a) 38 (0, 0))) := hid (by rw [← hw1]; refine (heap_alloc_old _ _ (by simp)).trans ?_; have := heap_alloc_new (w.alloc (.cells (paC p b (.slice la NL lc) (.slice va NL vc)) 28)) (.cells (ac5 a) 38); rw [show (w.alloc (.cells (paC p b (.slice la NL lc) (.slice va NL vc)) 28)).heap.size = w.heap.size + 1 by simp] at this; exact this)
  have HX2 : Hid (w1.heap[w.heap.size + 2]? = some (.cells #[.int .i64 0, .int .i64 0, .int .i64 0] 33 (0, 0))) := hid (by rw [← hw1]; have := heap_alloc_new ((w.alloc (.cells (paC p b (.slice la NL lc) (.slice va NL vc)) 28)).alloc (.cells (ac5 a) 38)) (.cells #[.int .i64 0, .int .i64 0, .int .i64 0] 33); rw [show ((w.alloc (.cells (paC p b (.slice la NL lc) (.slice va NL vc)) 28)).alloc (.cells (ac5 a) 38)).heap.size = w.heap.size + 2 by simp] at this; exact this)
  have HW1 := hid hw1
  have H := hid h
  clear h hw1
  go_enter Try.func7, Try.ntmps7
  go_upto_region 1 with fail
  rw [HW1.out]
  go_cut [28] from 15 to 28 (fun q wx => q = .bool (decide (a.K < 0 ∨ (NL = 0 ∧ 2 < a.K))) ∧ w1 = wx)
  case first =>
    have x2 := row_c (i := 2) (u := .slice la NL lc) HX0.out rfl
    have x0 := row_c (i := 0) (u := .int .i64 a.K) HX1.out rfl
    by_cases f1 : a.K < 0
    · have hd : decide (a.K < 0 ∨ (NL = 0 ∧ 2 < a.K)) = true := decide_eq_true (.inl f1)
      have q1 : decide (a.K < 0) = true := decide_eq_true f1
      have HD := hid hd
      clear hd
      go_wp2
      go_meet
      exact ⟨by rw [HD.out], rfl⟩
    · have q1 : decide (a.K < 0) = false := decide_eq_false f1
      by_cases f2 : NL = 0
      · have e2 : ((NL : Int) == 0) = true := by simp [f2]
        by_cases f3 : 2 < a.K
        · have hd : decide (a.K < 0 ∨ (NL = 0 ∧ 2 < a.K)) = true := decide_eq_true (.inr ⟨f2, f3⟩)
          have q3 : decide (2 < a.K) = true := decide_eq_true f3
          clear f2
          have HD := hid hd
          clear hd
          go_wp2
          go_meet
          exact ⟨by rw [HD.out], rfl⟩
        · have hd : decide (a.K < 0 ∨ (NL = 0 ∧ 2 < a.K)) = false := decide_eq_false (by omega)
          have q3 : decide (2 < a.K) = false := decide_eq_false f3
          clear f2
          have HD := hid hd
          clear hd
          go_wp2
          go_meet
          exact ⟨by rw [HD.out], rfl⟩
      · have e2 : ((NL : Int) == 0) = false := by simp [f2]
        have hd : decide (a.K < 0 ∨ (NL = 0 ∧ 2 < a.K)) = false := decide_eq_false (by omega)
        have HD := hid hd
        clear hd
        go_wp2
        go_meet
        exact ⟨by rw [HD.out], rfl⟩
  case rest =>
    obtain ⟨rfl, rfl⟩ := hcut
    obtain ⟨cb, hcb⟩ : ∃ cb, decide (a.K < 0 ∨ (NL = 0 ∧ 2 < a.K)) = cb := ⟨_, rfl⟩
    rw [hcb]
    have HCB := hid hcb
    clear hcb
    go_upto_if 28 with fail
    go_cut [29] from 29 to 29 (fun q wx => wx.heap.size = w.heap.size + 3 ∧ Below w.heap.size w wx ∧ wx.heap[w.heap.size]? = some (.cells (paC p b (.slice la NL lc) (.slice va NL vc)) 28 (0, 0)) ∧ wx.heap[w.heap.size + 1]? = some (.cells (ac5 { a with K := kd5 a.K NL }) 38 (0, 0)) ∧ wx.heap[w.heap.size + 2]? = some (.cells #[.int .i64 0, .int .i64 0, .int .i64 0] 33 (0, 0)))
    case first =>
      cases cb
      · have hk0 : kd5 a.K NL = a.K := if_neg (of_decide_eq_false HCB.out)
        have HK0 := hid hk0
        clear hk0
        go_wp2
        go_meet
        rw [HK0.out]
        exact ⟨HS1.out, HB1.out, HX0.out, HX1.out, HX2.out⟩
      · have hk0 : kd5 a.K NL = 1 := if_pos (of_decide_eq_true HCB.out)
        have HK0 := hid hk0
        have x0 := row_c (i := 0) (u := .int .i64 a.K) HX1.out rfl
        have f0 := frozen_of_row w1 (w.heap.size + 1) 0 _ _ HX1.out
        clear hk0
        go_wp2
        go_meet
        rw [HK0.out]
        refine ⟨by simp [World.setCell]; exact HS1.out, below_set HB1.out (by omega) 0 _, (heap_setCell_other w1 ⟨w.heap.size + 1, 0, none⟩ _ _ (by simp)).trans HX0.out, ?_, (heap_setCell_other w1 ⟨w.heap.size + 1, 0, none⟩ _ _ (by simp)).trans HX2.out⟩
        rw [heap_setCell_same w1 (w.heap.size + 1) 0 _ 38 _ HX1.out]
        rfl
    case rest =>
      obtain ⟨hsz, hbw, e0, e1, e2⟩ := hcut
      have HSZ := hid hsz
      have G0 := hid (Gz.begins hM H.out hbw hsz _ _ e0 e1 e2)
      clear hsz hbw e0 e1 e2
      obtain ⟨wB, hwB⟩ : ∃ wB, wc = wB := ⟨_, rfl⟩
      subst hwB
      go_upto_region 3 with fail
      go_cut [7, 8, 9] from 30 to 33 (fun p7 p8 p9 wx => ∃ b7 b8, p7 = .pointer (some ⟨b7, 0, none⟩) ∧ p8 = .pointer (some ⟨b8, 0, none⟩) ∧ p9 = .int .u64 (a.C : Int) ∧ Pb Pm lo X W w (paC p b (.slice la NL lc) (.slice va NL vc)) { a with K := kd5 a.K NL } wx p b S S b7 b8 #[.int .i64 0, .int .i64 0, .int .i64 0] #[.int .i64 0, .int .i64 0, .int .i64 0])
      case first =>
        have Y0 := hid (G0.out.self hM ((Below.refl _ wc).drew))
        refine wp_region_noPanic ?_
        refine wp_region_held_drew (S := fun w' => w'.heap[w.heap.size + 1]? = some (.cells (ac5 { a with K := kd5 a.K NL }) 38 (0, 0))) (by kernel_rfl) ((HE0.out _ _ Y0.out)) (fun h0 => ?_)
        have HSZ2 : Hid (wc.drew.heap.size = w.heap.size + 3) := hid HSZ.out
        generalize wc.drew = y1 at *
        refine wpAnyH_take (i := 0) (v := .agg #[.int .i64 0, .int .i64 0, .int .i64 0]) rfl (by kernel_rfl) (by kernel_rfl) (by kernel_rfl) (fun _ _ _ h => h) (.inl ⟨by rfl, fun w hw => by clear hw; go_simp⟩) h0 ?_
        try simp only [Act.put, lay_out]
        refine wpAnyH_take (i := 1) (v := .agg #[.int .i64 0, .int .i64 0, .int .i64 0]) rfl (by kernel_rfl) (by kernel_rfl) (by kernel_rfl) (fun _ _ _ h => h) (.inl ⟨by rfl, fun w hw => by clear hw; go_simp⟩) h0 ?_
        try simp only [Act.put, lay_out]
        refine wpAnyH_take (i := 2) (v := .pointer (some ⟨w.heap.size + 1, 4, none⟩)) rfl (by kernel_rfl) (by kernel_rfl) (by kernel_rfl) (fun _ _ _ h => h) (.inl ⟨by rfl, fun w hw => by clear hw; go_simp⟩) h0 ?_
        try simp only [Act.put, lay_out]
        refine wpAnyH_take (i := 3) (v := .int .u64 (a.C : Int)) rfl (by kernel_rfl) (by kernel_rfl) (by kernel_rfl) (fun _ _ _ h => h) (.inl ⟨by rfl, fun w' hw => by have hc := row_c (i := 4) (u := .int .u64 (a.C : Int)) hw rfl; clear hw; go_simp⟩) h0 ?_
        try simp only [Act.put, lay_out]
        refine wpAnyH_ready (rs := [4, 5]) (by kernel_rfl) (by simp) (AllReadyH.cons rfl (fun K hK => ?_) (AllReadyH.cons rfl (fun K hK => ?_) AllReadyH.nil))
        · rw [if_pos (by rfl)]
          go_simp
          have G1 := hid (Y0.out.box hM (by have := HSZ2.out; simp; omega) #[.int .i64 0, .int .i64 0, .int .i64 0])
          refine hK.out _ _ (HE0.out _ _ G1.out) (fun h1x => ?_)
          clear hK K
          try simp only [Act.put, lay_out]
          refine wpAnyH_ready (rs := [5]) (by kernel_rfl) (by simp) (AllReadyH.cons rfl (fun K hK => ?_) AllReadyH.nil)
          rw [if_pos (by rfl)]
          go_simp
          have G2 := hid (G1.out.box hM (by have := HSZ2.out; simp; omega) #[.int .i64 0, .int .i64 0, .int .i64 0])
          refine hK.out _ _ (HE0.out _ _ G2.out) (fun h2x => ?_)
          clear hK K
          try simp only [Act.put, lay_out]
          have P0 : Hid (Pb Pm lo X W w (paC p b (.slice la NL lc) (.slice va NL vc)) { a with K := kd5 a.K NL } ((y1.alloc (.cells #[.int .i64 0, .int .i64 0, .int .i64 0] 33)).alloc (.cells #[.int .i64 0, .int .i64 0, .int .i64 0] 33)) p b S S y1.heap.size (y1.heap.size + 1) #[.int .i64 0, .int .i64 0, .int .i64 0] #[.int .i64 0, .int .i64 0, .int .i64 0]) := hid ⟨by have := G2.out.swap (bs' := [(y1.heap.size, #[.int .i64 0, .int .i64 0, .int .i64 0]), ((y1.alloc (.cells #[.int .i64 0, .int .i64 0, .int .i64 0] 33)).heap.size, #[.int .i64 0, .int .i64 0, .int .i64 0]), (w.heap.size + 2, #[.int .i64 0, .int .i64 0, .int .i64 0])]) (by intro q hq; simp at hq ⊢; rcases hq with rfl | rfl | rfl <;> simp); simpa using this, by have := HSZ2.out; simp; try omega⟩
          refine wpAnyH_ready (rs := [6]) (by kernel_rfl) (by simp) (AllReadyH.cons rfl (fun K hK => ?_) AllReadyH.nil)
          rw [if_pos (by rfl)]
          refine wp_store_row 33 _ _ rfl y1.heap.size #[.int .i64 0, .int .i64 0, .int .i64 0] rfl rfl 33 _ P0.out.h7 (by kernel_rfl) rfl (by kernel_rfl) ?_
          have P1 := hid (P0.out.put7 hM #[.int .i64 0, .int .i64 0, .int .i64 0])
          refine hK.out _ _ (P1.out.act) (fun h3x => ?_)
          clear hK K
          try simp only [Act.put, lay_out]
          refine wpAnyH_ready (rs := [7]) (by kernel_rfl) (by simp) (AllReadyH.cons rfl (fun K hK => ?_) AllReadyH.nil)
          rw [if_pos (by rfl)]
          refine wp_store_row 33 _ _ rfl (y1.heap.size + 1) #[.int .i64 0, .int .i64 0, .int .i64 0] rfl rfl 33 _ P1.out.h8 (by kernel_rfl) rfl (by kernel_rfl) ?_
          have P2 := hid (P1.out.put8 hM #[.int .i64 0, .int .i64 0, .int .i64 0])
          refine hK.out _ _ (P2.out.act) (fun h4x => ?_)
          clear hK K
          try simp only [Act.put, lay_out]
          refine wpAnyH_take (i := 8) (v := .int .u64 (a.C : Int)) rfl (by kernel_rfl) (by kernel_rfl) (by kernel_rfl) (fun _ _ _ h => h) (.inl ⟨by rfl, fun w hw => by clear hw; go_simp⟩) h4x ?_
          try simp only [Act.put, lay_out]
          refine wpAnyH_done (by kernel_rfl) ?_ _
          refine NoPanic.normal ?_
          clear h0 h1x h2x h3x h4x
          try simp only [Act.put, lay_out]
          go_wp2_with fail
          go_meet
          exact ⟨_, _, rfl, rfl, rfl, P2.out⟩
        · rw [if_pos (by rfl)]
          go_simp
          have G1 := hid (Y0.out.box hM (by have := HSZ2.out; simp; omega) #[.int .i64 0, .int .i64 0, .int .i64 0])
          refine hK.out _ _ (HE0.out _ _ G1.out) (fun h1x => ?_)
          clear hK K
          try simp only [Act.put, lay_out]
          refine wpAnyH_ready (rs := [4]) (by kernel_rfl) (by simp) (AllReadyH.cons rfl (fun K hK => ?_) AllReadyH.nil)
          rw [if_pos (by rfl)]
          go_simp
          have G2 := hid (G1.out.box hM (by have := HSZ2.out; simp; omega) #[.int .i64 0, .int .i64 0, .int .i64 0])
          refine hK.out _ _ (HE0.out _ _ G2.out) (fun h2x => ?_)
          clear hK K
          try simp only [Act.put, lay_out]
          have P0 : Hid (Pb Pm lo X W w (paC p b (.slice la NL lc) (.slice va NL vc)) { a with K := kd5 a.K NL } ((y1.alloc (.cells #[.int .i64 0, .int .i64 0, .int .i64 0] 33)).alloc (.cells #[.int .i64 0, .int .i64 0, .int .i64 0] 33)) p b S S (y1.heap.size + 1) y1.heap.size #[.int .i64 0, .int .i64 0, .int .i64 0] #[.int .i64 0, .int .i64 0, .int .i64 0]) := hid ⟨by have := G2.out; simpa using this, by have := HSZ2.out; simp; try omega⟩
          refine wpAnyH_ready (rs := [6]) (by kernel_rfl) (by simp) (AllReadyH.cons rfl (fun K hK => ?_) AllReadyH.nil)
          rw [if_pos (by rfl)]
          refine wp_store_row 33 _ _ rfl (y1.heap.size + 1) #[.int .i64 0, .int .i64 0, .int .i64 0] rfl rfl 33 _ P0.out.h7 (by kernel_rfl) rfl (by kernel_rfl) ?_
          have P1 := hid (P0.out.put7 hM #[.int .i64 0, .int .i64 0, .int .i64 0])
          refine hK.out _ _ (P1.out.act) (fun h3x => ?_)
          clear hK K
          try simp only [Act.put, lay_out]
          refine wpAnyH_ready (rs := [7]) (by kernel_rfl) (by simp) (AllReadyH.cons rfl (fun K hK => ?_) AllReadyH.nil)
          rw [if_pos (by rfl)]
          refine wp_store_row 33 _ _ rfl y1.heap.size #[.int .i64 0, .int .i64 0, .int .i64 0] rfl rfl 33 _ P1.out.h8 (by kernel_rfl) rfl (by kernel_rfl) ?_
          have P2 := hid (P1.out.put8 hM #[.int .i64 0, .int .i64 0, .int .i64 0])
          refine hK.out _ _ (P2.out.act) (fun h4x => ?_)
          clear hK K
          try simp only [Act.put, lay_out]
          refine wpAnyH_take (i := 8) (v := .int .u64 (a.C : Int)) rfl (by kernel_rfl) (by kernel_rfl) (by kernel_rfl) (fun _ _ _ h => h) (.inl ⟨by rfl, fun w hw => by clear hw; go_simp⟩) h4x ?_
          try simp only [Act.put, lay_out]
          refine wpAnyH_done (by kernel_rfl) ?_ _
          refine NoPanic.normal ?_
          clear h0 h1x h2x h3x h4x
          try simp only [Act.put, lay_out]
          go_wp2_with fail
          go_meet
          exact ⟨_, _, rfl, rfl, rfl, P2.out⟩
      case rest =>
        obtain ⟨b7, b8, rfl, rfl, rfl, hP⟩ := hcut
        have P := hid hP
        clear hP
        have x0 : wc.cell? ⟨w.heap.size + 1, 0, none⟩ = some (.int .i64 0) := by have := row_c (i := 0) (u := .int .i64 (kd5 a.K NL)) P.out.act rfl; rw [HKD.out] at this; exact this
        go_wp2_with fail
        clear x0
        have P0 := hid (P.out.self hM ((Below.refl _ wc).drew))
        refine wp_region_noPanic ?_
        refine wp_region_held_drew (S := fun w' => w'.heap[w.heap.size]? = some (.cells (paC p b (.slice la NL lc) (.slice va NL vc)) 28 (0, 0)) ∧ w'.heap[w.heap.size + 1]? = some (.cells (ac5 { a with K := kd5 a.K NL }) 38 (0, 0))) (by kernel_rfl) (⟨P0.out.pair, P0.out.act⟩) (fun h0 => ?_)
        generalize wc.drew = y2 at *
        refine wpAnyH_take (i := 0) (v := .pointer (some ⟨w.heap.size, 0, none⟩)) rfl (by kernel_rfl) (by kernel_rfl) (by kernel_rfl) (fun _ _ _ h => h) (.inl ⟨by rfl, fun w hw => by clear hw; go_simp⟩) h0 ?_
        try simp only [Act.put, lay_out]
        refine wpAnyH_take (i := 1) (v := .pointer (some ⟨p, 0, none⟩)) rfl (by kernel_rfl) (by kernel_rfl) (by kernel_rfl) (fun _ _ _ h => h) (.inl ⟨by rfl, fun w' hw => by have hc := row_c (i := 0) (u := .pointer (some ⟨p, 0, none⟩)) hw.1 rfl; clear hw; go_simp⟩) h0 ?_
        try simp only [Act.put, lay_out]
        refine wpAnyH_take (i := 2) (v := .pointer (some ⟨w.heap.size + 1, 4, none⟩)) rfl (by kernel_rfl) (by kernel_rfl) (by kernel_rfl) (fun _ _ _ h => h) (.inl ⟨by rfl, fun w hw => by clear hw; go_simp⟩) h0 ?_
        try simp only [Act.put, lay_out]
        refine wpAnyH_take (i := 3) (v := .int .u64 (a.C : Int)) rfl (by kernel_rfl) (by kernel_rfl) (by kernel_rfl) (fun _ _ _ h => h) (.inl ⟨by rfl, fun w' hw => by have hc := row_c (i := 4) (u := .int .u64 (a.C : Int)) hw.2 rfl; clear hw; go_simp⟩) h0 ?_
        try simp only [Act.put, lay_out]
        refine wpAnyH_take (i := 5) (v := .pointer (some ⟨w.heap.size, 1, none⟩)) rfl (by kernel_rfl) (by kernel_rfl) (by kernel_rfl) (fun _ _ _ h => h) (.inl ⟨by rfl, fun w hw => by clear hw; go_simp⟩) h0 ?_
        try simp only [Act.put, lay_out]
        refine wpAnyH_take (i := 6) (v := .pointer (some ⟨b, 0, none⟩)) rfl (by kernel_rfl) (by kernel_rfl) (by kernel_rfl) (fun _ _ _ h => h) (.inl ⟨by rfl, fun w' hw => by have hc := row_c (i := 1) (u := .pointer (some ⟨b, 0, none⟩)) hw.1 rfl; clear hw; go_simp⟩) h0 ?_
        try simp only [Act.put, lay_out]
        refine wpAnyH_take (i := 7) (v := .pointer (some ⟨w.heap.size + 1, 4, none⟩)) rfl (by kernel_rfl) (by kernel_rfl) (by kernel_rfl) (fun _ _ _ h => h) (.inl ⟨by rfl, fun w hw => by clear hw; go_simp⟩) h0 ?_
        try simp only [Act.put, lay_out]
        refine wpAnyH_take (i := 8) (v := .int .u64 (a.C : Int)) rfl (by kernel_rfl) (by kernel_rfl) (by kernel_rfl) (fun _ _ _ h => h) (.inl ⟨by rfl, fun w' hw => by have hc := row_c (i := 4) (u := .int .u64 (a.C : Int)) hw.2 rfl; clear hw; go_simp⟩) h0 ?_
        try simp only [Act.put, lay_out]
        refine wpAnyH_ready (rs := [4]) (by kernel_rfl) (by simp) (AllReadyH.cons rfl (fun K hK => ?_) AllReadyH.nil)
        rw [if_pos (by rfl)]
        go_simp
        go_at_call 13
        (with_reducible refine (qenc hM hS a.C P0.out.g.z HQ.out HK.out HN.out HC.out).mono ?_); rintro e w5 ⟨rfl, hz, hs⟩
        have P1 := hid (P0.out.on hz hs)
        clear hz hs
        refine hK.out _ _ (⟨P1.out.pair, P1.out.act⟩) (fun h1x => ?_)
        clear hK K
        try simp only [Act.put, lay_out]
        refine wpAnyH_ready (rs := [9]) (by kernel_rfl) (by simp) (AllReadyH.cons rfl (fun K hK => ?_) AllReadyH.nil)
        rw [if_pos (by rfl)]
        go_simp
        go_at_call 18
        (with_reducible refine (yenc hM P1.out.g.z HQ.out HK.out HN.out a.C HC.out).mono ?_); rintro e w6 ⟨rfl, hz, hs⟩
        have P2 := hid (P1.out.on hz hs)
        clear hz hs
        refine hK.out _ _ (⟨P2.out.pair, P2.out.act⟩) (fun h2x => ?_)
        clear hK K
        try simp only [Act.put, lay_out]
        refine wpAnyH_ready (rs := [10]) (by kernel_rfl) (by simp) (AllReadyH.cons rfl (fun K hK => ?_) AllReadyH.nil)
        rw [if_pos (by rfl)]
        refine wp_store_row 33 _ _ rfl b7 (wdV (encR S)) rfl rfl 33 _ P2.out.h7 (by kernel_rfl) rfl (by kernel_rfl) ?_
        have P3 := hid (P2.out.put7 hM (wdV (encR S)))
        refine hK.out _ _ (⟨P3.out.pair, P3.out.act⟩) (fun h3x => ?_)
        clear hK K
        try simp only [Act.put, lay_out]
        refine wpAnyH_ready (rs := [11]) (by kernel_rfl) (by simp) (AllReadyH.cons rfl (fun K hK => ?_) AllReadyH.nil)
        rw [if_pos (by rfl)]
        refine wp_store_row 33 _ _ rfl b8 (wdV (encR S)) rfl rfl 33 _ P3.out.h8 (by kernel_rfl) rfl (by kernel_rfl) ?_
        have P4 := hid (P3.out.put8 hM (wdV (encR S)))
        refine hK.out _ _ (⟨P4.out.pair, P4.out.act⟩) (fun h4x => ?_)
        clear hK K
        try simp only [Act.put, lay_out]
        refine wpAnyH_done (by kernel_rfl) ?_ _
        refine NoPanic.normal ?_
        clear h0 h1x h2x h3x h4x
        try simp only [Act.put, lay_out]
        go_wp2_with fail
        have Q0 := hid (P4.out.self hM ((Below.refl _ ((w6.setRow b7 (wdV (encR S))).setRow b8 (wdV (encR S)))).drew))
        refine wp_region_noPanic ?_
        refine wp_region_held_drew (S := fun w' => w'.heap[b7]? = some (.cells (wdV (encR S)) 33 (0, 0)) ∧ w'.heap[b8]? = some (.cells (wdV (encR S)) 33 (0, 0))) (by kernel_rfl) (⟨Q0.out.h7, Q0.out.h8⟩) (fun h0 => ?_)
        generalize ((w6.setRow b7 (wdV (encR S))).setRow b8 (wdV (encR S))).drew = y3 at *
        refine wpAnyH_take (i := 0) (v := .agg (wdV (encR S))) rfl (by kernel_rfl) (by kernel_rfl) (by kernel_rfl) (fun _ _ _ h => h) (yields_load_row (by rfl) 33 _ rfl b7 33 (wdV (encR S)) _ rfl (fun w h => h.1) Try.underlying33 rfl (by kernel_rfl)) h0 ?_
        try simp only [Act.put, lay_out]
        refine wpAnyH_take (i := 1) (v := .int .u64 (a.C : Int)) rfl (by kernel_rfl) (by kernel_rfl) (by kernel_rfl) (fun _ _ _ h => h) (.inl ⟨by rfl, fun w hw => by clear hw; go_simp⟩) h0 ?_
        try simp only [Act.put, lay_out]
        refine wpAnyH_take (i := 2) (v := .agg (wdV (encR S))) rfl (by kernel_rfl) (by kernel_rfl) (by kernel_rfl) (fun _ _ _ h => h) (yields_load_row (by rfl) 33 _ rfl b7 33 (wdV (encR S)) _ rfl (fun w h => h.1) Try.underlying33 rfl (by kernel_rfl)) h0 ?_
        try simp only [Act.put, lay_out]
        refine wpAnyH_take (i := 3) (v := .agg (wdV (encR S))) rfl (by kernel_rfl) (by kernel_rfl) (by kernel_rfl) (fun _ _ _ h => h) (yields_load_row (by rfl) 33 _ rfl b8 33 (wdV (encR S)) _ rfl (fun w h => h.2) Try.underlying33 rfl (by kernel_rfl)) h0 ?_
        try simp only [Act.put, lay_out]
        refine wpAnyH_take (i := 4) (v := .bool true) rfl (by kernel_rfl) (by kernel_rfl) (by kernel_rfl) (fun _ _ _ h => h) (.inl ⟨by rfl, fun w' _ => by rw [exec_eqWd _ _ rfl (encR S) (encR S) rfl rfl]; simp⟩) h0 ?_
        try simp only [Act.put, lay_out]
        refine wpAnyH_ready (rs := [5]) (by kernel_rfl) (by simp) (AllReadyH.cons rfl (fun K hK => ?_) AllReadyH.nil)
        rw [if_pos (by rfl)]
        refine wp_store_row 33 _ _ rfl (w.heap.size + 2) (wdV (encR S)) rfl rfl 33 _ Q0.out.h4 (by kernel_rfl) rfl (by kernel_rfl) ?_
        have Q1 := hid (Q0.out.put4 hM (wdV (encR S)))
        refine hK.out _ _ (⟨(Q1.out.bx (b7, wdV (encR S)) (by simp)).2, (Q1.out.bx (b8, wdV (encR S)) (by simp)).2⟩) (fun h1x => ?_)
        clear hK K
        try simp only [Act.put, lay_out]
        refine wpAnyH_take (i := 6) (v := .int .u64 (a.C : Int)) rfl (by kernel_rfl) (by kernel_rfl) (by kernel_rfl) (fun _ _ _ h => h) (.inl ⟨by rfl, fun w hw => by clear hw; go_simp⟩) h1x ?_
        try simp only [Act.put, lay_out]
        refine wpAnyH_take (i := 7) (v := .bool true) rfl (by kernel_rfl) (by kernel_rfl) (by kernel_rfl) (fun _ _ _ h => h) (.inl ⟨by rfl, fun w hw => by clear hw; go_simp⟩) h1x ?_
        try simp only [Act.put, lay_out]
        refine wpAnyH_done (by kernel_rfl) ?_ _
        refine NoPanic.normal ?_
        clear h0 h1x
        try simp only [Act.put, lay_out]
        go_wp2
        exact ret_row_tmp2 rfl rfl (Q1.out.bx (w.heap.size + 2, wdV (encR S)) (by simp)).2 Try.underlying33 rfl (by kernel_rfl) rfl ⟨rfl, Gz.fin5 hM HXL.out Q1.out HBW0.out⟩
set_option maxHeartbeats 12800000 in
theorem ldoe_1 {Pm : World → Nat → Ms → (Nat → Prop) → Prop} (hM : Mach Pm) (hS : ShI Pm) {lo : Nat} {X : Nat → Prop} {W w : World} {p b k : Nat} {S : Ms} (h : Bz Pm lo X W w p b S S) (hq : Bq k S) (hk : k + 10 ≤ 100000) (hn : S.n = 2 ∨ S.n = 3) (a : Ac5) (la va : Option Addr) (NL lc vc : Nat) (hC : a.C < 2 ^ 64) (hkd : kd5 a.K NL = 1) :
    Calls Try.prog 7 #[.agg (paC p b (.slice la NL lc) (.slice va NL vc)), .agg (ac5 a)] w fun e w' => e = .returned (.tuple #[.agg (wdV (cstR S 3 a.C)), .int .u64 (a.C : Int), .bool true]) ∧ Bz Pm lo X W w' p b (cstS S 3 a.C) (cstS S 3 a.C) ∧ ∀ k, X k → w'.heap[k]? = w.heap[k]? := by
  have HQ := hid hq
  have HK := hid hk
  have HK3 : Hid (k + 3 ≤ 100000) := hid (by omega)
  have HN := hid hn
  have HC := hid hC
  have HKD := hid hkd
  have HXL : Hid (∀ k, X k → k < w.heap.size) := hid (by
    obtain ⟨F, G, ov, bv, vv, tv, h1, h2, h3, h4, h5, h6, h7⟩ := h
    exact fun k hk => (h4 k hk).1)
  have HBW0 : Hid (Below w.heap.size w ((w.alloc (.cells (paC p b (.slice la NL lc) (.slice va NL vc)) 28)).alloc (.cells (ac5 { a with K := kd5 a.K NL }) 38))) := hid (((Below.refl _ _).alloc (Nat.le_refl _) _).alloc (by simp) _)
  have HI3 : Hid (I64 3) := hid (i64c 3 (by decide) (by decide))
  have HI4 : Hid (I64 4) := hid (i64c 4 (by decide) (by decide))
  clear hq hk hn hC hkd
  have HE0 : Hid (∀ wx bs, Gz Pm lo (fun k => X k ∨ k = w.heap.size ∨ k = w.heap.size + 1) W ((w.alloc (.cells (paC p b (.slice la NL lc) (.slice va NL vc)) 28)).alloc (.cells (ac5 { a with K := kd5 a.K NL }) 38)) wx p b S S bs → wx.heap[w.heap.size + 1]? = some (.cells (ac5 { a with K := kd5 a.K NL }) 38 (0, 0))) := hid (fun wx bs hg => (hg.st _ (.inr (.inr rfl))).2.trans (by have := heap_alloc_new (w.alloc (.cells (paC p b (.slice la NL lc) (.slice va NL vc)) 28)) (.cells (ac5 { a with K := kd5 a.K NL }) 38); rw [show (w.alloc (.cells (paC p b (.slice la NL lc) (.slice va NL vc)) 28)).heap.size = w.heap.size + 1 by simp] at this; exact this))
  obtain ⟨w1, hw1⟩ : ∃ w1, ((w.alloc (.cells (paC p b (.slice la NL lc) (.slice va NL vc)) 28)).alloc (.cells (ac5 a) 38)).alloc (.cells #[.int .i64 0, .int .i64 0, .int .i64 0] 33) = w1 := ⟨_, rfl⟩
  have HB1 : Hid (Below w.heap.size w w1) := hid (by rw [← hw1]; exact (((Below.refl _ _).alloc (Nat.le_refl _) _).alloc (by simp) _).alloc (by simp; try omega) _)
  have HS1 : Hid (w1.heap.size = w.heap.size + 3) := hid (by rw [← hw1]; simp)
  have HX0 : Hid (w1.heap[w.heap.size]? = some (.cells (paC p b (.slice la NL lc) (.slice va NL vc)) 28 (0, 0))) := hid (by rw [← hw1]; exact (heap_alloc_old _ _ (by simp; try omega)).trans ((heap_alloc_old _ _ (by simp)).trans (heap_alloc_new _ _)))
  have HX1 : Hid (w1.heap[w.heap.size + 1]? = some (.cells (ac5 a) 38 (0, 0))) := hid (by rw [← hw1]; refine (heap_alloc_old _ _ (by simp)).trans ?_; have := heap_alloc_new (w.alloc (.cells (paC p b (.slice la NL lc) (.slice va NL vc)) 28)) (.cells (ac5 a) 38); rw [show (w.alloc (.cells (paC p b (.slice la NL lc) (.slice va NL vc)) 28)).heap.size = w.heap.size + 1 by simp] at this; exact this)
  have HX2 : Hid (w1.heap[w.heap.size + 2]? = some (.cells #[.int .i64 0, .int .i64 0, .int .i64 0] 33 (0, 0))) := hid (by rw [← hw1]; have := heap_alloc_new ((w.alloc (.cells (paC p b (.slice la NL lc) (.slice va NL vc)) 28)).alloc (.cells (ac5 a) 38)) (.cells #[.int .i64 0, .int .i64 0, .int .i64 0] 33); rw [show ((w.alloc (.cells (paC p b (.slice la NL lc) (.slice va NL vc)) 28)).alloc (.cells (ac5 a) 38)).heap.size = w.heap.size + 2 by simp] at this; exact this)
  have HW1 := hid hw1
  have H := hid h
  clear h hw1
  go_enter Try.func7, Try.ntmps7
  go_upto_region 1 with fail
  rw [HW1.out]
  go_cut [28] from 15 to 28 (fun q wx => q = .bool (decide (a.K < 0 ∨ (NL = 0 ∧ 2 < a.K))) ∧ w1 = wx)
  case first =>
    have x2 := row_c (i := 2) (u := .slice la NL lc) HX0.out rfl
    have x0 := row_c (i := 0) (u := .int .i64 a.K) HX1.out rfl
    by_cases f1 : a.K < 0
    · have hd : decide (a.K < 0 ∨ (NL = 0 ∧ 2 < a.K)) = true := decide_eq_true (.inl f1)
      have q1 : decide (a.K < 0) = true := decide_eq_true f1
      have HD := hid hd
      clear hd
      go_wp2
      go_meet
      exact ⟨by rw [HD.out], rfl⟩
    · have q1 : decide (a.K < 0) = false := decide_eq_false f1
      by_cases f2 : NL = 0
      · have e2 : ((NL : Int) == 0) = true := by simp [f2]
        by_cases f3 : 2 < a.K
        · have hd : decide (a.K < 0 ∨ (NL = 0 ∧ 2 < a.K)) = true := decide_eq_true (.inr ⟨f2, f3⟩)
          have q3 : decide (2 < a.K) = true := decide_eq_true f3
          clear f2
          have HD := hid hd
          clear hd
          go_wp2
          go_meet
          exact ⟨by rw [HD.out], rfl⟩
        · have hd : decide (a.K < 0 ∨ (NL = 0 ∧ 2 < a.K)) = false := decide_eq_false (by omega)
          have q3 : decide (2 < a.K) = false := decide_eq_false f3
          clear f2
          have HD := hid hd
          clear hd
          go_wp2
          go_meet
          exact ⟨by rw [HD.out], rfl⟩
      · have e2 : ((NL : Int) == 0) = false := by simp [f2]
        have hd : decide (a.K < 0 ∨ (NL = 0 ∧ 2 < a.K)) = false := decide_eq_false (by omega)
        have HD := hid hd
        clear hd
        go_wp2
        go_meet
        exact ⟨by rw [HD.out], rfl⟩
  case rest =>
    obtain ⟨rfl, rfl⟩ := hcut
    obtain ⟨cb, hcb⟩ : ∃ cb, decide (a.K < 0 ∨ (NL = 0 ∧ 2 < a.K)) = cb := ⟨_, rfl⟩
    rw [hcb]
    have HCB := hid hcb
    clear hcb
    go_upto_if 28 with fail
    go_cut [29] from 29 to 29 (fun q wx => wx.heap.size = w.heap.size + 3 ∧ Below w.heap.size w wx ∧ wx.heap[w.heap.size]? = some (.cells (paC p b (.slice la NL lc) (.slice va NL vc)) 28 (0, 0)) ∧ wx.heap[w.heap.size + 1]? = some (.cells (ac5 { a with K := kd5 a.K NL }) 38 (0, 0)) ∧ wx.heap[w.heap.size + 2]? = some (.cells #[.int .i64 0, .int .i64 0, .int .i64 0] 33 (0, 0)))
    case first =>
      cases cb
      · have hk0 : kd5 a.K NL = a.K := if_neg (of_decide_eq_false HCB.out)
        have HK0 := hid hk0
        clear hk0
        go_wp2
        go_meet
        rw [HK0.out]
        exact ⟨HS1.out, HB1.out, HX0.out, HX1.out, HX2.out⟩
      · have hk0 : kd5 a.K NL = 1 := if_pos (of_decide_eq_true HCB.out)
        have HK0 := hid hk0
        have x0 := row_c (i := 0) (u := .int .i64 a.K) HX1.out rfl
        have f0 := frozen_of_row w1 (w.heap.size + 1) 0 _ _ HX1.out
        clear hk0
        go_wp2
        go_meet
        rw [HK0.out]
        refine ⟨by simp [World.setCell]; exact HS1.out, below_set HB1.out (by omega) 0 _, (heap_setCell_other w1 ⟨w.heap.size + 1, 0, none⟩ _ _ (by simp)).trans HX0.out, ?_, (heap_setCell_other w1 ⟨w.heap.size + 1, 0, none⟩ _ _ (by simp)).trans HX2.out⟩
        rw [heap_setCell_same w1 (w.heap.size + 1) 0 _ 38 _ HX1.out]
        rfl
    case rest =>
      obtain ⟨hsz, hbw, e0, e1, e2⟩ := hcut
      have HSZ := hid hsz
      have G0 := hid (Gz.begins hM H.out hbw hsz _ _ e0 e1 e2)
      clear hsz hbw e0 e1 e2
      obtain ⟨wB, hwB⟩ : ∃ wB, wc = wB := ⟨_, rfl⟩
      subst hwB
      go_upto_region 3 with fail
      go_cut [7, 8, 9] from 30 to 33 (fun p7 p8 p9 wx => ∃ b7 b8, p7 = .pointer (some ⟨b7, 0, none⟩) ∧ p8 = .pointer (some ⟨b8, 0, none⟩) ∧ p9 = .int .u64 (a.C : Int) ∧ Pb Pm lo X W w (paC p b (.slice la NL lc) (.slice va NL vc)) { a with K := kd5 a.K NL } wx p b S S b7 b8 #[.int .i64 0, .int .i64 0, .int .i64 0] #[.int .i64 0, .int .i64 0, .int .i64 0])
      case first =>
        have Y0 := hid (G0.out.self hM ((Below.refl _ wc).drew))
        refine wp_region_noPanic ?_
        refine wp_region_held_drew (S := fun w' => w'.heap[w.heap.size + 1]? = some (.cells (ac5 { a with K := kd5 a.K NL }) 38 (0, 0))) (by kernel_rfl) ((HE0.out _ _ Y0.out)) (fun h0 => ?_)
        have HSZ2 : Hid (wc.drew.heap.size = w.heap.size + 3) := hid HSZ.out
        generalize wc.drew = y1 at *
        refine wpAnyH_take (i := 0) (v := .agg #[.int .i64 0, .int .i64 0, .int .i64 0]) rfl (by kernel_rfl) (by kernel_rfl) (by kernel_rfl) (fun _ _ _ h => h) (.inl ⟨by rfl, fun w hw => by clear hw; go_simp⟩) h0 ?_
        try simp only [Act.put, lay_out]
        refine wpAnyH_take (i := 1) (v := .agg #[.int .i64 0, .int .i64 0, .int .i64 0]) rfl (by kernel_rfl) (by kernel_rfl) (by kernel_rfl) (fun _ _ _ h => h) (.inl ⟨by rfl, fun w hw => by clear hw; go_simp⟩) h0 ?_
        try simp only [Act.put, lay_out]
        refine wpAnyH_take (i := 2) (v := .pointer (some ⟨w.heap.size + 1, 4, none⟩)) rfl (by kernel_rfl) (by kernel_rfl) (by kernel_rfl) (fun _ _ _ h => h) (.inl ⟨by rfl, fun w hw => by clear hw; go_simp⟩) h0 ?_
        try simp only [Act.put, lay_out]
        refine wpAnyH_take (i := 3) (v := .int .u64 (a.C : Int)) rfl (by kernel_rfl) (by kernel_rfl) (by kernel_rfl) (fun _ _ _ h => h) (.inl ⟨by rfl, fun w' hw => by have hc := row_c (i := 4) (u := .int .u64 (a.C : Int)) hw rfl; clear hw; go_simp⟩) h0 ?_
        try simp only [Act.put, lay_out]
        refine wpAnyH_ready (rs := [4, 5]) (by kernel_rfl) (by simp) (AllReadyH.cons rfl (fun K hK => ?_) (AllReadyH.cons rfl (fun K hK => ?_) AllReadyH.nil))
        · rw [if_pos (by rfl)]
          go_simp
          have G1 := hid (Y0.out.box hM (by have := HSZ2.out; simp; omega) #[.int .i64 0, .int .i64 0, .int .i64 0])
          refine hK.out _ _ (HE0.out _ _ G1.out) (fun h1x => ?_)
          clear hK K
          try simp only [Act.put, lay_out]
          refine wpAnyH_ready (rs := [5]) (by kernel_rfl) (by simp) (AllReadyH.cons rfl (fun K hK => ?_) AllReadyH.nil)
          rw [if_pos (by rfl)]
          go_simp
          have G2 := hid (G1.out.box hM (by have := HSZ2.out; simp; omega) #[.int .i64 0, .int .i64 0, .int .i64 0])
          refine hK.out _ _ (HE0.out _ _ G2.out) (fun h2x => ?_)
          clear hK K
          try simp only [Act.put, lay_out]
          have P0 : Hid (Pb Pm lo X W w (paC p b (.slice la NL lc) (.slice va NL vc)) { a with K := kd5 a.K NL } ((y1.alloc (.cells #[.int .i64 0, .int .i64 0, .int .i64 0] 33)).alloc (.cells #[.int .i64 0, .int .i64 0, .int .i64 0] 33)) p b S S y1.heap.size (y1.heap.size + 1) #[.int .i64 0, .int .i64 0, .int .i64 0] #[.int .i64 0, .int .i64 0, .int .i64 0]) := hid ⟨by have := G2.out.swap (bs' := [(y1.heap.size, #[.int .i64 0, .int .i64 0, .int .i64 0]), ((y1.alloc (.cells #[.int .i64 0, .int .i64 0, .int .i64 0] 33)).heap.size, #[.int .i64 0, .int .i64 0, .int .i64 0]), (w.heap.size + 2, #[.int .i64 0, .int .i64 0, .int .i64 0])]) (by intro q hq; simp at hq ⊢; rcases hq with rfl | rfl | rfl <;> simp); simpa using this, by have := HSZ2.out; simp; try omega⟩
          refine wpAnyH_ready (rs := [6]) (by kernel_rfl) (by simp) (AllReadyH.cons rfl (fun K hK => ?_) AllReadyH.nil)
          rw [if_pos (by rfl)]
          refine wp_store_row 33 _ _ rfl y1.heap.size #[.int .i64 0, .int .i64 0, .int .i64 0] rfl rfl 33 _ P0.out.h7 (by kernel_rfl) rfl (by kernel_rfl) ?_
          have P1 := hid (P0.out.put7 hM #[.int .i64 0, .int .i64 0, .int .i64 0])
          refine hK.out _ _ (P1.out.act) (fun h3x => ?_)
          clear hK K
          try simp only [Act.put, lay_out]
          refine wpAnyH_ready (rs := [7]) (by kernel_rfl) (by simp) (AllReadyH.cons rfl (fun K hK => ?_) AllReadyH.nil)
          rw [if_pos (by rfl)]
          refine wp_store_row 33 _ _ rfl (y1.heap.size + 1) #[.int .i64 0, .int .i64 0, .int .i64 0] rfl rfl 33 _ P1.out.h8 (by kernel_rfl) rfl (by kernel_rfl) ?_
          have P2 := hid (P1.out.put8 hM #[.int .i64 0, .int .i64 0, .int .i64 0])
          refine hK.out _ _ (P2.out.act) (fun h4x => ?_)
          clear hK K
          try simp only [Act.put, lay_out]
          refine wpAnyH_take (i := 8) (v := .int .u64 (a.C : Int)) rfl (by kernel_rfl) (by kernel_rfl) (by kernel_rfl) (fun _ _ _ h => h) (.inl ⟨by rfl, fun w hw => by clear hw; go_simp⟩) h4x ?_
          try simp only [Act.put, lay_out]
          refine wpAnyH_done (by kernel_rfl) ?_ _
          refine NoPanic.normal ?_
          clear h0 h1x h2x h3x h4x
          try simp only [Act.put, lay_out]
          go_wp2_with fail
          go_meet
          exact ⟨_, _, rfl, rfl, rfl, P2.out⟩
        · rw [if_pos (by rfl)]
          go_simp
          have G1 := hid (Y0.out.box hM (by have := HSZ2.out; simp; omega) #[.int .i64 0, .int .i64 0, .int .i64 0])
          refine hK.out _ _ (HE0.out _ _ G1.out) (fun h1x => ?_)
          clear hK K
          try simp only [Act.put, lay_out]
          refine wpAnyH_ready (rs := [4]) (by kernel_rfl) (by simp) (AllReadyH.cons rfl (fun K hK => ?_) AllReadyH.nil)
          rw [if_pos (by rfl)]
          go_simp
          have G2 := hid (G1.out.box hM (by have := HSZ2.out; simp; omega) #[.int .i64 0, .int .i64 0, .int .i64 0])
          refine hK.out _ _ (HE0.out _ _ G2.out) (fun h2x => ?_)
          clear hK K
          try simp only [Act.put, lay_out]
          have P0 : Hid (Pb Pm lo X W w (paC p b (.slice la NL lc) (.slice va NL vc)) { a with K := kd5 a.K NL } ((y1.alloc (.cells #[.int .i64 0, .int .i64 0, .int .i64 0] 33)).alloc (.cells #[.int .i64 0, .int .i64 0, .int .i64 0] 33)) p b S S (y1.heap.size + 1) y1.heap.size #[.int .i64 0, .int .i64 0, .int .i64 0] #[.int .i64 0, .int .i64 0, .int .i64 0]) := hid ⟨by have := G2.out; simpa using this, by have := HSZ2.out; simp; try omega⟩
          refine wpAnyH_ready (rs := [6]) (by kernel_rfl) (by simp) (AllReadyH.cons rfl (fun K hK => ?_) AllReadyH.nil)
          rw [if_pos (by rfl)]
          refine wp_store_row 33 _ _ rfl (y1.heap.size + 1) #[.int .i64 0, .int .i64 0, .int .i64 0] rfl rfl 33 _ P0.out.h7 (by kernel_rfl) rfl (by kernel_rfl) ?_
          have P1 := hid (P0.out.put7 hM #[.int .i64 0, .int .i64 0, .int .i64 0])
          refine hK.out _ _ (P1.out.act) (fun h3x => ?_)
          clear hK K
          try simp only [Act.put, lay_out]
          refine wpAnyH_ready (rs := [7]) (by kernel_rfl) (by simp) (AllReadyH.cons rfl (fun K hK => ?_) AllReadyH.nil)
          rw [if_pos (by rfl)]
          refine wp_store_row 33 _ _ rfl y1.heap.size #[.int .i64 0, .int .i64 0, .int .i64 0] rfl rfl 33 _ P1.out.h8 (by kernel_rfl) rfl (by kernel_rfl) ?_
          have P2 := hid (P1.out.put8 hM #[.int .i64 0, .int .i64 0, .int .i64 0])
          refine hK.out _ _ (P2.out.act) (fun h4x => ?_)
          clear hK K
          try simp only [Act.put, lay_out]
          refine wpAnyH_take (i := 8) (v := .int .u64 (a.C : Int)) rfl (by kernel_rfl) (by kernel_rfl) (by kernel_rfl) (fun _ _ _ h => h) (.inl ⟨by rfl, fun w hw => by clear hw; go_simp⟩) h4x ?_
          try simp only [Act.put, lay_out]
          refine wpAnyH_done (by kernel_rfl) ?_ _
          refine NoPanic.normal ?_
          clear h0 h1x h2x h3x h4x
          try simp only [Act.put, lay_out]
          go_wp2_with fail
          go_meet
          exact ⟨_, _, rfl, rfl, rfl, P2.out⟩
      case rest =>
        obtain ⟨b7, b8, rfl, rfl, rfl, hP⟩ := hcut
        have P := hid hP
        clear hP
        have x0 : wc.cell? ⟨w.heap.size + 1, 0, none⟩ = some (.int .i64 1) := by have := row_c (i := 0) (u := .int .i64 (kd5 a.K NL)) P.out.act rfl; rw [HKD.out] at this; exact this
        go_wp2_with fail
        clear x0
        have P0 := hid (P.out.self hM ((Below.refl _ wc).drew))
        refine wp_region_noPanic ?_
        refine wp_region_held_drew (S := fun w' => w'.heap[w.heap.size]? = some (.cells (paC p b (.slice la NL lc) (.slice va NL vc)) 28 (0, 0)) ∧ w'.heap[w.heap.size + 1]? = some (.cells (ac5 { a with K := kd5 a.K NL }) 38 (0, 0))) (by kernel_rfl) (⟨P0.out.pair, P0.out.act⟩) (fun h0 => ?_)
        generalize wc.drew = y2 at *
        refine wpAnyH_take (i := 0) (v := .pointer (some ⟨w.heap.size, 0, none⟩)) rfl (by kernel_rfl) (by kernel_rfl) (by kernel_rfl) (fun _ _ _ h => h) (.inl ⟨by rfl, fun w hw => by clear hw; go_simp⟩) h0 ?_
        try simp only [Act.put, lay_out]
        refine wpAnyH_take (i := 1) (v := .pointer (some ⟨p, 0, none⟩)) rfl (by kernel_rfl) (by kernel_rfl) (by kernel_rfl) (fun _ _ _ h => h) (.inl ⟨by rfl, fun w' hw => by have hc := row_c (i := 0) (u := .pointer (some ⟨p, 0, none⟩)) hw.1 rfl; clear hw; go_simp⟩) h0 ?_
        try simp only [Act.put, lay_out]
        refine wpAnyH_take (i := 2) (v := .pointer (some ⟨w.heap.size + 1, 4, none⟩)) rfl (by kernel_rfl) (by kernel_rfl) (by kernel_rfl) (fun _ _ _ h => h) (.inl ⟨by rfl, fun w hw => by clear hw; go_simp⟩) h0 ?_
        try simp only [Act.put, lay_out]
        refine wpAnyH_take (i := 3) (v := .int .u64 (a.C : Int)) rfl (by kernel_rfl) (by kernel_rfl) (by kernel_rfl) (fun _ _ _ h => h) (.inl ⟨by rfl, fun w' hw => by have hc := row_c (i := 4) (u := .int .u64 (a.C : Int)) hw.2 rfl; clear hw; go_simp⟩) h0 ?_
        try simp only [Act.put, lay_out]
        refine wpAnyH_take (i := 5) (v := .pointer (some ⟨w.heap.size, 1, none⟩)) rfl (by kernel_rfl) (by kernel_rfl) (by kernel_rfl) (fun _ _ _ h => h) (.inl ⟨by rfl, fun w hw => by clear hw; go_simp⟩) h0 ?_
        try simp only [Act.put, lay_out]
        refine wpAnyH_take (i := 6) (v := .pointer (some ⟨b, 0, none⟩)) rfl (by kernel_rfl) (by kernel_rfl) (by kernel_rfl) (fun _ _ _ h => h) (.inl ⟨by rfl, fun w' hw => by have hc := row_c (i := 1) (u := .pointer (some ⟨b, 0, none⟩)) hw.1 rfl; clear hw; go_simp⟩) h0 ?_
        try simp only [Act.put, lay_out]
        refine wpAnyH_take (i := 7) (v := .pointer (some ⟨w.heap.size + 1, 4, none⟩)) rfl (by kernel_rfl) (by kernel_rfl) (by kernel_rfl) (fun _ _ _ h => h) (.inl ⟨by rfl, fun w hw => by clear hw; go_simp⟩) h0 ?_
        try simp only [Act.put, lay_out]
        refine wpAnyH_take (i := 8) (v := .int .u64 (a.C : Int)) rfl (by kernel_rfl) (by kernel_rfl) (by kernel_rfl) (fun _ _ _ h => h) (.inl ⟨by rfl, fun w' hw => by have hc := row_c (i := 4) (u := .int .u64 (a.C : Int)) hw.2 rfl; clear hw; go_simp⟩) h0 ?_
        try simp only [Act.put, lay_out]
        refine wpAnyH_ready (rs := [4]) (by kernel_rfl) (by simp) (AllReadyH.cons rfl (fun K hK => ?_) AllReadyH.nil)
        rw [if_pos (by rfl)]
        go_simp
        go_at_call 21
        (with_reducible refine (qpub hM hS a.C P0.out.g.z HQ.out HK.out HN.out HC.out).mono ?_); rintro e w5 ⟨rfl, hz, hs⟩
        have P1 := hid (P0.out.on hz hs)
        clear hz hs
        refine hK.out _ _ (⟨P1.out.pair, P1.out.act⟩) (fun h1x => ?_)
        clear hK K
        try simp only [Act.put, lay_out]
        refine wpAnyH_ready (rs := [9]) (by kernel_rfl) (by simp) (AllReadyH.cons rfl (fun K hK => ?_) AllReadyH.nil)
        rw [if_pos (by rfl)]
        go_simp
        go_at_call 20
        (with_reducible refine (ycst hM P1.out.g.z HQ.out HK3.out HN.out 3 HI3.out a.C HC.out).mono ?_); rintro e w6 ⟨rfl, hz, hs⟩
        have P2 := hid (P1.out.on hz hs)
        clear hz hs
        refine hK.out _ _ (⟨P2.out.pair, P2.out.act⟩) (fun h2x => ?_)
        clear hK K
        try simp only [Act.put, lay_out]
        refine wpAnyH_ready (rs := [10]) (by kernel_rfl) (by simp) (AllReadyH.cons rfl (fun K hK => ?_) AllReadyH.nil)
        rw [if_pos (by rfl)]
        refine wp_store_row 33 _ _ rfl b7 (wdV (cstR S 3 a.C)) rfl rfl 33 _ P2.out.h7 (by kernel_rfl) rfl (by kernel_rfl) ?_
        have P3 := hid (P2.out.put7 hM (wdV (cstR S 3 a.C)))
        refine hK.out _ _ (⟨P3.out.pair, P3.out.act⟩) (fun h3x => ?_)
        clear hK K
        try simp only [Act.put, lay_out]
        refine wpAnyH_ready (rs := [11]) (by kernel_rfl) (by simp) (AllReadyH.cons rfl (fun K hK => ?_) AllReadyH.nil)
        rw [if_pos (by rfl)]
        refine wp_store_row 33 _ _ rfl b8 (wdV (cstR S 3 a.C)) rfl rfl 33 _ P3.out.h8 (by kernel_rfl) rfl (by kernel_rfl) ?_
        have P4 := hid (P3.out.put8 hM (wdV (cstR S 3 a.C)))
        refine hK.out _ _ (⟨P4.out.pair, P4.out.act⟩) (fun h4x => ?_)
        clear hK K
        try simp only [Act.put, lay_out]
        refine wpAnyH_done (by kernel_rfl) ?_ _
        refine NoPanic.normal ?_
        clear h0 h1x h2x h3x h4x
        try simp only [Act.put, lay_out]
        go_wp2_with fail
        have Q0 := hid (P4.out.self hM ((Below.refl _ ((w6.setRow b7 (wdV (cstR S 3 a.C))).setRow b8 (wdV (cstR S 3 a.C)))).drew))
        refine wp_region_noPanic ?_
        refine wp_region_held_drew (S := fun w' => w'.heap[b7]? = some (.cells (wdV (cstR S 3 a.C)) 33 (0, 0)) ∧ w'.heap[b8]? = some (.cells (wdV (cstR S 3 a.C)) 33 (0, 0))) (by kernel_rfl) (⟨Q0.out.h7, Q0.out.h8⟩) (fun h0 => ?_)
        generalize ((w6.setRow b7 (wdV (cstR S 3 a.C))).setRow b8 (wdV (cstR S 3 a.C))).drew = y3 at *
        refine wpAnyH_take (i := 0) (v := .agg (wdV (cstR S 3 a.C))) rfl (by kernel_rfl) (by kernel_rfl) (by kernel_rfl) (fun _ _ _ h => h) (yields_load_row (by rfl) 33 _ rfl b7 33 (wdV (cstR S 3 a.C)) _ rfl (fun w h => h.1) Try.underlying33 rfl (by kernel_rfl)) h0 ?_
        try simp only [Act.put, lay_out]
        refine wpAnyH_take (i := 1) (v := .int .u64 (a.C : Int)) rfl (by kernel_rfl) (by kernel_rfl) (by kernel_rfl) (fun _ _ _ h => h) (.inl ⟨by rfl, fun w hw => by clear hw; go_simp⟩) h0 ?_
        try simp only [Act.put, lay_out]
        refine wpAnyH_take (i := 2) (v := .agg (wdV (cstR S 3 a.C))) rfl (by kernel_rfl) (by kernel_rfl) (by kernel_rfl) (fun _ _ _ h => h) (yields_load_row (by rfl) 33 _ rfl b7 33 (wdV (cstR S 3 a.C)) _ rfl (fun w h => h.1) Try.underlying33 rfl (by kernel_rfl)) h0 ?_
        try simp only [Act.put, lay_out]
        refine wpAnyH_take (i := 3) (v := .agg (wdV (cstR S 3 a.C))) rfl (by kernel_rfl) (by kernel_rfl) (by kernel_rfl) (fun _ _ _ h => h) (yields_load_row (by rfl) 33 _ rfl b8 33 (wdV (cstR S 3 a.C)) _ rfl (fun w h => h.2) Try.underlying33 rfl (by kernel_rfl)) h0 ?_
        try simp only [Act.put, lay_out]
        refine wpAnyH_take (i := 4) (v := .bool true) rfl (by kernel_rfl) (by kernel_rfl) (by kernel_rfl) (fun _ _ _ h => h) (.inl ⟨by rfl, fun w' _ => by rw [exec_eqWd _ _ rfl (cstR S 3 a.C) (cstR S 3 a.C) rfl rfl]; simp⟩) h0 ?_
        try simp only [Act.put, lay_out]
        refine wpAnyH_ready (rs := [5]) (by kernel_rfl) (by simp) (AllReadyH.cons rfl (fun K hK => ?_) AllReadyH.nil)
        rw [if_pos (by rfl)]
        refine wp_store_row 33 _ _ rfl (w.heap.size + 2) (wdV (cstR S 3 a.C)) rfl rfl 33 _ Q0.out.h4 (by kernel_rfl) rfl (by kernel_rfl) ?_
        have Q1 := hid (Q0.out.put4 hM (wdV (cstR S 3 a.C)))
        refine hK.out _ _ (⟨(Q1.out.bx (b7, wdV (cstR S 3 a.C)) (by simp)).2, (Q1.out.bx (b8, wdV (cstR S 3 a.C)) (by simp)).2⟩) (fun h1x => ?_)
        clear hK K
        try simp only [Act.put, lay_out]
        refine wpAnyH_take (i := 6) (v := .int .u64 (a.C : Int)) rfl (by kernel_rfl) (by kernel_rfl) (by kernel_rfl) (fun _ _ _ h => h) (.inl ⟨by rfl, fun w hw => by clear hw; go_simp⟩) h1x ?_
        try simp only [Act.put, lay_out]
        refine wpAnyH_take (i := 7) (v := .bool true) rfl (by kernel_rfl) (by kernel_rfl) (by kernel_rfl) (fun _ _ _ h => h) (.inl ⟨by rfl, fun w hw => by clear hw; go_simp⟩) h1x ?_
        try simp only [Act.put, lay_out]
        refine wpAnyH_done (by kernel_rfl) ?_ _
        refine NoPanic.normal ?_
        clear h0 h1x
        try simp only [Act.put, lay_out]
        go_wp2
        exact ret_row_tmp2 rfl rfl (Q1.out.bx (w.heap.size + 2, wdV (cstR S 3 a.C)) (by simp)).2 Try.underlying33 rfl (by kernel_rfl) rfl ⟨rfl, Gz.fin5 hM HXL.out Q1.out HBW0.out⟩
set_option maxHeartbeats 12800000 in
theorem ldoe_2 {Pm : World → Nat → Ms → (Nat → Prop) → Prop} (hM : Mach Pm) (hS : ShI Pm) {lo : Nat} {X : Nat → Prop} {W w : World} {p b k : Nat} {S : Ms} (h : Bz Pm lo X W w p b S S) (hq : Bq k S) (hk : k + 10 ≤ 100000) (hn : S.n = 2 ∨ S.n = 3) (a : Ac5) (la va : Option Addr) (NL lc vc : Nat) (hC : a.C < 2 ^ 64) (hkd : kd5 a.K NL = 2) :
    Calls Try.prog 7 #[.agg (paC p b (.slice la NL lc) (.slice va NL vc)), .agg (ac5 a)] w fun e w' => e = .returned (.tuple #[.agg (wdV (cstR S 4 a.C)), .int .u64 (a.C : Int), .bool true]) ∧ Bz Pm lo X W w' p b (cstS S 4 a.C) (cstS S 4 a.C) ∧ ∀ k, X k → w'.heap[k]? = w.heap[k]? := by
  have HQ := hid hq
  have HK := hid hk
  have HK3 : Hid (k + 3 ≤ 100000) := hid (by omega)
  have HN := hid hn
  have HC := hid hC
  have HKD := hid hkd
  have HXL : Hid (∀ k, X k → k < w.heap.size) := hid (by
    obtain ⟨F, G, ov, bv, vv, tv, h1, h2, h3, h4, h5, h6, h7⟩ := h
    exact fun k hk => (h4 k hk).1)
  have HBW0 : Hid (Below w.heap.size w ((w.alloc (.cells (paC p b (.slice la NL lc) (.slice va NL vc)) 28)).alloc (.cells (ac5 { a with K := kd5 a.K NL }) 38))) := hid (((Below.refl _ _).alloc (Nat.le_refl _) _).alloc (by simp) _)
  have HI3 : Hid (I64 3) := hid (i64c 3 (by decide) (by decide))
  have HI4 : Hid (I64 4) := hid (i64c 4 (by decide) (by decide))
  clear hq hk hn hC hkd
  have HE0 : Hid (∀ wx bs, Gz Pm lo (fun k => X k ∨ k = w.heap.size ∨ k = w.heap.size + 1) W ((w.alloc (.cells (paC p b (.slice la NL lc) (.slice va NL vc)) 28)).alloc (.cells (ac5 { a with K := kd5 a.K NL }) 38)) wx p b S S bs → wx.heap[w.heap.size + 1]? = some (.cells (ac5 { a with K := kd5 a.K NL }) 38 (0, 0))) := hid (fun wx bs hg => (hg.st _ (.inr (.inr rfl))).2.trans (by have := heap_alloc_new (w.alloc (.cells (paC p b (.slice la NL lc) (.slice va NL vc)) 28)) (.cells (ac5 { a with K := kd5 a.K NL }) 38); rw [show (w.alloc (.cells (paC p b (.slice la NL lc) (.slice va NL vc)) 28)).heap.size = w.heap.size + 1 by simp] at this; exact this))
  obtain ⟨w1, hw1⟩ : ∃ w1, ((w.alloc (.cells (paC p b (.slice la NL lc) (.slice va NL vc)) 28)).alloc (.cells (ac5 a) 38)).alloc (.cells #[.int .i64 0, .int .i64 0, .int .i64 0] 33) = w1 := ⟨_, rfl⟩
  have HB1 : Hid (Below w.heap.size w w1) := hid (by rw [← hw1]; exact (((Below.refl _ _).alloc (Nat.le_refl _) _).alloc (by simp) _).alloc (by simp; try omega) _)
  have HS1 : Hid (w1.heap.size = w.heap.size + 3) := hid (by rw [← hw1]; simp)
  have HX0 : Hid (w1.heap[w.heap.size]? = some (.cells (paC p b (.slice la NL lc) (.slice va NL vc)) 28 (0, 0))) := hid (by rw [← hw1]; exact (heap_alloc_old _ _ (by simp; try omega)).trans ((heap_alloc_old _ _ (by simp)).trans (heap_alloc_new _ _)))
  have HX1 : Hid (w1.heap[w.heap.size + 1]? = some (.cells (ac5 a) 38 (0, 0))) := hid (by rw [← hw1]; refine (heap_alloc_old _ _ (by simp)).trans ?_; have := heap_alloc_new (w.alloc (.cells (paC p b (.slice la NL lc) (.slice va NL vc)) 28)) (.cells (ac5 a) 38); rw [show (w.alloc (.cells (paC p b (.slice la NL lc) (.slice va NL vc)) 28)).heap.size = w.heap.size + 1 by simp] at this; exact this)
  have HX2 : Hid (w1.heap[w.heap.size + 2]? = some (.cells #[.int .i64 0, .int .i64 0, .int .i64 0] 33 (0, 0))) := hid (by rw [← hw1]; have := heap_alloc_new ((w.alloc (.cells (paC p b (.slice la NL lc) (.slice va NL vc)) 28)).alloc (.cells (ac5 a) 38)) (.cells #[.int .i64 0, .int .i64 0, .int .i64 0] 33); rw [show ((w.alloc (.cells (paC p b (.slice la NL lc) (.slice va NL vc)) 28)).alloc (.cells (ac5 a) 38)).heap.size = w.heap.size + 2 by simp] at this; exact this)
  have HW1 := hid hw1
  have H := hid h
  clear h hw1
  go_enter Try.func7, Try.ntmps7
  go_upto_region 1 with fail
  rw [HW1.out]
  go_cut [28] from 15 to 28 (fun q wx => q = .bool (decide (a.K < 0 ∨ (NL = 0 ∧ 2 < a.K))) ∧ w1 = wx)
  case first =>
    have x2 := row_c (i := 2) (u := .slice la NL lc) HX0.out rfl
    have x0 := row_c (i := 0) (u := .int .i64 a.K) HX1.out rfl
    by_cases f1 : a.K < 0
    · have hd : decide (a.K < 0 ∨ (NL = 0 ∧ 2 < a.K)) = true := decide_eq_true (.inl f1)
      have q1 : decide (a.K < 0) = true := decide_eq_true f1
      have HD := hid hd
      clear hd
      go_wp2
      go_meet
      exact ⟨by rw [HD.out], rfl⟩
    · have q1 : decide (a.K < 0) = false := decide_eq_false f1
      by_cases f2 : NL = 0
      · have e2 : ((NL : Int) == 0) = true := by simp [f2]
        by_cases f3 : 2 < a.K
        · have hd : decide (a.K < 0 ∨ (NL = 0 ∧ 2 < a.K)) = true := decide_eq_true (.inr ⟨f2, f3⟩)
          have q3 : decide (2 < a.K) = true := decide_eq_true f3
          clear f2
          have HD := hid hd
          clear hd
          go_wp2
          go_meet
          exact ⟨by rw [HD.out], rfl⟩
        · have hd : decide (a.K < 0 ∨ (NL = 0 ∧ 2 < a.K)) = false := decide_eq_false (by omega)
          have q3 : decide (2 < a.K) = false := decide_eq_false f3
          clear f2
          have HD := hid hd
          clear hd
          go_wp2
          go_meet
          exact ⟨by rw [HD.out], rfl⟩
      · have e2 : ((NL : Int) == 0) = false := by simp [f2]
        have hd : decide (a.K < 0 ∨ (NL = 0 ∧ 2 < a.K)) = false := decide_eq_false (by omega)
        have HD := hid hd
        clear hd
        go_wp2
        go_meet
        exact ⟨by rw [HD.out], rfl⟩
  case rest =>
    obtain ⟨rfl, rfl⟩ := hcut
    obtain ⟨cb, hcb⟩ : ∃ cb, decide (a.K < 0 ∨ (NL = 0 ∧ 2 < a.K)) = cb := ⟨_, rfl⟩
    rw [hcb]
    have HCB := hid hcb
    clear hcb
    go_upto_if 28 with fail
    go_cut [29] from 29 to 29 (fun q wx => wx.heap.size = w.heap.size + 3 ∧ Below w.heap.size w wx ∧ wx.heap[w.heap.size]? = some (.cells (paC p b (.slice la NL lc) (.slice va NL vc)) 28 (0, 0)) ∧ wx.heap[w.heap.size + 1]? = some (.cells (ac5 { a with K := kd5 a.K NL }) 38 (0, 0)) ∧ wx.heap[w.heap.size + 2]? = some (.cells #[.int .i64 0, .int .i64 0, .int .i64 0] 33 (0, 0)))
    case first =>
      cases cb
      · have hk0 : kd5 a.K NL = a.K := if_neg (of_decide_eq_false HCB.out)
        have HK0 := hid hk0
        clear hk0
        go_wp2
        go_meet
        rw [HK0.out]
        exact ⟨HS1.out, HB1.out, HX0.out, HX1.out, HX2.out⟩
      · have hk0 : kd5 a.K NL = 1 := if_pos (of_decide_eq_true HCB.out)
        have HK0 := hid hk0
        have x0 := row_c (i := 0) (u := .int .i64 a.K) HX1.out rfl
        have f0 := frozen_of_row w1 (w.heap.size + 1) 0 _ _ HX1.out
        clear hk0
        go_wp2
        go_meet
        rw [HK0.out]
        refine ⟨by simp [World.setCell]; exact HS1.out, below_set HB1.out (by omega) 0 _, (heap_setCell_other w1 ⟨w.heap.size + 1, 0, none⟩ _ _ (by simp)).trans HX0.out, ?_, (heap_setCell_other w1 ⟨w.heap.size + 1, 0, none⟩ _ _ (by simp)).trans HX2.out⟩
        rw [heap_setCell_same w1 (w.heap.size + 1) 0 _ 38 _ HX1.out]
        rfl
    case rest =>
      obtain ⟨hsz, hbw, e0, e1, e2⟩ := hcut
      have HSZ := hid hsz
      have G0 := hid (Gz.begins hM H.out hbw hsz _ _ e0 e1 e2)
      clear hsz hbw e0 e1 e2
      obtain ⟨wB, hwB⟩ : ∃ wB, wc = wB := ⟨_, rfl⟩
      subst hwB
      go_upto_region 3 with fail
      go_cut [7, 8, 9] from 30 to 33 (fun p7 p8 p9 wx => ∃ b7 b8, p7 = .pointer (some ⟨b7, 0, none⟩) ∧ p8 = .pointer (some ⟨b8, 0, none⟩) ∧ p9 = .int .u64 (a.C : Int) ∧ Pb Pm lo X W w (paC p b (.slice la NL lc) (.slice va NL vc)) { a with K := kd5 a.K NL } wx p b S S b7 b8 #[.int .i64 0, .int .i64 0, .int .i64 0] #[.int .i64 0, .int .i64 0, .int .i64 0])
      case first =>
        have Y0 := hid (G0.out.self hM ((Below.refl _ wc).drew))
        refine wp_region_noPanic ?_
        refine wp_region_held_drew (S := fun w' => w'.heap[w.heap.size + 1]? = some (.cells (ac5 { a with K := kd5 a.K NL }) 38 (0, 0))) (by kernel_rfl) ((HE0.out _ _ Y0.out)) (fun h0 => ?_)
        have HSZ2 : Hid (wc.drew.heap.size = w.heap.size + 3) := hid HSZ.out
        generalize wc.drew = y1 at *
        refine wpAnyH_take (i := 0) (v := .agg #[.int .i64 0, .int .i64 0, .int .i64 0]) rfl (by kernel_rfl) (by kernel_rfl) (by kernel_rfl) (fun _ _ _ h => h) (.inl ⟨by rfl, fun w hw => by clear hw; go_simp⟩) h0 ?_
        try simp only [Act.put, lay_out]
        refine wpAnyH_take (i := 1) (v := .agg #[.int .i64 0, .int .i64 0, .int .i64 0]) rfl (by kernel_rfl) (by kernel_rfl) (by kernel_rfl) (fun _ _ _ h => h) (.inl ⟨by rfl, fun w hw => by clear hw; go_simp⟩) h0 ?_
        try simp only [Act.put, lay_out]
        refine wpAnyH_take (i := 2) (v := .pointer (some ⟨w.heap.size + 1, 4, none⟩)) rfl (by kernel_rfl) (by kernel_rfl) (by kernel_rfl) (fun _ _ _ h => h) (.inl ⟨by rfl, fun w hw => by clear hw; go_simp⟩) h0 ?_
        try simp only [Act.put, lay_out]
        refine wpAnyH_take (i := 3) (v := .int .u64 (a.C : Int)) rfl (by kernel_rfl) (by kernel_rfl) (by kernel_rfl) (fun _ _ _ h => h) (.inl ⟨by rfl, fun w' hw => by have hc := row_c (i := 4) (u := .int .u64 (a.C : Int)) hw rfl; clear hw; go_simp⟩) h0 ?_
        try simp only [Act.put, lay_out]
        refine wpAnyH_ready (rs := [4, 5]) (by kernel_rfl) (by simp) (AllReadyH.cons rfl (fun K hK => ?_) (AllReadyH.cons rfl (fun K hK => ?_) AllReadyH.nil))
        · rw [if_pos (by rfl)]
          go_simp
          have G1 := hid (Y0.out.box hM (by have := HSZ2.out; simp; omega) #[.int .i64 0, .int .i64 0, .int .i64 0])
          refine hK.out _ _ (HE0.out _ _ G1.out) (fun h1x => ?_)
          clear hK K
          try simp only [Act.put, lay_out]
          refine wpAnyH_ready (rs := [5]) (by kernel_rfl) (by simp) (AllReadyH.cons rfl (fun K hK => ?_) AllReadyH.nil)
          rw [if_pos (by rfl)]
          go_simp
          have G2 := hid (G1.out.box hM (by have := HSZ2.out; simp; omega) #[.int .i64 0, .int .i64 0, .int .i64 0])
          refine hK.out _ _ (HE0.out _ _ G2.out) (fun h2x => ?_)
          clear hK K
          try simp only [Act.put, lay_out]
          have P0 : Hid (Pb Pm lo X W w (paC p b (.slice la NL lc) (.slice va NL vc)) { a with K := kd5 a.K NL } ((y1.alloc (.cells #[.int .i64 0, .int .i64 0, .int .i64 0] 33)).alloc (.cells #[.int .i64 0, .int .i64 0, .int .i64 0] 33)) p b S S y1.heap.size (y1.heap.size + 1) #[.int .i64 0, .int .i64 0, .int .i64 0] #[.int .i64 0, .int .i64 0, .int .i64 0]) := hid ⟨by have := G2.out.swap (bs' := [(y1.heap.size, #[.int .i64 0, .int .i64 0, .int .i64 0]), ((y1.alloc (.cells #[.int .i64 0, .int .i64 0, .int .i64 0] 33)).heap.size, #[.int .i64 0, .int .i64 0, .int .i64 0]), (w.heap.size + 2, #[.int .i64 0, .int .i64 0, .int .i64 0])]) (by intro q hq; simp at hq ⊢; rcases hq with rfl | rfl | rfl <;> simp); simpa using this, by have := HSZ2.out; simp; try omega⟩
          refine wpAnyH_ready (rs := [6]) (by kernel_rfl) (by simp) (AllReadyH.cons rfl (fun K hK => ?_) AllReadyH.nil)
          rw [if_pos (by rfl)]
          refine wp_store_row 33 _ _ rfl y1.heap.size #[.int .i64 0, .int .i64 0, .int .i64 0] rfl rfl 33 _ P0.out.h7 (by kernel_rfl) rfl (by kernel_rfl) ?_
          have P1 := hid (P0.out.put7 hM #[.int .i64 0, .int .i64 0, .int .i64 0])
          refine hK.out _ _ (P1.out.act) (fun h3x => ?_)
          clear hK K
          try simp only [Act.put, lay_out]
          refine wpAnyH_ready (rs := [7]) (by kernel_rfl) (by simp) (AllReadyH.cons rfl (fun K hK => ?_) AllReadyH.nil)
          rw [if_pos (by rfl)]
          refine wp_store_row 33 _ _ rfl (y1.heap.size + 1) #[.int .i64 0, .int .i64 0, .int .i64 0] rfl rfl 33 _ P1.out.h8 (by kernel_rfl) rfl (by kernel_rfl) ?_
          have P2 := hid (P1.out.put8 hM #[.int .i64 0, .int .i64 0, .int .i64 0])
          refine hK.out _ _ (P2.out.act) (fun h4x => ?_)
          clear hK K
          try simp only [Act.put, lay_out]
          refine wpAnyH_take (i := 8) (v := .int .u64 (a.C : Int)) rfl (by kernel_rfl) (by kernel_rfl) (by kernel_rfl) (fun _ _ _ h => h) (.inl ⟨by rfl, fun w hw => by clear hw; go_simp⟩) h4x ?_
          try simp only [Act.put, lay_out]
          refine wpAnyH_done (by kernel_rfl) ?_ _
          refine NoPanic.normal ?_
          clear h0 h1x h2x h3x h4x
          try simp only [Act.put, lay_out]
          go_wp2_with fail
          go_meet
          exact ⟨_, _, rfl, rfl, rfl, P2.out⟩
        · rw [if_pos (by rfl)]
          go_simp
          have G1 := hid (Y0.out.box hM (by have := HSZ2.out; simp; omega) #[.int .i64 0, .int .i64 0, .int .i64 0])
          refine hK.out _ _ (HE0.out _ _ G1.out) (fun h1x => ?_)
          clear hK K
          try simp only [Act.put, lay_out]
          refine wpAnyH_ready (rs := [4]) (by kernel_rfl) (by simp) (AllReadyH.cons rfl (fun K hK => ?_) AllReadyH.nil)
          rw [if_pos (by rfl)]
          go_simp
          have G2 := hid (G1.out.box hM (by have := HSZ2.out; simp; omega) #[.int .i64 0, .int .i64 0, .int .i64 0])
          refine hK.out _ _ (HE0.out _ _ G2.out) (fun h2x => ?_)
          clear hK K
          try simp only [Act.put, lay_out]
          have P0 : Hid (Pb Pm lo X W w (paC p b (.slice la NL lc) (.slice va NL vc)) { a with K := kd5 a.K NL } ((y1.alloc (.cells #[.int .i64 0, .int .i64 0, .int .i64 0] 33)).alloc (.cells #[.int .i64 0, .int .i64 0, .int .i64 0] 33)) p b S S (y1.heap.size + 1) y1.heap.size #[.int .i64 0, .int .i64 0, .int .i64 0] #[.int .i64 0, .int .i64 0, .int .i64 0]) := hid ⟨by have := G2.out; simpa using this, by have := HSZ2.out; simp; try omega⟩
          refine wpAnyH_ready (rs := [6]) (by kernel_rfl) (by simp) (AllReadyH.cons rfl (fun K hK => ?_) AllReadyH.nil)
          rw [if_pos (by rfl)]
          refine wp_store_row 33 _ _ rfl (y1.heap.size + 1) #[.int .i64 0, .int .i64 0, .int .i64 0] rfl rfl 33 _ P0.out.h7 (by kernel_rfl) rfl (by kernel_rfl) ?_
          have P1 := hid (P0.out.put7 hM #[.int .i64 0, .int .i64 0, .int .i64 0])
          refine hK.out _ _ (P1.out.act) (fun h3x => ?_)
          clear hK K
          try simp only [Act.put, lay_out]
          refine wpAnyH_ready (rs := [7]) (by kernel_rfl) (by simp) (AllReadyH.cons rfl (fun K hK => ?_) AllReadyH.nil)
          rw [if_pos (by rfl)]
          refine wp_store_row 33 _ _ rfl y1.heap.size #[.int .i64 0, .int .i64 0, .int .i64 0] rfl rfl 33 _ P1.out.h8 (by kernel_rfl) rfl (by kernel_rfl) ?_
          have P2 := hid (P1.out.put8 hM #[.int .i64 0, .int .i64 0, .int .i64 0])
          refine hK.out _ _ (P2.out.act) (fun h4x => ?_)
          clear hK K
          try simp only [Act.put, lay_out]
          refine wpAnyH_take (i := 8) (v := .int .u64 (a.C : Int)) rfl (by kernel_rfl) (by kernel_rfl) (by kernel_rfl) (fun _ _ _ h => h) (.inl ⟨by rfl, fun w hw => by clear hw; go_simp⟩) h4x ?_
          try simp only [Act.put, lay_out]
          refine wpAnyH_done (by kernel_rfl) ?_ _
          refine NoPanic.normal ?_
          clear h0 h1x h2x h3x h4x
          try simp only [Act.put, lay_out]
          go_wp2_with fail
          go_meet
          exact ⟨_, _, rfl, rfl, rfl, P2.out⟩
      case rest =>
        obtain ⟨b7, b8, rfl, rfl, rfl, hP⟩ := hcut
        have P := hid hP
        clear hP
        have x0 : wc.cell? ⟨w.heap.size + 1, 0, none⟩ = some (.int .i64 2) := by have := row_c (i := 0) (u := .int .i64 (kd5 a.K NL)) P.out.act rfl; rw [HKD.out] at this; exact this
        go_wp2_with fail
        clear x0
        have P0 := hid (P.out.self hM ((Below.refl _ wc).drew))
        refine wp_region_noPanic ?_
        refine wp_region_held_drew (S := fun w' => w'.heap[w.heap.size]? = some (.cells (paC p b (.slice la NL lc) (.slice va NL vc)) 28 (0, 0)) ∧ w'.heap[w.heap.size + 1]? = some (.cells (ac5 { a with K := kd5 a.K NL }) 38 (0, 0))) (by kernel_rfl) (⟨P0.out.pair, P0.out.act⟩) (fun h0 => ?_)
        generalize wc.drew = y2 at *
        refine wpAnyH_take (i := 0) (v := .pointer (some ⟨w.heap.size, 0, none⟩)) rfl (by kernel_rfl) (by kernel_rfl) (by kernel_rfl) (fun _ _ _ h => h) (.inl ⟨by rfl, fun w hw => by clear hw; go_simp⟩) h0 ?_
        try simp only [Act.put, lay_out]
        refine wpAnyH_take (i := 1) (v := .pointer (some ⟨p, 0, none⟩)) rfl (by kernel_rfl) (by kernel_rfl) (by kernel_rfl) (fun _ _ _ h => h) (.inl ⟨by rfl, fun w' hw => by have hc := row_c (i := 0) (u := .pointer (some ⟨p, 0, none⟩)) hw.1 rfl; clear hw; go_simp⟩) h0 ?_
        try simp only [Act.put, lay_out]
        refine wpAnyH_take (i := 2) (v := .pointer (some ⟨w.heap.size + 1, 4, none⟩)) rfl (by kernel_rfl) (by kernel_rfl) (by kernel_rfl) (fun _ _ _ h => h) (.inl ⟨by rfl, fun w hw => by clear hw; go_simp⟩) h0 ?_
        try simp only [Act.put, lay_out]
        refine wpAnyH_take (i := 3) (v := .int .u64 (a.C : Int)) rfl (by kernel_rfl) (by kernel_rfl) (by kernel_rfl) (fun _ _ _ h => h) (.inl ⟨by rfl, fun w' hw => by have hc := row_c (i := 4) (u := .int .u64 (a.C : Int)) hw.2 rfl; clear hw; go_simp⟩) h0 ?_
        try simp only [Act.put, lay_out]
        refine wpAnyH_take (i := 5) (v := .pointer (some ⟨w.heap.size, 1, none⟩)) rfl (by kernel_rfl) (by kernel_rfl) (by kernel_rfl) (fun _ _ _ h => h) (.inl ⟨by rfl, fun w hw => by clear hw; go_simp⟩) h0 ?_
        try simp only [Act.put, lay_out]
        refine wpAnyH_take (i := 6) (v := .pointer (some ⟨b, 0, none⟩)) rfl (by kernel_rfl) (by kernel_rfl) (by kernel_rfl) (fun _ _ _ h => h) (.inl ⟨by rfl, fun w' hw => by have hc := row_c (i := 1) (u := .pointer (some ⟨b, 0, none⟩)) hw.1 rfl; clear hw; go_simp⟩) h0 ?_
        try simp only [Act.put, lay_out]
        refine wpAnyH_take (i := 7) (v := .pointer (some ⟨w.heap.size + 1, 4, none⟩)) rfl (by kernel_rfl) (by kernel_rfl) (by kernel_rfl) (fun _ _ _ h => h) (.inl ⟨by rfl, fun w hw => by clear hw; go_simp⟩) h0 ?_
        try simp only [Act.put, lay_out]
        refine wpAnyH_take (i := 8) (v := .int .u64 (a.C : Int)) rfl (by kernel_rfl) (by kernel_rfl) (by kernel_rfl) (fun _ _ _ h => h) (.inl ⟨by rfl, fun w' hw => by have hc := row_c (i := 4) (u := .int .u64 (a.C : Int)) hw.2 rfl; clear hw; go_simp⟩) h0 ?_
        try simp only [Act.put, lay_out]
        refine wpAnyH_ready (rs := [4]) (by kernel_rfl) (by simp) (AllReadyH.cons rfl (fun K hK => ?_) AllReadyH.nil)
        rw [if_pos (by rfl)]
        go_simp
        go_at_call 19
        (with_reducible refine (qtold hM hS a.C P0.out.g.z HQ.out HK.out HN.out HC.out).mono ?_); rintro e w5 ⟨rfl, hz, hs⟩
        have P1 := hid (P0.out.on hz hs)
        clear hz hs
        refine hK.out _ _ (⟨P1.out.pair, P1.out.act⟩) (fun h1x => ?_)
        clear hK K
        try simp only [Act.put, lay_out]
        refine wpAnyH_ready (rs := [9]) (by kernel_rfl) (by simp) (AllReadyH.cons rfl (fun K hK => ?_) AllReadyH.nil)
        rw [if_pos (by rfl)]
        go_simp
        go_at_call 20
        (with_reducible refine (ycst hM P1.out.g.z HQ.out HK3.out HN.out 4 HI4.out a.C HC.out).mono ?_); rintro e w6 ⟨rfl, hz, hs⟩
        have P2 := hid (P1.out.on hz hs)
        clear hz hs
        refine hK.out _ _ (⟨P2.out.pair, P2.out.act⟩) (fun h2x => ?_)
        clear hK K
        try simp only [Act.put, lay_out]
        refine wpAnyH_ready (rs := [10]) (by kernel_rfl) (by simp) (AllReadyH.cons rfl (fun K hK => ?_) AllReadyH.nil)
        rw [if_pos (by rfl)]
        refine wp_store_row 33 _ _ rfl b7 (wdV (cstR S 4 a.C)) rfl rfl 33 _ P2.out.h7 (by kernel_rfl) rfl (by kernel_rfl) ?_
        have P3 := hid (P2.out.put7 hM (wdV (cstR S 4 a.C)))
        refine hK.out _ _ (⟨P3.out.pair, P3.out.act⟩) (fun h3x => ?_)
        clear hK K
        try simp only [Act.put, lay_out]
        refine wpAnyH_ready (rs := [11]) (by kernel_rfl) (by simp) (AllReadyH.cons rfl (fun K hK => ?_) AllReadyH.nil)
        rw [if_pos (by rfl)]
        refine wp_store_row 33 _ _ rfl b8 (wdV (cstR S 4 a.C)) rfl rfl 33 _ P3.out.h8 (by kernel_rfl) rfl (by kernel_rfl) ?_
        have P4 := hid (P3.out.put8 hM (wdV (cstR S 4 a.C)))
        refine hK.out _ _ (⟨P4.out.pair, P4.out.act⟩) (fun h4x => ?_)
        clear hK K
        try simp only [Act.put, lay_out]
        refine wpAnyH_done (by kernel_rfl) ?_ _
        refine NoPanic.normal ?_
        clear h0 h1x h2x h3x h4x
        try simp only [Act.put, lay_out]
        go_wp2_with fail
        have Q0 := hid (P4.out.self hM ((Below.refl _ ((w6.setRow b7 (wdV (cstR S 4 a.C))).setRow b8 (wdV (cstR S 4 a.C)))).drew))
        refine wp_region_noPanic ?_
        refine wp_region_held_drew (S := fun w' => w'.heap[b7]? = some (.cells (wdV (cstR S 4 a.C)) 33 (0, 0)) ∧ w'.heap[b8]? = some (.cells (wdV (cstR S 4 a.C)) 33 (0, 0))) (by kernel_rfl) (⟨Q0.out.h7, Q0.out.h8⟩) (fun h0 => ?_)
        generalize ((w6.setRow b7 (wdV (cstR S 4 a.C))).setRow b8 (wdV (cstR S 4 a.C))).drew = y3 at *
        refine wpAnyH_take (i := 0) (v := .agg (wdV (cstR S 4 a.C))) rfl (by kernel_rfl) (by kernel_rfl) (by kernel_rfl) (fun _ _ _ h => h) (yields_load_row (by rfl) 33 _ rfl b7 33 (wdV (cstR S 4 a.C)) _ rfl (fun w h => h.1) Try.underlying33 rfl (by kernel_rfl)) h0 ?_
        try simp only [Act.put, lay_out]
        refine wpAnyH_take (i := 1) (v := .int .u64 (a.C : Int)) rfl (by kernel_rfl) (by kernel_rfl) (by kernel_rfl) (fun _ _ _ h => h) (.inl ⟨by rfl, fun w hw => by clear hw; go_simp⟩) h0 ?_
        try simp only [Act.put, lay_out]
        refine wpAnyH_take (i := 2) (v := .agg (wdV (cstR S 4 a.C))) rfl (by kernel_rfl) (by kernel_rfl) (by kernel_rfl) (fun _ _ _ h => h) (yields_load_row (by rfl) 33 _ rfl b7 33 (wdV (cstR S 4 a.C)) _ rfl (fun w h => h.1) Try.underlying33 rfl (by kernel_rfl)) h0 ?_
        try simp only [Act.put, lay_out]
        refine wpAnyH_take (i := 3) (v := .agg (wdV (cstR S 4 a.C))) rfl (by kernel_rfl) (by kernel_rfl) (by kernel_rfl) (fun _ _ _ h => h) (yields_load_row (by rfl) 33 _ rfl b8 33 (wdV (cstR S 4 a.C)) _ rfl (fun w h => h.2) Try.underlying33 rfl (by kernel_rfl)) h0 ?_
        try simp only [Act.put, lay_out]
        refine wpAnyH_take (i := 4) (v := .bool true) rfl (by kernel_rfl) (by kernel_rfl) (by kernel_rfl) (fun _ _ _ h => h) (.inl ⟨by rfl, fun w' _ => by rw [exec_eqWd _ _ rfl (cstR S 4 a.C) (cstR S 4 a.C) rfl rfl]; simp⟩) h0 ?_
        try simp only [Act.put, lay_out]
        refine wpAnyH_ready (rs := [5]) (by kernel_rfl) (by simp) (AllReadyH.cons rfl (fun K hK => ?_) AllReadyH.nil)
        rw [if_pos (by rfl)]
        refine wp_store_row 33 _ _ rfl (w.heap.size + 2) (wdV (cstR S 4 a.C)) rfl rfl 33 _ Q0.out.h4 (by kernel_rfl) rfl (by kernel_rfl) ?_
        have Q1 := hid (Q0.out.put4 hM (wdV (cstR S 4 a.C)))
        refine hK.out _ _ (⟨(Q1.out.bx (b7, wdV (cstR S 4 a.C)) (by simp)).2, (Q1.out.bx (b8, wdV (cstR S 4 a.C)) (by simp)).2⟩) (fun h1x => ?_)
        clear hK K
        try simp only [Act.put, lay_out]
        refine wpAnyH_take (i := 6) (v := .int .u64 (a.C : Int)) rfl (by kernel_rfl) (by kernel_rfl) (by kernel_rfl) (fun _ _ _ h => h) (.inl ⟨by rfl, fun w hw => by clear hw; go_simp⟩) h1x ?_
        try simp only [Act.put, lay_out]
        refine wpAnyH_take (i := 7) (v := .bool true) rfl (by kernel_rfl) (by kernel_rfl) (by kernel_rfl) (fun _ _ _ h => h) (.inl ⟨by rfl, fun w hw => by clear hw; go_simp⟩) h1x ?_
        try simp only [Act.put, lay_out]
        refine wpAnyH_done (by kernel_rfl) ?_ _
        refine NoPanic.normal ?_
        clear h0 h1x
        try simp only [Act.put, lay_out]
        go_wp2
        exact ret_row_tmp2 rfl rfl (Q1.out.bx (w.heap.size + 2, wdV (cstR S 4 a.C)) (by simp)).2 Try.underlying33 rfl (by kernel_rfl) rfl ⟨rfl, Gz.fin5 hM HXL.out Q1.out HBW0.out⟩
end Go.Proofs.Ytdgkofnboeepbaa
