import Derived.Test.YthkijncnndoafaaDoorShy
import Derived.Test.YthkijncnndoafaaDoorBtc
import Derived.Test.YthkijncnndoafaaDoorWif
import Derived.Test.YthkijncnndoafaaDoorGen
import Derived.Laws.Rows
import Derived.Laws.Tables
import Derived.Laws.StructEq
import Derived.ChangeKeysEq
import Derived.Deep.WholeRow
/- Both: Any, over both machines. -/
namespace Go.Proofs.YthkijncnndoafaaDoor
open Go.RowKit
set_option maxRecDepth 100000

/-- v reads as the L words V; they lie in a block of X. -/
def WsR (w : World) (v : Value) (L : Nat) (V : Nat → Nat → Int) (X : Nat → Prop) : Prop :=
  ∃ a cap, v = .slice a L cap ∧ L ≤ cap ∧ cap ≤ maxLen ∧ (0 < L → ∃ g off, a = some ⟨g, off, none⟩ ∧ X g ∧ g < w.heap.size ∧ ∀ j, j < L → ∀ c, c < 3 → w.cell? ⟨g, off + j * 3 + c, none⟩ = some (.int .i64 (V j c)))
theorem wsR_none (w : World) (V : Nat → Nat → Int) (X : Nat → Prop) : WsR w (.slice none 0 0) 0 V X := ⟨none, 0, rfl, Nat.le_refl _, Nat.zero_le _, fun h => absurd h (Nat.lt_irrefl 0)⟩
theorem wdm_range {w : World} {g off : Nat} {V : Nat → Int} (h : ∀ c, c < 3 → w.cell? ⟨g, off + c, none⟩ = some (.int .i64 (V c))) : w.rangeAt g off (wdV V).toList := fun j v hv => by
  have hj : j < 3 := by have := (List.getElem?_eq_some_iff.1 hv).1; simpa using this
  rw [h j hj]
  rcases (by omega : j = 0 ∨ j = 1 ∨ j = 2) with rfl | rfl | rfl <;> exact hv
theorem step_load_wdm {w : World} {ops : Array Oper} {rest : List Oper} {o : Oper} {a : Act} {Q : Exit → Act → World → Prop} (hgd : o.guard = none) (x : Operand) (ho : o.op = .load 34 x) (g off : Nat) (V : Nat → Int) (hx : a.eval x = .pointer (some ⟨g, off, none⟩))
    (hc : ∀ c, c < 3 → w.cell? ⟨g, off + c, none⟩ = some (.int .i64 (V c))) (h : wpList Tryd.prog ops Q rest (a.put o.dst (.agg (wdV V))) w) : wpList Tryd.prog ops Q (o :: rest) a w :=
  wpList_load_mid hgd 34 x ho g off hx (wdV V).toList _ (wdm_range hc) Tryd.underlying34 rfl (by kernel_rfl) h
set_option maxHeartbeats 6400000 in
theorem qany {Pm : World → Nat → Ms → (Nat → Prop) → Prop} (hM : Mach Pm) {lo : Nat} {X : Nat → Prop} {W w : World} {b bd k : Nat} {S S2 : Ms} (K : Int) (V : Nat → Nat → Int) (L : Nat) (v : Value) (h : Bz Pm lo X W w b bd S S2) (hp : Pv w) (hl : gpair < lo) (hq : Bq k S) (hk : k + 60 * L + 200 ≤ 100000) (hn : S.n = 2 ∨ S.n = 3) (hK : I64 K) (hV : ∀ j, Wb (V j)) (hr : WsR w v L V X) :
    Calls Tryd.prog 27 #[.pointer (some ⟨b, 0, none⟩), .int .i64 K, v] w fun e w' => e = .returned (.agg (wdV (bnR S (isDom K) V L))) ∧ Bz Pm lo X W w' b bd (bnS S (isDom K) V L) S2 ∧ ∀ k, X k → w'.heap[k]? = w.heap[k]? := by
  have HC0 : Hid (∀ (bs : List (Nat × Obj)) (w' : World), Gy Pm lo X w w w' b bd S S2 bs → Calls Tryd.prog 6 #[.pointer (some ⟨b, 0, none⟩), .int .u64 0] w' fun e w2 => e = .returned (.agg (wdV (cstR S 3 0))) ∧ Gy Pm lo X w w w2 b bd (cstS S 3 0) S2 bs) := hid (fun bs w' h' => h'.lift (fun _ _ hz => qpub hM (shI hM) 0 hz hq (by omega) hn (by decide)))
  have HC1 : Hid (∀ i, 0 < i → i < L → ∀ (bs : List (Nat × Obj)) (w' : World), Gy Pm lo X w w w' b bd (bnX (isDom K) V S (i - 1)).1 S2 bs → Calls Tryd.prog 18 #[.pointer (some ⟨b, 0, none⟩), .int .i64 K, .agg (wdV (bnX (isDom K) V S (i - 1)).2), .agg (wdV (V i))] w' fun e w2 => e = .returned (.agg (wdV (bnX (isDom K) V S i).2)) ∧ Gy Pm lo X w w w2 b bd (bnX (isDom K) V S i).1 S2 bs) := hid (fun i h0 hj bs w' h' => h'.lift (fun _ _ hz => by
    obtain ⟨j, rfl⟩ : ∃ j, i = j + 1 := ⟨i - 1, by omega⟩
    rw [Nat.add_sub_cancel] at hz ⊢
    obtain ⟨b1, b2⟩ := bnX_bq (dom := isDom K) hq hV (j := j) (by omega)
    exact qor hM K (bnX (isDom K) V S j).2 (V (j + 1)) hz (Pv.bz hp hl h'.z) hl b1 (by omega) (by rw [(bnX_ext (isDom K) V S j).n]; exact hn) hK b2 (hV (j + 1))))
  have HLB : Hid (L ≤ 2000) := hid (by omega)
  obtain ⟨va, cap, rfl, hcl, hcm, hrd⟩ := hr
  have HLOW : Hid (Below lo W w) := hid h.low
  obtain ⟨w1, hw1⟩ : ∃ w1, (w).alloc (.cells #[.int .i64 0, .int .i64 0, .int .i64 0] 34) = w1 := ⟨_, rfl⟩
  have H1 : Hid (Gy Pm lo X w w w1 b bd S S2 [(w.heap.size, Obj.cells #[.int .i64 0, .int .i64 0, .int .i64 0] 34 (0, 0))]) := hid (by
    have := ((Gy.start h.base).new hM #[.int .i64 0, .int .i64 0, .int .i64 0] 34)
    rw [hw1] at this
    skip
    exact this)
  have HW := hid hw1
  clear hV hK h hq hk hn hp hl hw1
  by_cases hL : L = 0
  · subst hL
    clear HC1 hrd
    have e1 : bnR S (isDom K) V 0 = cstR S 3 0 := if_pos rfl
    have e2 : bnS S (isDom K) V 0 = cstS S 3 0 := if_pos rfl
    rw [e1, e2]
    clear e1 e2
    generalize cstS S 3 0 = S9 at *
    generalize cstR S 3 0 = R9 at *
    go_enter Tryd.func27, Tryd.ntmps27
    go_upto_region 1 with fail
    rw [HW.out]
    go_wp2_with (first
      | (go_at_call 6; (with_reducible refine (HC0.out _ _ H1.out).mono ?_); rintro e w2 ⟨rfl, hb⟩; have H2 := hid hb; clear hb)
      | (refine step_store_row rfl 34 _ _ rfl (w.heap.size) 34 _ (wdV R9) rfl rfl (H2.out.bl 0 rfl) (by kernel_rfl) rfl (by kernel_rfl) ?_))
    have H9 := hid (H2.out.rowI hM 0 rfl (wdV R9))
    exact bodyPost_ret (results_cell_row (by rfl) _ _ (w.heap.size) 34 (wdV R9) (0, 0) _ rfl (H9.out.bl 0 rfl) Tryd.underlying34 rfl (by kernel_rfl)) rfl ⟨rfl, H9.out.fin.1.up HLOW.out, H9.out.fin.2⟩
  · clear HC0
    obtain ⟨g, off, rfl, hX, hg, hcell⟩ := hrd (by omega)
    have e1 : bnR S (isDom K) V L = (bnX (isDom K) V S (L - 1)).2 := if_neg hL
    have e2 : bnS S (isDom K) V L = (bnX (isDom K) V S (L - 1)).1 := if_neg hL
    rw [e1, e2]
    clear e1 e2
    obtain ⟨St, hSt⟩ : ∃ St : Nat → Ms, ∀ j, (bnX (isDom K) V S j).1 = St j := ⟨_, fun _ => rfl⟩
    obtain ⟨R, hR⟩ : ∃ R : Nat → Nat → Int, ∀ j, (bnX (isDom K) V S j).2 = R j := ⟨_, fun _ => rfl⟩
    have HS0 : Hid (S = St 0 ∧ V 0 = R 0) := hid ⟨hSt 0, hR 0⟩
    simp only [hSt, hR] at HC1 ⊢
    clear hSt hR
    have HCE : Hid (∀ (wx : World) (S' : Ms) (bs : List (Nat × Obj)), Gy Pm lo X w w wx b bd S' S2 bs → ∀ j, j < L → ∀ c, c < 3 → wx.cell? ⟨g, off + j * 3 + c, none⟩ = some (.int .i64 (V j c))) := hid (fun wx S' bs hg' j hj c hc => by
      have h2 := (hg'.st g hX).2
      rw [← hcell j hj c hc]
      unfold World.cell?
      rw [h2])
    have HLL : Hid (0 < L) := hid (by omega)
    have l0 : (0 : Int) < (L : Int) := by omega
    have HLC : Hid (L ≤ cap) := hid hcl
    have q0 : ((L : Int) == 0) = false := by simp; omega
    clear hrd hX hg hcell hL hcm
    go_enter Tryd.func27, Tryd.ntmps27
    go_upto_region 1 with fail
    rw [HW.out]
    go_upto_region 4 with (refine step_load_wdm rfl _ rfl g off (V 0) rfl (fun c hc => by have := HCE.out _ _ _ H1.out 0 HLL.out c hc; rw [Nat.zero_mul, Nat.add_zero] at this; exact this) ?_)
    have H2 := hid (H1.out.new hM (wdV (V 0)) 34)
    obtain ⟨g7, hg7⟩ : ∃ g7, w1.heap.size = g7 := ⟨_, rfl⟩
    rw [hg7] at H2
    have H3 : Hid (Gy Pm lo X w w (w1.alloc (.cells #[.int .i64 (V 0 0), .int .i64 (V 0 1), .int .i64 (V 0 2)] 34)) b bd (St 0) S2 [(g7, Obj.cells (wdV (R 0)) 34 (0, 0)), (w.heap.size, Obj.cells #[.int .i64 0, .int .i64 0, .int .i64 0] 34 (0, 0))]) := hid (by have := H2.out; rw [← HS0.out.1, ← HS0.out.2]; exact this)
    generalize w1.alloc (.cells #[.int .i64 (V 0 0), .int .i64 (V 0 1), .int .i64 (V 0 2)] 34) = w3 at *
    rw [hg7]
    clear hg7 H2 H1 q0
    by_cases hc1 : cap = 1
    · have hL1 : L = 1 := by have := HLC.out; omega
      subst hL1
      subst hc1
      go_wp2
      go_loopw [21] (fun iv wr => ∃ j : Nat, 0 < j ∧ j ≤ 1 ∧ iv = .int .i64 ((j - 1 : Nat) : Int) ∧ Gy Pm lo X w w wr b bd (St (j - 1)) S2 [(g7, Obj.cells (wdV (R (j - 1))) 34 (0, 0)), (w.heap.size, Obj.cells #[.int .i64 0, .int .i64 0, .int .i64 0] 34 (0, 0))]) (fun iv _ => 1 - (intOf iv).toNat)
      case atStart => exact ⟨1, by decide, HLL.out, rfl, H3.out⟩
      case round =>
        clear H3
        obtain ⟨j, h0, hj, rfl, hJ⟩ := hrel
        have HJ := hid hJ
        clear hJ
        have hlb := HLB.out
        by_cases hlt : j < 1
        · exfalso; omega
        · obtain rfl : 1 = j := by omega
          clear hlt hj h0
          go_wp2_with (first
            | (refine step_load_row rfl 34 _ rfl (g7) 34 (wdV (R (1 - 1))) _ rfl (HJ.out.bl 0 rfl) Tryd.underlying34 rfl (by kernel_rfl) ?_)
            | (refine step_store_row rfl 34 _ _ rfl (w.heap.size) 34 _ (wdV (R (1 - 1))) rfl rfl (HJ.out.bl 1 rfl) (by kernel_rfl) rfl (by kernel_rfl) ?_))
          have H9 := hid (HJ.out.rowI hM 1 rfl (wdV (R (1 - 1))))
          exact bodyPost_ret (results_cell_row (by rfl) _ _ (w.heap.size) 34 (wdV (R (1 - 1))) (0, 0) _ rfl (H9.out.bl 1 rfl) Tryd.underlying34 rfl (by kernel_rfl)) rfl ⟨rfl, H9.out.fin.1.up HLOW.out, H9.out.fin.2⟩
    · have c1 : 1 < cap := by have := HLC.out; omega
      have HC1c := hid hc1
      clear hc1
      go_wp2
      go_loopw [21] (fun iv wr => ∃ j : Nat, 0 < j ∧ j ≤ L ∧ iv = .int .i64 ((j - 1 : Nat) : Int) ∧ Gy Pm lo X w w wr b bd (St (j - 1)) S2 [(g7, Obj.cells (wdV (R (j - 1))) 34 (0, 0)), (w.heap.size, Obj.cells #[.int .i64 0, .int .i64 0, .int .i64 0] 34 (0, 0))]) (fun iv _ => L - (intOf iv).toNat)
      case atStart => exact ⟨1, by decide, HLL.out, rfl, H3.out⟩
      case round =>
        clear H3
        obtain ⟨j, h0, hj, rfl, hJ⟩ := hrel
        have HJ := hid hJ
        clear hJ
        have hlb := HLB.out
        by_cases hlt : j < L
        · have HJL : Hid (j < L) := hid hlt
          have HJP : Hid (0 < j) := hid h0
          replace HC1 := hid (HC1.out j h0 hlt)
          obtain ⟨i, hi⟩ : ∃ i, j - 1 = i := ⟨_, rfl⟩
          have HIJ : Hid (i + 1 = j) := hid (by omega)
          rw [hi] at HJ HC1
          rw [hi]
          have j1 : (i : Int) < ((L - 1 : Nat) : Int) := by omega
          have j2 : (i : Int) < (L : Int) - 1 := by omega
          have j0 : (0 : Int) ≤ (i : Int) := by omega
          have e3 : Hid (∀ c, off + 3 + i * 3 + c = off + j * 3 + c) := hid (fun c => by omega)
          clear hj hlt h0 hi
          go_upto_region 7 with (refine step_load_wdm rfl _ rfl g (off + 3 + i * 3) (V j) rfl (fun c hc => by rw [e3.out]; exact HCE.out _ _ _ HJ.out j HJL.out c hc) ?_)
          have H4 := hid (HJ.out.new hM (wdV (V j)) 34)
          obtain ⟨g9, hg9⟩ : ∃ g9, wr.heap.size = g9 := ⟨_, rfl⟩
          rw [hg9] at H4
          rw [hg9]
          generalize wr.alloc (.cells #[.int .i64 (V j 0), .int .i64 (V j 1), .int .i64 (V j 2)] 34) = w4 at *
          clear hg9
          go_wp2_with (first
            | (refine step_load_row rfl 34 _ rfl (g7) 34 (wdV (R i)) _ rfl (H4.out.bl 1 rfl) Tryd.underlying34 rfl (by kernel_rfl) ?_)
            | (refine step_load_row rfl 34 _ rfl (g9) 34 (wdV (V j)) _ rfl (H4.out.bl 0 rfl) Tryd.underlying34 rfl (by kernel_rfl) ?_)
            | (go_at_call 18; (with_reducible refine (HC1.out _ _ H4.out).mono ?_); rintro e w5 ⟨rfl, hb⟩; have H5 := hid hb; clear hb)
            | (refine step_store_row rfl 34 _ _ rfl (g7) 34 _ (wdV (R j)) rfl rfl (H5.out.bl 1 rfl) (by kernel_rfl) rfl (by kernel_rfl) ?_))
          have H6 := hid (H5.out.drop.rowI hM 0 rfl (wdV (R j)))
          go_roundw
          case rel => exact ⟨j + 1, Nat.succ_pos j, HJL.out, by rw [Nat.add_sub_cancel, ← HIJ.out]; go_num, H6.out⟩
          case measure => have := HJL.out; have := HIJ.out; simp [intOf]; omega
        · obtain rfl : L = j := by omega
          clear hlt hj h0
          go_wp2_with (first
            | (refine step_load_row rfl 34 _ rfl (g7) 34 (wdV (R (L - 1))) _ rfl (HJ.out.bl 0 rfl) Tryd.underlying34 rfl (by kernel_rfl) ?_)
            | (refine step_store_row rfl 34 _ _ rfl (w.heap.size) 34 _ (wdV (R (L - 1))) rfl rfl (HJ.out.bl 1 rfl) (by kernel_rfl) rfl (by kernel_rfl) ?_))
          have H9 := hid (HJ.out.rowI hM 1 rfl (wdV (R (L - 1))))
          exact bodyPost_ret (results_cell_row (by rfl) _ _ (w.heap.size) 34 (wdV (R (L - 1))) (0, 0) _ rfl (H9.out.bl 1 rfl) Tryd.underlying34 rfl (by kernel_rfl)) rfl ⟨rfl, H9.out.fin.1.up HLOW.out, H9.out.fin.2⟩
end Go.Proofs.YthkijncnndoafaaDoor

/- Both: the chapter's example; how many masks and ops And takes. -/
namespace Go.Proofs.YthkijncnndoafaaDoor
open Go.RowKit
set_option maxRecDepth 100000
/-- How many masks and ops And takes. -/
def baD (n : Int) : Int := frD n + tmD n
theorem frD_le (n : Int) : 0 ≤ frD n ∧ frD n ≤ 3 := by
  unfold frD
  repeat' split
  all_goals omega
theorem tmD_le (n : Int) : 0 ≤ tmD n ∧ tmD n ≤ 3 := by
  unfold tmD
  repeat' split
  all_goals omega
theorem bl_e {S : Ms} {dom : Bool} {A B : Nat → Int} (h : (blS S dom A B).e = 0) : S.e = 0 := nt_e (S := S) (A := A) (ba_e (S := notS S A) (dom := dom) (A := notR S A) (B := B) h)
theorem cs_e {S : Ms} {c : Nat} (h : (cstS S 3 c).e = 0) : S.e = 0 := eaS_e (m := S.sh) h 0 (Nat.zero_le _)
theorem rbdr_any (n : Int) (w : World) : Calls Tryd.prog 11 #[.int .i64 n] w fun e w' => e = .returned (.int .i64 (baD n)) ∧ w' = w := by
  have h1 := frD_le n
  have h2 := tmD_le n
  have e1 : IntKind.i64.wrap (frD n + tmD n) = baD n := by unfold baD; rw [IntKind.wrap_i64]; omega
  go_enter Tryd.func11, Tryd.ntmps11
  go_wp2_with (first
    | (go_at_call 24; (with_reducible refine (rdraws_any n _).mono ?_); rintro e w1 ⟨rfl, rfl⟩)
    | (go_at_call 25; (with_reducible refine (tdraws_any n _).mono ?_); rintro e w1 ⟨rfl, rfl⟩))
  go_ret
  exact ⟨by first | rw [e1] | rfl, rfl⟩
def awb : Nat → Nat := fun i => if i = 0 then 1 else 2
def awB0_ : Ms := startD 2 99 awb 2 0 2
def awB1_ : Ms := cstS awB0_ 3 6
def awC1 : Nat → Int := cstR awB0_ 3 6
def awB2_ : Ms := cstS awB1_ 3 3
def awC2 : Nat → Int := cstR awB1_ 3 3
def awB3_ : Ms := blS awB2_ (isDom 1) awC1 awC2
def awC3 : Nat → Int := blR awB2_ (isDom 1) awC1 awC2
def awB4_ : Ms := cstS awB3_ 3 0
def awC4 : Nat → Int := cstR awB3_ 3 0
theorem awb0_bq : Bq 0 awB0_ := startD_bq 2 99 awb 2 0 2 0 (.inl rfl) (by decide) (by decide) (by decide) (fun i _ => by unfold awb; split <;> decide) (by decide) (Nat.le_refl _)
theorem awb0_n : awB0_.n = 2 ∨ awB0_.n = 3 := .inl rfl
theorem awb1_bq : Bq 6 awB1_ ∧ Wb awC1 := ⟨cstS_bq awb0_bq awb0_n (i64k 3 (by decide) (by decide)) (by decide), cstR_wb awb0_bq (by decide) awb0_n (i64k 3 (by decide) (by decide)) (by decide)⟩
theorem awb1_n : awB1_.n = 2 ∨ awB1_.n = 3 := by rw [show awB1_.n = awB0_.n from (cstS_ext _ _ _).n]; exact awb0_n
theorem awb2_bq : Bq 12 awB2_ ∧ Wb awC2 := ⟨cstS_bq awb1_bq.1 awb1_n (i64k 3 (by decide) (by decide)) (by decide), cstR_wb awb1_bq.1 (by decide) awb1_n (i64k 3 (by decide) (by decide)) (by decide)⟩
theorem awb2_n : awB2_.n = 2 ∨ awB2_.n = 3 := by rw [show awB2_.n = awB1_.n from (cstS_ext _ _ _).n]; exact awb1_n
theorem awb3_bq : Bq 53 awB3_ ∧ Wb awC3 := bl_bq (dom := isDom 1) awb2_bq.1 (by decide) awb1_bq.2 awb2_bq.2
theorem awb3_n : awB3_.n = 2 ∨ awB3_.n = 3 := by rw [show awB3_.n = awB2_.n from (blS_ext _ _ _ _).n]; exact awb2_n
theorem awb4_bq : Bq 59 awB4_ := cstS_bq awb3_bq.1 awb3_n (i64k 3 (by decide) (by decide)) (by decide)
theorem awb4_e : awB4_.e = 0 := by decide +kernel
theorem awb4_keep : awB4_.keep awB4_.L = awB4_.L := by kernel_rfl
theorem awb_vl : vlN awB4_.v awB4_.L awC3 = 1 ∧ vlN awB4_.v awB4_.L awC4 = 0 := by
  have W0 : Wt awB0_ := ⟨rfl, rfl, .inl rfl⟩
  have e3 : awB3_.e = 0 := cs_e (S := awB3_) (c := 0) awb4_e
  have e2 : awB2_.e = 0 := bl_e (S := awB2_) (dom := isDom 1) (A := awC1) (B := awC2) e3
  have e1 : awB1_.e = 0 := cs_e (S := awB1_) (c := 3) e2
  obtain ⟨a1, _⟩ := cs_sf (S := awB0_) (c := 6) W0 e1
  have W1 := W0.ext (cstS_ext awB0_ 3 6)
  obtain ⟨a2, _⟩ := cs_sf (S := awB1_) (c := 3) W1 e2
  have W2 := W1.ext (cstS_ext awB1_ 3 3)
  obtain ⟨a3, _⟩ := bl_sf (S := awB2_) (dom := isDom 1) (A := awC1) (B := awC2) W2 awb2_bq.1 (a1.ext (cstS_ext awB1_ 3 3)) a2 e3
  have W3 := W2.ext (blS_ext awB2_ (isDom 1) awC1 awC2)
  obtain ⟨a4, _⟩ := cs_sf (S := awB3_) (c := 0) W3 awb4_e
  exact ⟨(a3.ext (cstS_ext awB3_ 3 0)).vl.trans (by decide), a4.vl⟩
set_option maxHeartbeats 12800000 in
theorem bawake_any {Pm : World → Nat → Ms → (Nat → Prop) → Prop} (hM : Mach Pm) (hN : MachN Pm) (w : World) (hp : Pv w) :
    Calls Tryd.prog 12 #[] w fun e w' => e = .returned (.bool true) ∧ Below w.heap.size w w' := by
  have hlow := (Below.refl w.heap.size w).alloc (Nat.le_refl _) (.cells #[.int .u64 1, .int .u64 2] 22)
  have HLOW := hid hlow
  have hp0 := hp.self hlow
  have HGL : Hid (gpair < (w.alloc (.cells #[.int .u64 1, .int .u64 2] 22)).heap.size) := hid hp0.1
  have HPV := hid hp0
  have HBG : Hid (Calls Tryd.prog 4 #[.int .i64 2, .slice (some ⟨w.heap.size, 0, none⟩) 2 2, .int .i64 99] (w.alloc (.cells #[.int .u64 1, .int .u64 2] 22)) fun e w' => ∃ p b, e = .returned (.tuple #[.agg (paC p b (.slice none 0 0) (.slice none 0 0)), .bool true]) ∧ Bz Pm (w.alloc (.cells #[.int .u64 1, .int .u64 2] 22)).heap.size (fun _ => False) (w.alloc (.cells #[.int .u64 1, .int .u64 2] 22)) w' p b awB0_ awB0_) := hid (by
    have hrd : RdS .u64 (w.alloc (.cells #[.int .u64 1, .int .u64 2] 22)) (fun g => g < (w.alloc (.cells #[.int .u64 1, .int .u64 2] 22)).heap.size) (.slice (some ⟨w.heap.size, 0, none⟩) 2 2) (wdL awb 2) := by
      have hz : wdL awb 2 = [(1 : Int), 2] := rfl
      rw [hz]
      refine ⟨some ⟨w.heap.size, 0, none⟩, 2, rfl, Nat.le_refl _, by decide, by show 2 * 8 ≤ _; decide, fun z hz => ?_, fun _ => ⟨w.heap.size, 0, rfl, by rw [sz_al]; omega, by rw [sz_al]; omega, fun j hj => ?_⟩⟩
      · simp at hz; rcases hz with rfl | rfl <;> rfl
      · have hj2 : j < 2 := hj
        rcases (by omega : j = 0 ∨ j = 1) with rfl | rfl
        · exact row_c (i := 0) (heap_alloc_new w _) rfl
        · exact row_c (i := 1) (heap_alloc_new w _) rfl
    exact lbegins_any hM hN 2 99 (.inl rfl) (by decide) (by decide) awb 2 _ _ hrd)
  have HSZ : Hid ((w.alloc (.cells #[.int .u64 1, .int .u64 2] 22)).heap.size = w.heap.size + 1) := hid (sz_al _ _)
  clear hlow hp hp0
  obtain ⟨w0, hw0⟩ : ∃ w0, w.alloc (.cells #[.int .u64 1, .int .u64 2] 22) = w0 := ⟨_, rfl⟩
  rw [hw0] at HBG HSZ HLOW HGL HPV
  have HW0 := hid hw0
  clear hw0
  have HC1 := hid (fun (w0' wx : World) (p b : Nat) (bs : List (Nat × Obj)) (h : Gy Pm w0.heap.size (fun _ => False) w0 w0' wx p b awB0_ awB0_ bs) => h.lift (f := 6) (args := #[.pointer (some ⟨p, 0, none⟩), .int .u64 6]) (E := fun e => e = .returned (.agg (wdV awC1))) (S1' := awB1_) (fun X W hz => qpub hM (shI hM) 6 hz awb0_bq (by decide) awb0_n (by decide)))
  have HC2 := hid (fun (w0' wx : World) (p b : Nat) (bs : List (Nat × Obj)) (h : Gy Pm w0.heap.size (fun _ => False) w0 w0' wx p b awB1_ awB0_ bs) => h.lift (f := 6) (args := #[.pointer (some ⟨p, 0, none⟩), .int .u64 3]) (E := fun e => e = .returned (.agg (wdV awC2))) (S1' := awB2_) (fun X W hz => qpub hM (shI hM) 3 hz awb1_bq.1 (by decide) awb1_n (by decide)))
  have HC3 := hid (fun (w0' wx : World) (p b : Nat) (bs : List (Nat × Obj)) (h : Gy Pm w0.heap.size (fun _ => False) w0 w0' wx p b awB2_ awB0_ bs) => h.lift (f := 26) (args := #[.pointer (some ⟨p, 0, none⟩), .int .i64 1, .agg (wdV awC1), .agg (wdV awC2)]) (E := fun e => e = .returned (.agg (wdV awC3))) (S1' := awB3_) (fun X W hz => qless hM 1 awC1 awC2 hz (Pv.bz HPV.out HGL.out h.z) HGL.out awb2_bq.1 (by decide) awb2_n (i64k 1 (by decide) (by decide)) awb1_bq.2 awb2_bq.2))
  have HC4 := hid (fun (w0' wx : World) (p b : Nat) (bs : List (Nat × Obj)) (h : Gy Pm w0.heap.size (fun _ => False) w0 w0' wx p b awB3_ awB0_ bs) => h.lift (f := 27) (args := #[.pointer (some ⟨p, 0, none⟩), .int .i64 1, .slice none 0 0]) (E := fun e => e = .returned (.agg (wdV awC4))) (S1' := awB4_) (fun X W hz => qany hM 1 (fun _ => none3) 0 (.slice none 0 0) hz (Pv.bz HPV.out HGL.out h.z) HGL.out awb3_bq.1 (by decide) awb3_n (i64k 1 (by decide) (by decide)) (fun _ => none3_wb) (wsR_none _ _ _)))
  have HVL := hid (fun (w0' wx : World) (p b : Nat) (bs : List (Nat × Obj)) (h : Gy Pm w0.heap.size (fun _ => False) w0 w0' wx p b awB4_ awB0_ bs) => h.asks hM (E := fun e w' => ∃ v, e = .returned v ∧ Rd .u64 w' v (wdL awB4_.v awB4_.L)) (f := 8) (args := #[.pointer (some ⟨p, 0, none⟩)]) (fun X W hz => (zvalues hM hz awb4_bq (by decide)).mono fun _ _ ⟨v, e1, e2, e3⟩ => ⟨⟨v, e1, by rw [awb4_keep] at e2; exact e2⟩, e3⟩))
  have HER := hid (fun (w0' wx : World) (p b : Nat) (bs : List (Nat × Obj)) (h : Gy Pm w0.heap.size (fun _ => False) w0 w0' wx p b awB4_ awB0_ bs) => h.asks hM (E := fun e _ => e = .returned (.int .i64 0)) (f := 9) (args := #[.pointer (some ⟨p, 0, none⟩)]) (fun X W hz => (zerr hM hz awb4_bq (by decide)).mono fun _ _ ⟨e1, e3⟩ => ⟨by rw [e1, awb4_e]; rfl, e3⟩))
  have HV1 : Hid (∀ (v : Value) (w : World), Rd .u64 w v (wdL awB4_.v awB4_.L) → Calls Tryd.prog 7 #[v, .agg (wdV awC3)] w fun e w' => e = .returned (.int .u64 1) ∧ Below w.heap.size w w') := hid (fun v w h => by
    have := (shI hM).value v _ _ awC3 w h (fun i hi => awb4_bq.v i hi)
    rw [awb_vl.1] at this
    exact this)
  have HV2 : Hid (∀ (v : Value) (w : World), Rd .u64 w v (wdL awB4_.v awB4_.L) → Calls Tryd.prog 7 #[v, .agg (wdV awC4)] w fun e w' => e = .returned (.int .u64 0) ∧ Below w.heap.size w w') := hid (fun v w h => by
    have := (shI hM).value v _ _ awC4 w h (fun i hi => awb4_bq.v i hi)
    rw [awb_vl.2] at this
    exact this)
  generalize awC4 = R4 at *
  generalize awB4_ = E4 at *
  generalize awC3 = R3 at *
  generalize awB3_ = E3 at *
  generalize awC1 = A1 at *
  generalize awC2 = A2 at *
  generalize awB2_ = E2 at *
  generalize awB1_ = E1 at *
  generalize awB0_ = E0 at *
  go_enter Tryd.func12, Tryd.ntmps12
  go_upto_region 1 with fail
  go_upto_region 2 with (first
    | (rw [HW0.out]; go_at_call 4; (with_reducible refine (HBG.out).mono ?_); rintro e w2 ⟨p, b, rfl, hz⟩; have Z2 := hid hz; clear hz)
    | (go_at_call 4; (with_reducible refine (HBG.out).mono ?_); rintro e w2 ⟨p, b, rfl, hz⟩; have Z2 := hid hz; clear hz))
  have H3 := hid ((Gy.start Z2.out).new hM (paC p b (.slice none 0 0) (.slice none 0 0)) 29)
  obtain ⟨b1, hb1⟩ : ∃ b1, w2.heap.size = b1 := ⟨_, rfl⟩
  rw [hb1] at H3
  generalize w2.alloc (.cells #[.pointer (some ⟨p, 0, none⟩), .pointer (some ⟨b, 0, none⟩), .slice none 0 0, .slice none 0 0] 29) = w3' at *
  rw [hb1]
  clear hb1 HBG HW0
  go_upto_region 4 with fail
  go_cut [3] from 13 to 21 (fun q3 wx => ∃ b3, q3 = .pointer (some ⟨b3, 0, none⟩) ∧ Gy Pm w0.heap.size (fun _ => False) w0 w2 wx p b E3 E0 [(b3, .cells (wdV R3) 34 (0, 0)), (b1, .cells (paC p b (.slice none 0 0) (.slice none 0 0)) 29 (0, 0))])
  case first =>
    have G0 := hid (H3.out.self hM ((Below.refl _ w3').drew))
    refine wp_region_noPanic ?_
    refine wp_region_held_drew (S := fun w' => w'.heap[b1]? = some (.cells (paC p b (.slice none 0 0) (.slice none 0 0)) 29 (0, 0))) (by kernel_rfl) (G0.out.bl 0 rfl) (fun h0 => ?_)
    generalize w3'.drew = y0 at *
    refine wpAnyH_take (i := 0) (v := .pointer (some ⟨b1, 0, none⟩)) rfl (by kernel_rfl) (by kernel_rfl) (by kernel_rfl) (fun _ _ _ h => h) (.inl ⟨by rfl, fun w hw => by clear hw; go_simp⟩) h0 ?_
    try simp only [Act.put, lay_out]
    refine wpAnyH_take (i := 1) (v := .pointer (some ⟨p, 0, none⟩)) rfl (by kernel_rfl) (by kernel_rfl) (by kernel_rfl) (fun _ _ _ h => h) (.inl ⟨by rfl, fun w' hw => by have hc := row_c (i := 0) (u := .pointer (some ⟨p, 0, none⟩)) hw rfl; clear hw; go_simp⟩) h0 ?_
    try simp only [Act.put, lay_out]
    refine wpAnyH_take (i := 2) (v := .pointer (some ⟨b1, 0, none⟩)) rfl (by kernel_rfl) (by kernel_rfl) (by kernel_rfl) (fun _ _ _ h => h) (.inl ⟨by rfl, fun w hw => by clear hw; go_simp⟩) h0 ?_
    try simp only [Act.put, lay_out]
    refine wpAnyH_take (i := 3) (v := .pointer (some ⟨p, 0, none⟩)) rfl (by kernel_rfl) (by kernel_rfl) (by kernel_rfl) (fun _ _ _ h => h) (.inl ⟨by rfl, fun w' hw => by have hc := row_c (i := 0) (u := .pointer (some ⟨p, 0, none⟩)) hw rfl; clear hw; go_simp⟩) h0 ?_
    try simp only [Act.put, lay_out]
    refine wpAnyH_take (i := 5) (v := .pointer (some ⟨b1, 0, none⟩)) rfl (by kernel_rfl) (by kernel_rfl) (by kernel_rfl) (fun _ _ _ h => h) (.inl ⟨by rfl, fun w hw => by clear hw; go_simp⟩) h0 ?_
    try simp only [Act.put, lay_out]
    refine wpAnyH_take (i := 6) (v := .pointer (some ⟨p, 0, none⟩)) rfl (by kernel_rfl) (by kernel_rfl) (by kernel_rfl) (fun _ _ _ h => h) (.inl ⟨by rfl, fun w' hw => by have hc := row_c (i := 0) (u := .pointer (some ⟨p, 0, none⟩)) hw rfl; clear hw; go_simp⟩) h0 ?_
    try simp only [Act.put, lay_out]
    refine wpAnyH_ready (rs := [4, 9]) (by kernel_rfl) (by simp) (AllReadyH.cons rfl (fun K hK => ?_) (AllReadyH.cons rfl (fun K hK => ?_) AllReadyH.nil))
    · rw [if_pos (by rfl)]
      go_simp
      go_at_call 6
      (with_reducible refine (HC1.out _ _ _ _ _ G0.out).mono ?_); rintro e y1 ⟨rfl, hz⟩
      have G1 := hid hz
      clear hz
      refine hK.out _ _ (G1.out.bl 0 rfl) (fun h1x => ?_)
      clear hK K
      try simp only [Act.put, lay_out]
      refine wpAnyH_ready (rs := [7, 9]) (by kernel_rfl) (by simp) (AllReadyH.cons rfl (fun K hK => ?_) (AllReadyH.cons rfl (fun K hK => ?_) AllReadyH.nil))
      · rw [if_pos (by rfl)]
        go_simp
        go_at_call 6
        (with_reducible refine (HC2.out _ _ _ _ _ G1.out).mono ?_); rintro e y2 ⟨rfl, hz⟩
        have G2 := hid hz
        clear hz
        refine hK.out _ _ (G2.out.bl 0 rfl) (fun h2x => ?_)
        clear hK K
        try simp only [Act.put, lay_out]
        refine wpAnyH_ready (rs := [8, 9]) (by kernel_rfl) (by simp) (AllReadyH.cons rfl (fun K hK => ?_) (AllReadyH.cons rfl (fun K hK => ?_) AllReadyH.nil))
        · rw [if_pos (by rfl)]
          go_simp
          go_at_call 26
          (with_reducible refine (HC3.out _ _ _ _ _ G2.out).mono ?_); rintro e y3 ⟨rfl, hz⟩
          have G3 := hid hz
          clear hz
          refine hK.out _ _ (G3.out.bl 0 rfl) (fun h3x => ?_)
          clear hK K
          try simp only [Act.put, lay_out]
          refine wpAnyH_ready (rs := [9]) (by kernel_rfl) (by simp) (AllReadyH.cons rfl (fun K hK => ?_) AllReadyH.nil)
          rw [if_pos (by rfl)]
          go_simp
          have G4 := hid (G3.out.new hM #[.int .i64 0, .int .i64 0, .int .i64 0] 34)
          refine hK.out _ _ (G4.out.bl 1 rfl) (fun h4x => ?_)
          clear hK K
          try simp only [Act.put, lay_out]
          generalize y3.alloc (.cells #[.int .i64 0, .int .i64 0, .int .i64 0] 34) = y4 at *
          refine wpAnyH_ready (rs := [10]) (by kernel_rfl) (by simp) (AllReadyH.cons rfl (fun K hK => ?_) AllReadyH.nil)
          rw [if_pos (by rfl)]
          refine wp_store_row 34 _ _ rfl (y3.heap.size) (wdV R3) rfl rfl 34 _ (G4.out.bl 0 rfl) (by kernel_rfl) rfl (by kernel_rfl) ?_
          have G5 := hid (G4.out.row hM (wdV R3))
          refine hK.out _ _ (G5.out.bl 1 rfl) (fun h5x => ?_)
          clear hK K
          try simp only [Act.put, lay_out]
          refine wpAnyH_done (by kernel_rfl) ?_ _
          refine NoPanic.normal ?_
          clear h0 h1x h2x h3x h4x h5x
          try simp only [Act.put, lay_out]
          go_wp2_with fail
          go_meet
          exact ⟨_, rfl, G5.out⟩
        · rw [if_pos (by rfl)]
          go_simp
          have G3 := hid (G2.out.new hM #[.int .i64 0, .int .i64 0, .int .i64 0] 34)
          refine hK.out _ _ (G3.out.bl 1 rfl) (fun h3x => ?_)
          clear hK K
          try simp only [Act.put, lay_out]
          generalize y2.alloc (.cells #[.int .i64 0, .int .i64 0, .int .i64 0] 34) = y3 at *
          refine wpAnyH_ready (rs := [8]) (by kernel_rfl) (by simp) (AllReadyH.cons rfl (fun K hK => ?_) AllReadyH.nil)
          rw [if_pos (by rfl)]
          go_simp
          go_at_call 26
          (with_reducible refine (HC3.out _ _ _ _ _ G3.out).mono ?_); rintro e y4 ⟨rfl, hz⟩
          have G4 := hid hz
          clear hz
          refine hK.out _ _ (G4.out.bl 1 rfl) (fun h4x => ?_)
          clear hK K
          try simp only [Act.put, lay_out]
          refine wpAnyH_ready (rs := [10]) (by kernel_rfl) (by simp) (AllReadyH.cons rfl (fun K hK => ?_) AllReadyH.nil)
          rw [if_pos (by rfl)]
          refine wp_store_row 34 _ _ rfl (y2.heap.size) (wdV R3) rfl rfl 34 _ (G4.out.bl 0 rfl) (by kernel_rfl) rfl (by kernel_rfl) ?_
          have G5 := hid (G4.out.row hM (wdV R3))
          refine hK.out _ _ (G5.out.bl 1 rfl) (fun h5x => ?_)
          clear hK K
          try simp only [Act.put, lay_out]
          refine wpAnyH_done (by kernel_rfl) ?_ _
          refine NoPanic.normal ?_
          clear h0 h1x h2x h3x h4x h5x
          try simp only [Act.put, lay_out]
          go_wp2_with fail
          go_meet
          exact ⟨_, rfl, G5.out⟩
      · rw [if_pos (by rfl)]
        go_simp
        have G2 := hid (G1.out.new hM #[.int .i64 0, .int .i64 0, .int .i64 0] 34)
        refine hK.out _ _ (G2.out.bl 1 rfl) (fun h2x => ?_)
        clear hK K
        try simp only [Act.put, lay_out]
        generalize y1.alloc (.cells #[.int .i64 0, .int .i64 0, .int .i64 0] 34) = y2 at *
        refine wpAnyH_ready (rs := [7]) (by kernel_rfl) (by simp) (AllReadyH.cons rfl (fun K hK => ?_) AllReadyH.nil)
        rw [if_pos (by rfl)]
        go_simp
        go_at_call 6
        (with_reducible refine (HC2.out _ _ _ _ _ G2.out).mono ?_); rintro e y3 ⟨rfl, hz⟩
        have G3 := hid hz
        clear hz
        refine hK.out _ _ (G3.out.bl 1 rfl) (fun h3x => ?_)
        clear hK K
        try simp only [Act.put, lay_out]
        refine wpAnyH_ready (rs := [8]) (by kernel_rfl) (by simp) (AllReadyH.cons rfl (fun K hK => ?_) AllReadyH.nil)
        rw [if_pos (by rfl)]
        go_simp
        go_at_call 26
        (with_reducible refine (HC3.out _ _ _ _ _ G3.out).mono ?_); rintro e y4 ⟨rfl, hz⟩
        have G4 := hid hz
        clear hz
        refine hK.out _ _ (G4.out.bl 1 rfl) (fun h4x => ?_)
        clear hK K
        try simp only [Act.put, lay_out]
        refine wpAnyH_ready (rs := [10]) (by kernel_rfl) (by simp) (AllReadyH.cons rfl (fun K hK => ?_) AllReadyH.nil)
        rw [if_pos (by rfl)]
        refine wp_store_row 34 _ _ rfl (y1.heap.size) (wdV R3) rfl rfl 34 _ (G4.out.bl 0 rfl) (by kernel_rfl) rfl (by kernel_rfl) ?_
        have G5 := hid (G4.out.row hM (wdV R3))
        refine hK.out _ _ (G5.out.bl 1 rfl) (fun h5x => ?_)
        clear hK K
        try simp only [Act.put, lay_out]
        refine wpAnyH_done (by kernel_rfl) ?_ _
        refine NoPanic.normal ?_
        clear h0 h1x h2x h3x h4x h5x
        try simp only [Act.put, lay_out]
        go_wp2_with fail
        go_meet
        exact ⟨_, rfl, G5.out⟩
    · rw [if_pos (by rfl)]
      go_simp
      have G1 := hid (G0.out.new hM #[.int .i64 0, .int .i64 0, .int .i64 0] 34)
      refine hK.out _ _ (G1.out.bl 1 rfl) (fun h1x => ?_)
      clear hK K
      try simp only [Act.put, lay_out]
      generalize y0.alloc (.cells #[.int .i64 0, .int .i64 0, .int .i64 0] 34) = y1 at *
      refine wpAnyH_ready (rs := [4]) (by kernel_rfl) (by simp) (AllReadyH.cons rfl (fun K hK => ?_) AllReadyH.nil)
      rw [if_pos (by rfl)]
      go_simp
      go_at_call 6
      (with_reducible refine (HC1.out _ _ _ _ _ G1.out).mono ?_); rintro e y2 ⟨rfl, hz⟩
      have G2 := hid hz
      clear hz
      refine hK.out _ _ (G2.out.bl 1 rfl) (fun h2x => ?_)
      clear hK K
      try simp only [Act.put, lay_out]
      refine wpAnyH_ready (rs := [7]) (by kernel_rfl) (by simp) (AllReadyH.cons rfl (fun K hK => ?_) AllReadyH.nil)
      rw [if_pos (by rfl)]
      go_simp
      go_at_call 6
      (with_reducible refine (HC2.out _ _ _ _ _ G2.out).mono ?_); rintro e y3 ⟨rfl, hz⟩
      have G3 := hid hz
      clear hz
      refine hK.out _ _ (G3.out.bl 1 rfl) (fun h3x => ?_)
      clear hK K
      try simp only [Act.put, lay_out]
      refine wpAnyH_ready (rs := [8]) (by kernel_rfl) (by simp) (AllReadyH.cons rfl (fun K hK => ?_) AllReadyH.nil)
      rw [if_pos (by rfl)]
      go_simp
      go_at_call 26
      (with_reducible refine (HC3.out _ _ _ _ _ G3.out).mono ?_); rintro e y4 ⟨rfl, hz⟩
      have G4 := hid hz
      clear hz
      refine hK.out _ _ (G4.out.bl 1 rfl) (fun h4x => ?_)
      clear hK K
      try simp only [Act.put, lay_out]
      refine wpAnyH_ready (rs := [10]) (by kernel_rfl) (by simp) (AllReadyH.cons rfl (fun K hK => ?_) AllReadyH.nil)
      rw [if_pos (by rfl)]
      refine wp_store_row 34 _ _ rfl (y0.heap.size) (wdV R3) rfl rfl 34 _ (G4.out.bl 0 rfl) (by kernel_rfl) rfl (by kernel_rfl) ?_
      have G5 := hid (G4.out.row hM (wdV R3))
      refine hK.out _ _ (G5.out.bl 1 rfl) (fun h5x => ?_)
      clear hK K
      try simp only [Act.put, lay_out]
      refine wpAnyH_done (by kernel_rfl) ?_ _
      refine NoPanic.normal ?_
      clear h0 h1x h2x h3x h4x h5x
      try simp only [Act.put, lay_out]
      go_wp2_with fail
      go_meet
      exact ⟨_, rfl, G5.out⟩
  case rest =>
    obtain ⟨b3, rfl, hcut⟩ := hcut
    have H8 := hid hcut
    clear hcut H3
    obtain ⟨w8, hw8⟩ : ∃ w8, wc = w8 := ⟨_, rfl⟩
    subst hw8
    have k0 := row_c (i := 0) (u := .pointer (some ⟨p, 0, none⟩)) (H8.out.bl 1 rfl) rfl
    go_upto_region 6 with (go_at_call 27; (with_reducible refine (HC4.out _ _ _ _ _ H8.out).mono ?_); rintro e w9 ⟨rfl, hb⟩; have H9 := hid hb; clear hb k0)
    have HA := hid (H9.out.new hM (wdV R4) 34)
    obtain ⟨b4, hb4⟩ : ∃ b4, w9.heap.size = b4 := ⟨_, rfl⟩
    rw [hb4] at HA
    generalize w9.alloc (.cells #[.int .i64 (R4 0), .int .i64 (R4 1), .int .i64 (R4 2)] 34) = wA at *
    rw [hb4]
    clear hb4 H8 H9
    have k1 := row_c (i := 0) (u := .pointer (some ⟨p, 0, none⟩)) (HA.out.bl 2 rfl) rfl
    go_upto_region 7 with (go_at_call 8; (with_reducible refine (HVL.out _ _ _ _ _ HA.out).mono ?_); rintro e wB ⟨⟨v, rfl, hv⟩, hb⟩; have HB := hid hb; have HV := hid hv; clear hb hv k1)
    go_wp2_with (first
      | (refine step_load_row rfl 34 _ rfl (b3) 34 (wdV R3) _ rfl (HB.out.bl 1 rfl) Tryd.underlying34 rfl (by kernel_rfl) ?_)
      | (go_at_call 7; (with_reducible refine (HV1.out _ _ HV.out).mono ?_); rintro e wC ⟨rfl, hb⟩; have HC := hid (HB.out.self hM hb); have HVc := hid (HV.out.self hb); clear hb; have k2 := row_c (i := 0) (u := .pointer (some ⟨p, 0, none⟩)) (HC.out.bl 2 rfl) rfl)
      | (refine step_load_row_want (by rfl) 34 _ rfl (b4) 34 (wdV R4) _ rfl (HC.out.bl 0 rfl) Tryd.underlying34 rfl (by kernel_rfl) ?_)
      | (go_at_call 7; (with_reducible refine (HV2.out _ _ HVc.out).mono ?_); rintro e wD ⟨rfl, hb⟩; have HD := hid (HC.out.self hM hb); clear hb; have k3 := row_c (i := 0) (u := .pointer (some ⟨p, 0, none⟩)) (HD.out.bl 2 rfl) rfl)
      | (go_at_call 9; (with_reducible refine (HER.out _ _ _ _ _ HD.out).mono ?_); rintro e wE ⟨rfl, hb⟩; have HE := hid hb; clear hb))
    go_ret
    exact ⟨rfl, HLOW.out.trans (HE.out.fin.1.low.mono (by have := HSZ.out; omega))⟩
end Go.Proofs.YthkijncnndoafaaDoor

/- General: what is picked, what is folded, as numbers; the states of a law that lays words and goes on. -/
namespace Go.Proofs.YthkijncnndoafaaDoor

theorem fo_bit (m x : Nat) : ∀ j, j ≤ m → ∀ i, (foN m x j).testBit i = true ↔ ∃ t, t < 2 ^ j ∧ x.testBit (i + t * 2 ^ (m - j)) = true
  | 0, _, i => by
    constructor
    · exact fun h => ⟨0, by decide, by rw [Nat.zero_mul]; exact h⟩
    · rintro ⟨t, ht, h⟩
      obtain rfl : t = 0 := by have : t < 1 := ht; omega
      rw [Nat.zero_mul] at h
      exact h
  | j + 1, hj, i => by
    have hp : 2 ^ (m - j) = 2 * 2 ^ (m - 1 - j) := by rw [show m - j = (m - 1 - j) + 1 by omega, Nat.pow_succ, Nat.mul_comm]
    have hq : m - (j + 1) = m - 1 - j := by omega
    rw [foN_step, Nat.testBit_or, wsr_bit, Bool.or_eq_true, fo_bit m x j (by omega) i, fo_bit m x j (by omega) (i + 2 ^ (m - 1 - j)), hp, hq]
    generalize 2 ^ (m - 1 - j) = k
    constructor
    · rintro (⟨t, ht, h⟩ | ⟨t, ht, h⟩)
      · refine ⟨2 * t, by rw [Nat.pow_succ]; omega, ?_⟩
        rw [show 2 * t * k = t * (2 * k) by rw [Nat.mul_comm 2 t, Nat.mul_assoc]]
        exact h
      · refine ⟨2 * t + 1, by rw [Nat.pow_succ]; omega, ?_⟩
        rw [show i + (2 * t + 1) * k = i + k + t * (2 * k) by rw [Nat.add_mul, Nat.one_mul, Nat.mul_comm 2 t, Nat.mul_assoc]; omega]
        exact h
    · rintro ⟨t, ht, h⟩
      rw [Nat.pow_succ] at ht
      rcases Nat.mod_two_eq_zero_or_one t with e | e
      · refine .inl ⟨t / 2, by omega, ?_⟩
        rw [show t / 2 * (2 * k) = t * k by rw [← Nat.mul_assoc, show t / 2 * 2 = t by omega]]
        exact h
      · refine .inr ⟨t / 2, by omega, ?_⟩
        rw [show i + k + t / 2 * (2 * k) = i + t * k by rw [← Nat.mul_assoc, show t / 2 * 2 = t - 1 by omega, Nat.sub_mul, Nat.one_mul]; have : k ≤ t * k := Nat.le_mul_of_pos_left k (by omega); omega]
        exact h
/-- Bit 0 of what is folded: is any of the lowest bits 1? -/
theorem fo_any (m x : Nat) : foN m x m % 2 = 1 ↔ x % 2 ^ (2 ^ m) ≠ 0 := by
  have h0 : foN m x m % 2 = 1 ↔ (foN m x m).testBit 0 = true := by rw [Nat.testBit_zero]; simp
  rw [h0, fo_bit m x m (Nat.le_refl m) 0]
  simp only [Nat.sub_self, Nat.pow_zero, Nat.mul_one, Nat.zero_add]
  generalize 2 ^ m = q
  constructor
  · rintro ⟨t, ht, h⟩ e
    have h2 : (x % 2 ^ q).testBit t = true := by rw [Nat.testBit_mod_two_pow, decide_eq_true ht, h]; rfl
    rw [e, Nat.zero_testBit] at h2
    cases h2
  · intro hne
    obtain ⟨t, ht⟩ := Nat.exists_testBit_of_ne_zero hne
    rw [Nat.testBit_mod_two_pow, Bool.and_eq_true, decide_eq_true_eq] at ht
    exact ⟨t, ht.1, ht.2⟩
/-! ### words that are laid one behind the other -/
/-! ### what is picked, and whether words are alike -/
end Go.Proofs.YthkijncnndoafaaDoor

/- General: machines on which all goes well: what may be done is done. No program is named. -/
namespace Go.Proofs.YthkijncnndoafaaDoor

/-- All has gone well; L words, u masks of T drawn. -/
structure Fin_ (T M : Nat) (S : Ms) (L u : Nat) : Prop where
  e : S.e = 0
  kind : S.kind = 0
  L : S.L = L
  used : S.used = u
  draws : S.draws = u
  TN : S.TN = T
  free : S.free = T - u
  most : S.most = (M : Int)
  skip : S.skip = 0
  dry : S.dry = false
  n : S.n = 2 ∨ S.n = 3
section
variable {T M L u : Nat} {S : Ms}
theorem Fin_.wt (h : Fin_ T M S L u) : Wt S := ⟨h.skip, h.dry, h.n⟩
theorem Fin_.len (h : Fin_ T M S L u) : S.len = L := by unfold Ms.len; rw [h.skip, h.L]; omega
theorem Fin_.does {o : Op6} (h : Fin_ T M S L u) (ho : okOp o (L : Int) S.n = true) (h1 : o.K ≠ 1) (h2 : o.K ≠ 2) (hL : L < M) : Fin_ T M (S.doS o 0) (L + 1) u ∧ S.doR o = (L : Int) := by
  have hbad : S.bad o = false := by
    unfold Ms.bad
    rw [h.len, ho]
    simp [h2]
  have hfull : S.full = false := by
    unfold Ms.full
    rw [h.dry, h.len, h.most]
    simp; omega
  have hout : S.out o = false := by
    unfold Ms.out
    simp [h1]
  have e1 : S.doS o 0 = S.put o 0 := by
    unfold Ms.doS
    rw [if_neg (by rw [h.e]; decide), if_neg (by rw [hbad]; decide), if_neg (by rw [hfull]; decide), if_neg (by rw [hout]; decide)]
  have e2 : S.doR o = (L : Int) := by
    unfold Ms.doR
    rw [if_neg (by rw [hbad, hfull, hout, h.e]; simp), h.len]
  refine ⟨?_, e2⟩
  rw [e1]
  unfold Ms.put
  exact ⟨h.e, h.kind, by show S.L + 1 = _; rw [h.L], by show (if o.K = 1 ∧ S.dry = false then S.used + 1 else S.used) = u; rw [if_neg (fun q => h1 q.1)]; exact h.used, by show (if o.K = 1 then S.draws + 1 else S.draws) = u; rw [if_neg h1]; exact h.draws, h.TN, by show (if o.K = 1 ∧ S.dry = false then S.free - 1 else S.free) = _; rw [if_neg (fun q => h1 q.1)]; exact h.free, h.most, h.skip, h.dry, h.n⟩
/-- Draws and masks go together. -/
theorem doS_du (S : Ms) (o : Op6) (x : Nat) (hd : S.dry = false) : (S.doS o x).draws + S.used = (S.doS o x).used + S.draws := by
  unfold Ms.doS
  by_cases c1 : S.e ≠ 0
  · rw [if_pos c1]; omega
  · rw [if_neg c1]
    by_cases c2 : S.bad o = true
    · rw [if_pos c2]; exact Nat.add_comm _ _
    · rw [if_neg c2]
      by_cases c3 : S.full = true
      · rw [if_pos c3]; exact Nat.add_comm _ _
      · rw [if_neg c3]
        by_cases c4 : S.out o = true
        · rw [if_pos c4]; exact Nat.add_comm _ _
        · rw [if_neg c4]
          show (if o.K = 1 then S.draws + 1 else S.draws) + S.used = (if o.K = 1 ∧ S.dry = false then S.used + 1 else S.used) + S.draws
          by_cases h : o.K = 1
          · rw [if_pos h, if_pos ⟨h, hd⟩]; omega
          · rw [if_neg h, if_neg (fun q => h q.1)]; omega
theorem beginS_du (S : Ms) (k : Int) : (S.beginS k).draws = S.draws ∧ (S.beginS k).used = S.used := by
  unfold Ms.beginS
  repeat' split
  all_goals exact ⟨rfl, rfl⟩
theorem endS_du (S : Ms) : S.endS.draws = S.draws ∧ S.endS.used = S.used := by
  unfold Ms.endS
  repeat' split
  all_goals exact ⟨rfl, rfl⟩
theorem sq_du (S : Ms) (op : Nat → (Nat → Int) → Op6) (hd : S.dry = false) : ∀ m, (sqS S op m).draws + S.used = (sqS S op m).used + S.draws
  | 0 => Nat.add_comm _ _
  | m + 1 => by
    have h1 := sq_du S op hd m
    have h2 := doS_du (sqS S op m) (sqO S op m) 0 ((sq_ext S op m).dry.trans hd)
    rw [sqS_next]
    omega
theorem blk_du (S : Ms) (kd : Int) (op : Nat → (Nat → Int) → Op6) (hd : S.dry = false) (m : Nat) : (blkS S kd op m).draws + S.used = (blkS S kd op m).used + S.draws := by
  have h1 := sq_du (S.beginS kd) op ((beginS_ext S kd).dry.trans hd) m
  obtain ⟨b1, b2⟩ := beginS_du S kd
  obtain ⟨e1, e2⟩ := endS_du (sqS (S.beginS kd) op m)
  unfold blkS
  rw [e1, e2]
  omega
theorem Fin_.blk {kd : Int} {op : Nat → (Nat → Int) → Op6} {m r : Nat} (h : Fin_ T M S L u) (hkd : 1 ≤ kd ∧ kd ≤ 3) (ho : ∀ j, j < m → okOp (op j (exR L j)) ((L + j : Nat) : Int) S.n = true ∧ (op j (exR L j)).K ≠ 2) (hr : rands op L m = r) (hm : L + m ≤ M) (hu : u + r ≤ T) : Fin_ T M (blkS S kd op m) (L + m) (u + r) := by
  have hX := blk_ext S kd op m
  obtain ⟨f1, f2, f3, f4, f5, f6⟩ := blk_fine (kd := kd) (op := op) (m := m) h.skip h.dry h.e h.kind hkd (by rw [h.L]; exact ho) (by rw [h.L, h.most]; omega) (by rw [h.L, hr, h.used, h.TN]; exact hu) (by rw [h.L, hr, h.free]; omega)
  rw [h.L, hr] at f3 f4
  have hB := blk_of (kd := kd) (op := op) (m := m) h.skip h.dry f1
  have hdu := blk_du S kd op h.dry m
  refine ⟨f1, f2, by rw [hB.L, h.L], by rw [f3, h.used], ?_, by rw [f6, h.TN], by rw [f4, h.free]; omega, by rw [f5, h.most], hX.skip.trans h.skip, hX.dry.trans h.dry, by rw [hX.n]; exact h.n⟩
  rw [f3, h.used, h.draws] at hdu
  omega
end
/-- Registers that are there. -/
def Rl (S : Ms) (A : Nat → Int) : Prop := ∀ i, i < 3 → (i < S.sh → 0 ≤ A i ∧ A i < (S.L : Int)) ∧ (S.sh ≤ i → A i = -1)
theorem Rl.ext {S S' : Ms} {A : Nat → Int} (h : Rl S A) (x : Ext S S') : Rl S' A := fun i hi => by
  have e : S'.sh = S.sh := by unfold Ms.sh; rw [x.n]
  have := x.L
  rw [e]
  exact ⟨fun q => by have := (h i hi).1 q; omega, (h i hi).2⟩
theorem Rl.gw {S : Ms} {A : Nat → Int} (h : Rl S A) : Gw S A := ⟨fun i hi => by
    by_cases q : i < S.sh
    · exact ((h i hi).1 q).2
    · rw [(h i hi).2 (by omega)]; omega, fun i hi hj => by rw [(h i hj).2 hi]; decide⟩
theorem rl_three {n at_ a b e D K : Int} {C : Nat} (hn : n = 2 ∨ n = 3) (hD : 0 ≤ D ∧ D < n)
    (h : (K = 5 ∨ K = 7) ∧ C = 0 ∧ (0 ≤ a ∧ a < at_) ∧ (0 ≤ b ∧ b < at_) ∧ e = -1 ∨ K = 10 ∧ C < 64 ∧ (0 ≤ a ∧ a < at_) ∧ b = -1 ∧ e = -1 ∨ K = 6 ∧ C = 0 ∧ (0 ≤ a ∧ a < at_) ∧ b = -1 ∧ e = -1 ∨ K = 3 ∧ a = -1 ∧ b = -1 ∧ e = -1) : okOp ⟨K, D, a, b, e, C⟩ at_ n = true := by
  have hh : okH ⟨K, D, a, b, e, C⟩ n = true := by unfold okH; simp only [decide_eq_true_eq]; omega
  have hc : okC K C = true := by
    unfold okC
    rcases h with h | h | h | h
    · rw [if_neg (by omega), if_neg (by omega), if_neg (by omega)]; simp [h.2.1]
    · rw [if_pos (by omega)]; simp [h.2.1]
    · rw [if_neg (by omega), if_neg (by omega), if_neg (by omega)]; simp [h.2.1]
    · rw [if_neg (by omega), if_neg (by omega), if_pos (by omega)]
  have hq : ¬ (n ≠ 2 ∧ n ≠ 3) := by omega
  have hr : allB (rgB ⟨K, D, a, b, e, C⟩ at_ n) 3 = true := allB_of fun j hj => by
    show (if (j : Int) < rgN K n then decide (0 ≤ rgL ⟨K, D, a, b, e, C⟩ j ∧ rgL ⟨K, D, a, b, e, C⟩ j < at_) else decide (rgL ⟨K, D, a, b, e, C⟩ j = -1)) = true
    rcases h with ⟨h1, h⟩ | ⟨h1, h⟩ | ⟨h1, h⟩ | ⟨h1, h⟩
    · have hN : rgN K n = 2 := by unfold rgN; rw [if_neg hq, if_neg (by omega), if_pos (by omega)]
      rw [hN]
      rcases (by omega : j = 0 ∨ j = 1 ∨ j = 2) with rfl | rfl | rfl
      · exact decide_eq_true h.2.1
      · exact decide_eq_true h.2.2.1
      · exact decide_eq_true h.2.2.2
    · have hN : rgN K n = 1 := by unfold rgN; rw [if_neg hq, if_neg (by omega), if_neg (by omega), if_pos (by omega)]
      rw [hN]
      rcases (by omega : j = 0 ∨ j = 1 ∨ j = 2) with rfl | rfl | rfl
      · exact decide_eq_true h.2.1
      · exact decide_eq_true h.2.2.1
      · exact decide_eq_true h.2.2.2
    · have hN : rgN K n = 1 := by unfold rgN; rw [if_neg hq, if_neg (by omega), if_neg (by omega), if_pos (by omega)]
      rw [hN]
      rcases (by omega : j = 0 ∨ j = 1 ∨ j = 2) with rfl | rfl | rfl
      · exact decide_eq_true h.2.1
      · exact decide_eq_true h.2.2.1
      · exact decide_eq_true h.2.2.2
    · have hN : rgN K n = 0 := by unfold rgN; rw [if_neg hq, if_neg (by omega), if_neg (by omega), if_neg (by omega), if_neg (by omega)]
      rw [hN]
      rcases (by omega : j = 0 ∨ j = 1 ∨ j = 2) with rfl | rfl | rfl
      · exact decide_eq_true h.1
      · exact decide_eq_true h.2.1
      · exact decide_eq_true h.2.2
  unfold okOp
  rw [hh, hr, hc]
  rfl
theorem rd_ok {n at_ : Int} (hn : n = 2 ∨ n = 3) : okOp ⟨1, -1, -1, -1, -1, 0⟩ at_ n = true := by
  rcases hn with rfl | rfl <;> rfl
section
variable {T M L u : Nat} {S : Ms} {A B : Nat → Int}
theorem sh_n (hn : S.n = 2 ∨ S.n = 3) : (S.sh : Int) = S.n ∧ 2 ≤ S.sh ∧ S.sh ≤ 3 := by unfold Ms.sh; omega
theorem ea_fin {op : Nat → Op6} (h : Fin_ T M S L u) : ∀ {m}, (∀ j, j < m → okOp (op j) ((L + j : Nat) : Int) S.n = true ∧ (op j).K ≠ 1 ∧ (op j).K ≠ 2) → L + m ≤ M → Fin_ T M (eaS S op 0 m) (L + m) u ∧ ∀ j, j < m → (eaS S op 0 j).doR (op j) = ((L + j : Nat) : Int)
  | 0, _, _ => ⟨h, fun j hj => absurd hj (Nat.not_lt_zero j)⟩
  | m + 1, ho, hm => by
    obtain ⟨h1, h2⟩ := ea_fin h (m := m) (fun j hj => ho j (by omega)) (by omega)
    obtain ⟨o1, o2, o3⟩ := ho m (by omega)
    obtain ⟨g1, g2⟩ := h1.does (o := op m) (by rw [eaS_n]; exact o1) o2 o3 (by omega)
    refine ⟨?_, fun j hj => ?_⟩
    · show Fin_ T M ((eaS S op 0 m).doS (op (0 + m)) 0) _ _
      rw [Nat.zero_add]
      exact g1
    · by_cases e : j = m
      · subst e; exact g2
      · exact h2 j (by omega)
theorem ea_rl {op : Nat → Op6} (h : Fin_ T M S L u) (ho : ∀ j, j < S.sh → okOp (op j) ((L + j : Nat) : Int) S.n = true ∧ (op j).K ≠ 1 ∧ (op j).K ≠ 2) (hm : L + S.sh ≤ M) : Fin_ T M (eaS S op 0 S.sh) (L + S.sh) u ∧ Rl (eaS S op 0 S.sh) (eaR S op 0 none3 S.sh) := by
  obtain ⟨g1, g2⟩ := ea_fin h ho hm
  have e : (eaS S op 0 S.sh).sh = S.sh := by unfold Ms.sh; rw [eaS_n]
  refine ⟨g1, fun i hi => ?_⟩
  rw [e, g1.L]
  refine ⟨fun q => ?_, fun q => ?_⟩
  · have := eaR_at S op 0 none3 S.sh i q
    rw [Nat.zero_add] at this
    rw [this, g2 i q]
    omega
  · rw [eaR_keep S op 0 none3 S.sh i (.inr (by omega))]; rfl
theorem cst_fin {c : Nat} (h : Fin_ T M S L u) (hm : L + 3 ≤ M) : Fin_ T M (cstS S 3 c) (L + S.sh) u ∧ Rl (cstS S 3 c) (cstR S 3 c) := by
  obtain ⟨s1, s2, s3⟩ := sh_n h.n
  exact ea_rl h (fun j hj => by
    unfold opCst
    by_cases e : j = 0
    · rw [if_pos e]; exact ⟨rl_three h.n (by omega) (.inr (.inr (.inr ⟨rfl, rfl, rfl, rfl⟩))), by show (3 : Int) ≠ 1; decide, by show (3 : Int) ≠ 2; decide⟩
    · rw [if_neg e]; exact ⟨rl_three h.n (by omega) (.inr (.inr (.inr ⟨rfl, rfl, rfl, rfl⟩))), by show (3 : Int) ≠ 1; decide, by show (3 : Int) ≠ 2; decide⟩) (by omega)
theorem one_fin {c : Nat} (h : Fin_ T M S L u) (hA : Rl S A) (hc : c < 64) (hm : L + 3 ≤ M) : Fin_ T M (oneS S 10 A c) (L + S.sh) u ∧ Rl (oneS S 10 A c) (oneR S 10 A c) := by
  obtain ⟨s1, s2, s3⟩ := sh_n h.n
  exact ea_rl h (fun j hj => by
    have := (hA j (by omega)).1 hj
    rw [h.L] at this
    exact ⟨rl_three h.n (by omega) (.inr (.inl ⟨rfl, hc, by omega, rfl, rfl⟩)), by show (10 : Int) ≠ 1; decide, by show (10 : Int) ≠ 2; decide⟩) (by omega)
theorem not_fin (h : Fin_ T M S L u) (hA : Rl S A) (hm : L + 1 ≤ M) : Fin_ T M (notS S A) (L + 1) u ∧ Rl (notS S A) (notR S A) := by
  obtain ⟨s1, s2, s3⟩ := sh_n h.n
  have a0 := (hA 0 (by omega)).1 (by omega)
  rw [h.L] at a0
  obtain ⟨g1, g2⟩ := h.does (o := opNot A) (rl_three h.n (by omega) (.inr (.inr (.inl ⟨rfl, rfl, a0, rfl, rfl⟩)))) (by decide : (6 : Int) ≠ 1) (by decide : (6 : Int) ≠ 2) (by omega)
  refine ⟨g1, fun i hi => ?_⟩
  have e : (notS S A).sh = S.sh := by unfold Ms.sh; rw [(notS_ext S A).n]
  rw [e]
  unfold notR
  by_cases q : i = 0
  · subst q
    rw [updI_at, g2]
    have e2 : (notS S A).L = L + 1 := g1.L
    exact ⟨fun _ => by omega, fun h0 => by omega⟩
  · rw [updI_no _ _ q]
    exact (hA.ext (notS_ext S A) i hi).imp (fun f k => f (by rw [e]; exact k)) (fun f k => f (by rw [e]; exact k))
theorem rl_of_q {S' : Ms} {R : Nat → Int} {q : Nat → Nat} (hn : S'.n = S.n) (h : ∀ i, i < 3 → (i < S.sh → R i = ((q i : Nat) : Int) ∧ q i < S'.L) ∧ (S.sh ≤ i → R i = -1)) : Rl S' R := fun i hi => by
  have e : S'.sh = S.sh := by unfold Ms.sh; rw [hn]
  rw [e]
  exact ⟨fun k => by obtain ⟨a, b⟩ := (h i hi).1 k; rw [a]; omega, (h i hi).2⟩
/-- How many masks And takes of n shares, how many ops. -/
def dN (n : Int) : Nat := if n = 3 then 6 else 2
def cN (n : Int) : Nat := if n = 3 then 33 else 12
theorem fr_fin (h : Fin_ T M S L u) (hA : Rl S A) (hm : L + 9 ≤ M) (hu : u + 3 ≤ T) : Fin_ T M (frS S false A) (L + frM S.n false) (u + (if S.n = 3 then 3 else 1)) ∧ Rl (frS S false A) (frR S false A) := by
  have a0 := hA 0 (by omega)
  have a1 := hA 1 (by omega)
  have a2 := hA 2 (by omega)
  have hf : Fin_ T M (frS S false A) (L + frM S.n false) (u + (if S.n = 3 then 3 else 1)) := by
    obtain ⟨s1, s2, s3⟩ := sh_n h.n
    rw [h.L] at a0 a1 a2
    unfold frS frO frM
    rcases h.n with e | e
    · rw [e, if_neg (by decide), if_neg (by decide), if_neg (by decide)]
      refine h.blk (by decide) (fun j hj => ?_) rfl (by omega) (by omega)
      have b0 := a0.1 (by omega)
      have b1 := a1.1 (by omega)
      rcases (by omega : j = 0 ∨ j = 1 ∨ j = 2) with rfl | rfl | rfl
      · exact ⟨rd_ok h.n, by show (1 : Int) ≠ 2; decide⟩
      · refine ⟨rl_three h.n (by omega) (.inl ⟨.inl rfl, rfl, by omega, ?_, rfl⟩), by show (5 : Int) ≠ 2; decide⟩
        rw [exR_at (by decide)]; omega
      · refine ⟨rl_three h.n (by omega) (.inl ⟨.inl rfl, rfl, by omega, ?_, rfl⟩), by show (5 : Int) ≠ 2; decide⟩
        rw [exR_at (by decide)]; omega
    · rw [e, if_pos rfl, if_pos rfl, if_pos rfl, if_neg (by decide), if_neg (by decide)]
      refine h.blk (by decide) (fun j hj => ?_) rfl (by omega) (by omega)
      have b0 := a0.1 (by omega)
      have b1 := a1.1 (by omega)
      have b2 := a2.1 (by omega)
      rcases (by omega : j = 0 ∨ j = 1 ∨ j = 2 ∨ j = 3 ∨ j = 4 ∨ j = 5 ∨ j = 6 ∨ j = 7 ∨ j = 8) with rfl | rfl | rfl | rfl | rfl | rfl | rfl | rfl | rfl
      · exact ⟨rd_ok h.n, by show (1 : Int) ≠ 2; decide⟩
      · exact ⟨rd_ok h.n, by show (1 : Int) ≠ 2; decide⟩
      · exact ⟨rd_ok h.n, by show (1 : Int) ≠ 2; decide⟩
      all_goals (refine ⟨rl_three h.n (by omega) (.inl ⟨.inl rfl, rfl, ?_, ?_, rfl⟩), by show (5 : Int) ≠ 2; decide⟩ <;> first | omega | (rw [exR_at (by decide)]; omega))
  obtain ⟨q, hq, _⟩ := fr_words (sm := false) h.skip h.dry h.n hA.gw hf.e
  exact ⟨hf, rl_of_q (frS_ext _ _ _).n hq⟩
theorem tm_fin {dom : Bool} (h : Fin_ T M S L u) (hA : Rl S A) (hB : Rl S B) (hm : L + 24 ≤ M) (hu : u + 3 ≤ T) : Fin_ T M (tmS S dom A B) (L + tmM S.n) (u + (if S.n = 3 then 3 else 1)) ∧ Rl (tmS S dom A B) (tmR S dom A B) := by
  have a0 := hA 0 (by omega)
  have a1 := hA 1 (by omega)
  have a2 := hA 2 (by omega)
  have b0 := hB 0 (by omega)
  have b1 := hB 1 (by omega)
  have b2 := hB 2 (by omega)
  have hf : Fin_ T M (tmS S dom A B) (L + tmM S.n) (u + (if S.n = 3 then 3 else 1)) := by
    obtain ⟨s1, s2, s3⟩ := sh_n h.n
    rw [h.L] at a0 a1 a2 b0 b1 b2
    unfold tmS tmO tmM
    rcases h.n with e | e
    · simp only [e, show ((2 : Int) = 3) = False by simp, if_false]
      have a0 := a0.1 (by omega)
      have a1 := a1.1 (by omega)
      have b0 := b0.1 (by omega)
      have b1 := b1.1 (by omega)
      cases dom
      · simp only [Bool.false_eq_true, if_false]
        refine h.blk (by decide) (fun j hj => ?_) rfl (by omega) (by omega)
        rcases (by omega : j = 0 ∨ j = 1 ∨ j = 2 ∨ j = 3 ∨ j = 4 ∨ j = 5 ∨ j = 6 ∨ j = 7 ∨ j = 8) with rfl | rfl | rfl | rfl | rfl | rfl | rfl | rfl | rfl
        · exact ⟨rd_ok h.n, by show (1 : Int) ≠ 2; decide⟩
        · exact ⟨rl_three h.n (by omega) (.inl ⟨.inr rfl, rfl, by omega, by omega, rfl⟩), by show (7 : Int) ≠ 2; decide⟩
        · exact ⟨rl_three h.n (by omega) (.inl ⟨.inr rfl, rfl, by omega, by omega, rfl⟩), by show (7 : Int) ≠ 2; decide⟩
        · exact ⟨rl_three h.n (by omega) (.inl ⟨.inr rfl, rfl, by omega, by omega, rfl⟩), by show (7 : Int) ≠ 2; decide⟩
        · exact ⟨rl_three h.n (by omega) (.inl ⟨.inr rfl, rfl, by omega, by omega, rfl⟩), by show (7 : Int) ≠ 2; decide⟩
        all_goals (refine ⟨rl_three h.n (by omega) (.inl ⟨.inl rfl, rfl, ?_, ?_, rfl⟩), by show (5 : Int) ≠ 2; decide⟩ <;> (rw [exR_at (by decide)]; omega))
      · simp only [if_true]
        refine h.blk (by decide) (fun j hj => ?_) rfl (by omega) (by omega)
        rcases (by omega : j = 0 ∨ j = 1 ∨ j = 2 ∨ j = 3 ∨ j = 4 ∨ j = 5 ∨ j = 6 ∨ j = 7 ∨ j = 8) with rfl | rfl | rfl | rfl | rfl | rfl | rfl | rfl | rfl
        · exact ⟨rd_ok h.n, by show (1 : Int) ≠ 2; decide⟩
        · exact ⟨rl_three h.n (by omega) (.inl ⟨.inr rfl, rfl, by omega, by omega, rfl⟩), by show (7 : Int) ≠ 2; decide⟩
        · exact ⟨rl_three h.n (by omega) (.inl ⟨.inr rfl, rfl, by omega, by omega, rfl⟩), by show (7 : Int) ≠ 2; decide⟩
        · exact ⟨rl_three h.n (by omega) (.inl ⟨.inr rfl, rfl, by omega, by omega, rfl⟩), by show (7 : Int) ≠ 2; decide⟩
        · exact ⟨rl_three h.n (by omega) (.inl ⟨.inr rfl, rfl, by omega, by omega, rfl⟩), by show (7 : Int) ≠ 2; decide⟩
        all_goals (refine ⟨rl_three h.n (by omega) (.inl ⟨.inl rfl, rfl, ?_, ?_, rfl⟩), by show (5 : Int) ≠ 2; decide⟩ <;> (rw [exR_at (by decide)]; omega))
    · simp only [e, if_true]
      have a0 := a0.1 (by omega)
      have a1 := a1.1 (by omega)
      have a2 := a2.1 (by omega)
      have b0 := b0.1 (by omega)
      have b1 := b1.1 (by omega)
      have b2 := b2.1 (by omega)
      cases dom
      · simp only [Bool.false_eq_true, if_false]
        refine h.blk (by decide) (fun j hj => ?_) rfl (by omega) (by omega)
        rcases (by omega : j < 3 ∨ 3 ≤ j ∧ j < 12 ∨ 12 ≤ j) with q | q | q
        · rcases (by omega : j = 0 ∨ j = 1 ∨ j = 2) with rfl | rfl | rfl <;> exact ⟨rd_ok h.n, by show (1 : Int) ≠ 2; decide⟩
        · rcases (by omega : j = 3 ∨ j = 4 ∨ j = 5 ∨ j = 6 ∨ j = 7 ∨ j = 8 ∨ j = 9 ∨ j = 10 ∨ j = 11) with rfl | rfl | rfl | rfl | rfl | rfl | rfl | rfl | rfl <;> exact ⟨rl_three h.n (by omega) (.inl ⟨.inr rfl, rfl, by omega, by omega, rfl⟩), by show (7 : Int) ≠ 2; decide⟩
        · rcases (by omega : j = 12 ∨ j = 13 ∨ j = 14 ∨ j = 15 ∨ j = 16 ∨ j = 17 ∨ j = 18 ∨ j = 19 ∨ j = 20 ∨ j = 21 ∨ j = 22 ∨ j = 23) with rfl | rfl | rfl | rfl | rfl | rfl | rfl | rfl | rfl | rfl | rfl | rfl
          all_goals (refine ⟨rl_three h.n (by omega) (.inl ⟨.inl rfl, rfl, ?_, ?_, rfl⟩), by show (5 : Int) ≠ 2; decide⟩ <;> (rw [exR_at (by decide)]; omega))
      · simp only [if_true]
        refine h.blk (by decide) (fun j hj => ?_) rfl (by omega) (by omega)
        rcases (by omega : j < 3 ∨ 3 ≤ j ∧ j < 12 ∨ 12 ≤ j) with q | q | q
        · rcases (by omega : j = 0 ∨ j = 1 ∨ j = 2) with rfl | rfl | rfl <;> exact ⟨rd_ok h.n, by show (1 : Int) ≠ 2; decide⟩
        · rcases (by omega : j = 3 ∨ j = 4 ∨ j = 5 ∨ j = 6 ∨ j = 7 ∨ j = 8 ∨ j = 9 ∨ j = 10 ∨ j = 11) with rfl | rfl | rfl | rfl | rfl | rfl | rfl | rfl | rfl <;> exact ⟨rl_three h.n (by omega) (.inl ⟨.inr rfl, rfl, by omega, by omega, rfl⟩), by show (7 : Int) ≠ 2; decide⟩
        · rcases (by omega : j = 12 ∨ j = 13 ∨ j = 14 ∨ j = 15 ∨ j = 16 ∨ j = 17 ∨ j = 18 ∨ j = 19 ∨ j = 20 ∨ j = 21 ∨ j = 22 ∨ j = 23) with rfl | rfl | rfl | rfl | rfl | rfl | rfl | rfl | rfl | rfl | rfl | rfl
          all_goals (refine ⟨rl_three h.n (by omega) (.inl ⟨.inl rfl, rfl, ?_, ?_, rfl⟩), by show (5 : Int) ≠ 2; decide⟩ <;> (rw [exR_at (by decide)]; omega))
  obtain ⟨q, hq, _⟩ := tm_words (dom := dom) h.skip h.dry h.n hA.gw hB.gw hf.e
  exact ⟨hf, rl_of_q (tmS_ext _ _ _ _).n hq⟩
theorem ba_fin {dom : Bool} (h : Fin_ T M S L u) (hA : Rl S A) (hB : Rl S B) (hm : L + 33 ≤ M) (hu : u + 6 ≤ T) : Fin_ T M (baS S dom A B) (L + cN S.n) (u + dN S.n) ∧ Rl (baS S dom A B) (baR S dom A B) := by
  obtain ⟨f1, f2⟩ := fr_fin h hB (by omega) (by omega)
  have hX := frS_ext S false B
  have l1 : frM S.n false ≤ 9 := frM_le _ _
  have l2 : (if S.n = 3 then 3 else 1) ≤ 3 := by split <;> omega
  obtain ⟨g1, g2⟩ := tm_fin (dom := dom) f1 (hA.ext hX) f2 (by omega) (by omega)
  rw [hX.n] at g1
  refine ⟨?_, g2⟩
  have e1 : L + frM S.n false + tmM S.n = L + cN S.n := by unfold frM tmM cN; split <;> rfl
  have e2 : u + (if S.n = 3 then 3 else 1) + (if S.n = 3 then 3 else 1) = u + dN S.n := by unfold dN; split <;> rfl
  rw [e1, e2] at g1
  exact g1
theorem cN_le (n : Int) : cN n ≤ 33 := by unfold cN; split <;> omega
theorem dN_le (n : Int) : dN n ≤ 6 := by unfold dN; split <;> omega
theorem bo_fin {dom : Bool} (h : Fin_ T M S L u) (hA : Rl S A) (hB : Rl S B) (hm : L + 36 ≤ M) (hu : u + 6 ≤ T) : Fin_ T M (boS S dom A B) (L + 3 + cN S.n) (u + dN S.n) ∧ Rl (boS S dom A B) (boR S dom A B) := by
  obtain ⟨a1, a2⟩ := not_fin h hA (by omega)
  obtain ⟨b1, b2⟩ := not_fin a1 (hB.ext (notS_ext S A)) (by omega)
  have hc := cN_le S.n
  obtain ⟨c1, c2⟩ := ba_fin (dom := dom) b1 (a2.ext (notS_ext _ B)) b2 (by omega) hu
  have en : (boS2 S A B).n = S.n := (boS2_ext S A B).n
  rw [show (notS (notS S A) B).n = S.n from en] at c1
  obtain ⟨d1, d2⟩ := not_fin c1 c2 (by omega)
  refine ⟨?_, d2⟩
  rw [show L + 3 + cN S.n = L + 1 + 1 + cN S.n + 1 by omega]
  exact d1
theorem bf_fin {dom : Bool} {m : Nat} (hm6 : m ≤ 6) (h : Fin_ T M S L u) (hA : Rl S A) {j : Nat} (hm : L + 39 * j ≤ M) (hu : u + 6 * j ≤ T) : (∃ L', L' ≤ L + 39 * j ∧ Fin_ T M (bfX dom m S A j).1 L' (u + j * dN S.n)) ∧ Rl (bfX dom m S A j).1 (bfX dom m S A j).2 := by
  induction j with
  | zero => exact ⟨⟨L, Nat.le_refl _, by rw [Nat.zero_mul]; exact h⟩, hA⟩
  | succ j ih =>
    obtain ⟨⟨L', l1, f1⟩, f2⟩ := ih (by omega) (by omega)
    have en : (bfX dom m S A j).1.n = S.n := (bfX_ext dom m S A j).n
    have hs := sh_lt (j := j) hm6
    have hd := dN_le S.n
    have hc := cN_le S.n
    have hjd : j * dN S.n ≤ j * 6 := Nat.mul_le_mul_left j hd
    have hx : ∀ (X : Nat → Int), Ext (bfX dom m S A j).1 (oneS (bfX dom m S A j).1 10 X (2 ^ (m - 1 - j))) := fun X => oneS_ext _ _ _ _
    rw [bfX_step]
    generalize (bfX dom m S A j).1 = Q at *
    generalize (bfX dom m S A j).2 = R at *
    generalize 2 ^ (m - 1 - j) = c at *
    obtain ⟨s1, s2, s3⟩ := sh_n f1.n
    obtain ⟨g1, g2⟩ := one_fin f1 f2 hs (by omega)
    obtain ⟨k1, k2⟩ := bo_fin (dom := dom) g1 (f2.ext (hx R)) g2 (by omega) (by omega)
    rw [(hx R).n, en] at k1
    refine ⟨⟨L' + Q.sh + 3 + cN S.n, by omega, ?_⟩, k2⟩
    rw [Nat.add_mul, Nat.one_mul, ← Nat.add_assoc]
    exact k1
end
end Go.Proofs.YthkijncnndoafaaDoor

/- General: arrays of words of 64 bits by value and in a block (Arr's, for u64). No program is named. -/
namespace Go.Proofs.YthkijncnndoafaaDoor
open Go.ChangeShapes Go.WideShapes Go.ChangeAt Go.RowKit

/-- The n cells of an array of words. -/
def wa (n : Nat) (f : Nat → Nat) : Array Value := ((List.range n).map fun i => Value.int .u64 (f i : Int)).toArray

theorem wa_size (n : Nat) (f : Nat → Nat) : (wa n f).size = n := by simp [wa]
theorem wa_get {n : Nat} (f : Nat → Nat) {j : Nat} (h : j < n) : (wa n f)[j]? = some (.int .u64 (f j : Int)) := by simp [wa, h]
theorem wa_ext {n : Nat} {f g : Nat → Nat} (h : ∀ i, i < n → f i = g i) : wa n f = wa n g := by
  unfold wa
  congr 1
  refine List.map_congr_left fun i hi => ?_
  rw [h i (List.mem_range.1 hi)]
theorem wa_set {n : Nat} (f : Nat → Nat) (j z : Nat) : (wa n f).setIfInBounds j (.int .u64 (z : Int)) = wa n (upd f j z) := by
  apply Array.ext_getElem?
  intro i
  rw [Array.getElem?_setIfInBounds, wa_size]
  by_cases hi : i < n
  · rw [wa_get _ hi, wa_get _ hi]
    by_cases e : j = i
    · subst e; rw [if_pos rfl, if_pos hi, upd_same]
    · rw [if_neg e, upd_other _ _ _ _ (fun h => e h.symm)]
  · have h1 : (wa n f)[i]? = none := by simp [wa_size]; omega
    have h2 : (wa n (upd f j z))[i]? = none := by simp [wa_size]; omega
    rw [h1, h2]
    by_cases e : j = i
    · rw [if_pos e, if_neg (by omega)]
    · rw [if_neg e]
theorem wa_one (n : Nat) (f : Nat → Nat) : (wa n f).all (·.oneCell') = true := by
  refine Array.all_eq_true_iff_forall_mem.2 (fun v hv => ?_)
  simp [wa] at hv
  obtain ⟨i, _, rfl⟩ := hv
  rfl

section prog
variable {P : Program}

end prog
/-! ### an array in a block of its own -/
/-- Block b holds, whole, the n words of f, as a variable of type t. -/
def Aw (w : World) (b n : Nat) (t : TypeId) (f : Nat → Nat) : Prop := w.heap[b]? = some (.cells (wa n f) t (0, 0))
theorem Aw.lt {w : World} {b n : Nat} {t : TypeId} {f : Nat → Nat} (h : Aw w b n t f) : b < w.heap.size := (Array.getElem?_eq_some_iff.1 h).1
theorem Aw.cell {w : World} {b n : Nat} {t : TypeId} {f : Nat → Nat} (h : Aw w b n t f) {j : Nat} (hj : j < n) : w.cell? ⟨b, j, none⟩ = some (.int .u64 (f j : Int)) := by
  rw [cell_of_row w b j _ t (0, 0) h, wa_get f hj]
theorem Aw.free {w : World} {b n : Nat} {t : TypeId} {f : Nat → Nat} (h : Aw w b n t f) (o : Nat) : w.frozen? ⟨b, o, none⟩ = false := frozen_of_row w b o _ t h
theorem Aw.set {w : World} {b n : Nat} {t : TypeId} {f : Nat → Nat} (h : Aw w b n t f) (j z : Nat) : Aw (w.setCell ⟨b, j, none⟩ (.int .u64 (z : Int))) b n t (upd f j z) := by
  unfold Aw
  rw [heap_setCell_same w b j _ t _ h, wa_set]
theorem Aw.apart {w : World} {b n : Nat} {t : TypeId} {f : Nat → Nat} (h : Aw w b n t f) {a : Addr} (ha : b ≠ a.block) (v : Value) : Aw (w.setCell a v) b n t f := (heap_setCell_other w a b v ha).trans h
theorem Aw.row {w : World} {b n : Nat} {t : TypeId} {f : Nat → Nat} (h : Aw w b n t f) (g : Nat → Nat) : Aw (w.setRow b (wa n g)) b n t g := setRow_heap w b _ _ t _ h
theorem Aw.alloc {w : World} {b n : Nat} {t : TypeId} {f : Nat → Nat} (h : Aw w b n t f) (o : Obj) : Aw (w.alloc o) b n t f := (heap_alloc_old w o h.lt).trans h
theorem Aw.new (w : World) (n : Nat) (t : TypeId) (f : Nat → Nat) : Aw (w.alloc (.cells (wa n f) t)) w.heap.size n t f := heap_alloc_new w _
theorem Aw.drew {w : World} {b n : Nat} {t : TypeId} {f : Nat → Nat} (h : Aw w b n t f) : Aw w.drew b n t f := h
theorem Aw.below {w w' : World} {b n B : Nat} {t : TypeId} {f : Nat → Nat} (h : Aw w b n t f) (hb : Below B w w') (hB : b < B) : Aw w' b n t f := (hb.block b hB).trans h
theorem Aw.self {w w' : World} {b n : Nat} {t : TypeId} {f : Nat → Nat} (h : Aw w b n t f) (hb : Below w.heap.size w w') : Aw w' b n t f := h.below hb h.lt
theorem Aw.ext {w : World} {b n : Nat} {t : TypeId} {f g : Nat → Nat} (h : Aw w b n t f) (e : ∀ i, i < n → f i = g i) : Aw w b n t g := by
  unfold Aw at h ⊢; rw [h, wa_ext e]

section prog2
variable {P : Program}
theorem Aw.load {w : World} {b n : Nat} {t : TypeId} {f : Nat → Nat} {e : TypeId} (h : Aw w b n t f) (ty : TypeId) (hu : P.underlying ty = some (.array n e)) (hi : (P.info? ty).map (·.size) = some n) :
    (loadVar ty ⟨b, 0, none⟩).run P w = .ok (.agg (wa n f)) w :=
  run_loadVar_row w b t ty _ (0, 0) _ h hu rfl (by rw [wa_size]; exact hi)
theorem Aw.store {w : World} {b n : Nat} {t : TypeId} {f : Nat → Nat} (h : Aw w b n t f) (ty : TypeId) (g : Nat → Nat) (hi : (P.info? ty).map (·.size) = some n) :
    (storeVar ty ⟨b, 0, none⟩ (.agg (wa n g))).run P w = .ok () (w.setRow b (wa n g)) :=
  run_storeVar_row w b t ty _ _ h (by rw [wa_size]; exact hi) (by rw [wa_size, wa_size]) (wa_one n g)
end prog2

/-! ### returns of arrays -/
/-! ### whole loads and stores, as arms of a walk -/
/-- An array of n words that comes in by value. -/
theorem wa_open {H : Type} {enc : TypeId × Value → H} {P : Program} {W : World} {sp : Nat → Bool} {held : Bool} {n : Nat} {t e : TypeId} {base : Nat} {v : Value} {d : DataW H} {p : List MemPlace} {b0 : Nat}
    (ht : P.underlying t = some (.array n e)) (he : P.underlying e = some (.int .u64)) (hc : P.cellsOf e = 1) (hct : P.cellsOf t = n)
    (hv : Value.okWide P W .any b0 t v) (h : DataW.Trod enc P W base sp held t v d p) :
    ∃ f : Nat → Nat, v = .agg (wa n f) ∧ ∀ i, i < n → f i < 2 ^ 64 := by
  obtain ⟨zs, rfl, hl, hw⟩ := arr_open ht he hc hct hv h
  have hb : ∀ i, i < n → 0 ≤ nth zs i ∧ nth zs i ≤ 18446744073709551615 := fun i hi => by
    rw [nth_of (show i < zs.length by omega)]; exact bounds_u64 (hw _ (List.getElem_mem _))
  refine ⟨fun i => (nth zs i).toNat, ?_, fun i hi => by have := hb i hi; show (nth zs i).toNat < 2 ^ 64; omega⟩
  congr 1
  apply Array.ext_getElem?
  intro i
  by_cases hi : i < n
  · rw [wa_get _ hi]
    have := hb i hi
    simp only [List.getElem?_toArray, List.getElem?_map, List.getElem?_eq_getElem (show i < zs.length by omega), Option.map_some]
    rw [nth_of (show i < zs.length by omega)] at this ⊢
    congr 2; omega
  · have h2 : (wa n (fun i => (nth zs i).toNat))[i]? = none := by simp [wa_size]; omega
    rw [h2]
    simp; omega
end Go.Proofs.YthkijncnndoafaaDoor
