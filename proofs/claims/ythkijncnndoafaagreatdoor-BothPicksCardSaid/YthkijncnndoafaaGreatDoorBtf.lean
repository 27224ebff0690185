import Derived.Test.YthkijncnndoafaaGreatDoorBtb
import Derived.Test.YthkijncnndoafaaGreatDoorBtc
import Derived.Test.YthkijncnndoafaaGreatDoorWlm
import Derived.Test.YthkijncnndoafaaGreatDoorShy
import Derived.Test.YthkijncnndoafaaGreatDoorTmd
import Derived.Test.YthkijncnndoafaaGreatDoorGen
import Derived.Laws.Rows
import Derived.Laws.Tables
import Derived.Laws.StructEq
import Derived.ChangeKeysEq
import Derived.Deep.WholeRow
namespace Go.Proofs.YthkijncnndoafaaGreatDoor
open Go.RowKit
set_option maxRecDepth 100000

def WsR (w : World) (v : Value) (L : Nat) (V : Nat → Nat → Int) (X : Nat → Prop) : Prop :=
 ∃ a cap, v = .slice a L cap ∧ L ≤ cap ∧ cap ≤ maxLen ∧ (0 < L → ∃ g off, a = some ⟨g, off, none⟩ ∧ X g ∧ g < w.heap.size ∧ ∀ j, j < L → ∀ c, c < 3 → w.cell? ⟨g, off + j * 3 + c, none⟩ = some (.int .i64 (V j c)))
theorem wsR_none (w : World) (V : Nat → Nat → Int) (X : Nat → Prop) : WsR w (.slice none 0 0) 0 V X := ⟨none, 0, rfl, Nat.le_refl _, Nat.zero_le _, fun h => absurd h (Nat.lt_irrefl 0)⟩
theorem wdm_range {w : World} {g off : Nat} {V : Nat → Int} (h : ∀ c, c < 3 → w.cell? ⟨g, off + c, none⟩ = some (.int .i64 (V c))) : w.rangeAt g off (wdV V).toList := fun j v hv => by
 have hj : j < 3 := by have := (List.getElem?_eq_some_iff.1 hv).1; simpa using this
 rw [h j hj]
 rcases (by omega : j = 0 ∨ j = 1 ∨ j = 2) with rfl | rfl | rfl <;> exact hv
theorem step_load_wdm {w : World} {ops : Array Oper} {rest : List Oper} {o : Oper} {a : Act} {Q : Exit → Act → World → Prop} (hgd : o.guard = none) (x : Operand) (ho : o.op = .load 37 x) (g off : Nat) (V : Nat → Int) (hx : a.eval x = .pointer (some ⟨g, off, none⟩))
  (hc : ∀ c, c < 3 → w.cell? ⟨g, off + c, none⟩ = some (.int .i64 (V c))) (h : wpList Tryz.prog ops Q rest (a.put o.dst (.agg (wdV V))) w) : wpList Tryz.prog ops Q (o :: rest) a w :=
 wpList_load_mid hgd 37 x ho g off hx (wdV V).toList _ (wdm_range hc) Tryz.underlying37 rfl (by kernel_rfl) h
theorem yields_load_wdm {ops : Array Oper} {S : World → Prop} {o : Oper} {a : Act} (hw : Region.wanted o (yielded ops a.tmps) = true) (x : Operand) (ho : o.op = .load 37 x) (g off : Nat) (V : Nat → Int) (hx : a.eval x = .pointer (some ⟨g, off, none⟩))
  (hS : ∀ w, S w → ∀ c, c < 3 → w.cell? ⟨g, off + c, none⟩ = some (.int .i64 (V c))) : YieldsIf Tryz.prog ops S o (.agg (wdV V)) a :=
 yieldsIf_load_mid hw 37 x ho g off hx (wdV V).toList _ (fun w h => wdm_range (hS w h)) Tryz.underlying37 rfl (by kernel_rfl)
set_option maxHeartbeats 6400000 in
theorem qany {Pm : World → Nat → Ms → (Nat → Prop) → Prop} (hM : Mach Pm) {lo : Nat} {X : Nat → Prop} {W w : World} {b bd k : Nat} {S S2 : Ms} (K : Int) (V : Nat → Nat → Int) (L : Nat) (v : Value) (h : Bz Pm lo X W w b bd S S2) (hp : Pv w) (hl : gpair < lo) (hq : Bq k S) (hk : k + 60 * L + 200 ≤ 100000) (hn : S.n = 2 ∨ S.n = 3) (hK : I64 K) (hV : ∀ j, Wb (V j)) (hr : WsR w v L V X) :
  Calls Tryz.prog 19 #[.pointer (some ⟨b, 0, none⟩), .int .i64 K, v] w fun e w' => e = .returned (.agg (wdV (bnR S (isDom K) V L))) ∧ Bz Pm lo X W w' b bd (bnS S (isDom K) V L) S2 ∧ ∀ k, X k → w'.heap[k]? = w.heap[k]? := by
 have HC0 : Hid (∀ (bs : List (Nat × Obj)) (w' : World), Gy Pm lo X w w w' b bd S S2 bs → Calls Tryz.prog 11 #[.pointer (some ⟨b, 0, none⟩), .int .u64 0] w' fun e w2 => e = .returned (.agg (wdV (cstR S 3 0))) ∧ Gy Pm lo X w w w2 b bd (cstS S 3 0) S2 bs) := hid (fun bs w' h' => h'.lift (fun _ _ hz => qpub hM (shI hM) 0 hz hq (by omega) hn (by decide)))
 have HC1 : Hid (∀ i, 0 < i → i < L → ∀ (bs : List (Nat × Obj)) (w' : World), Gy Pm lo X w w w' b bd (bnX (isDom K) V S (i - 1)).1 S2 bs → Calls Tryz.prog 17 #[.pointer (some ⟨b, 0, none⟩), .int .i64 K, .agg (wdV (bnX (isDom K) V S (i - 1)).2), .agg (wdV (V i))] w' fun e w2 => e = .returned (.agg (wdV (bnX (isDom K) V S i).2)) ∧ Gy Pm lo X w w w2 b bd (bnX (isDom K) V S i).1 S2 bs) := hid (fun i h0 hj bs w' h' => h'.lift (fun _ _ hz => by
  obtain ⟨j, rfl⟩ : ∃ j, i = j + 1 := ⟨i - 1, by omega⟩
  rw [Nat.add_sub_cancel] at hz ⊢
  obtain ⟨b1, b2⟩ := bnX_bq (dom := isDom K) hq hV (j := j) (by omega)
  exact qor hM K (bnX (isDom K) V S j).2 (V (j + 1)) hz (Pv.bz hp hl h'.z) hl b1 (by omega) (by rw [(bnX_ext (isDom K) V S j).n]; exact hn) hK b2 (hV (j + 1))))
 have HLB : Hid (L ≤ 2000) := hid (by omega)
 obtain ⟨va, cap, rfl, hcl, hcm, hrd⟩ := hr
 have HLOW : Hid (Below lo W w) := hid h.low
 obtain ⟨w1, hw1⟩ : ∃ w1, (w).alloc (.cells #[.int .i64 0, .int .i64 0, .int .i64 0] 37) = w1 := ⟨_, rfl⟩
 have H1 : Hid (Gy Pm lo X w w w1 b bd S S2 [(w.heap.size, Obj.cells #[.int .i64 0, .int .i64 0, .int .i64 0] 37 (0, 0))]) := hid (by
  have := ((Gy.start h.base).new hM #[.int .i64 0, .int .i64 0, .int .i64 0] 37)
  rw [hw1] at this
  skip
  exact this)
 have HW := hid hw1
 clear hV hK h hq hk hn hp hl hw1
 by_cases hL : L = 0
 ·
  subst hL
  clear HC1 hrd
  have e1 : bnR S (isDom K) V 0 = cstR S 3 0 := if_pos rfl
  have e2 : bnS S (isDom K) V 0 = cstS S 3 0 := if_pos rfl
  rw [e1, e2]
  clear e1 e2
  generalize cstS S 3 0 = S9 at *
  generalize cstR S 3 0 = R9 at *
  go_enter Tryz.func19, Tryz.ntmps19
  go_upto_region 1 with fail
  rw [HW.out]
  go_wp2_with (first
   | (go_at_call 11; (with_reducible refine (HC0.out _ _ H1.out).mono ?_); rintro e w2 ⟨rfl, hb⟩; have H2 := hid hb; clear hb)
   | (refine step_store_row rfl 37 _ _ rfl (w.heap.size) 37 _ (wdV R9) rfl rfl (H2.out.bl 0 rfl) (by kernel_rfl) rfl (by kernel_rfl) ?_))
  have H9 := hid (H2.out.rowI hM 0 rfl (wdV R9))
  exact bodyPost_ret (results_cell_row (by rfl) _ _ (w.heap.size) 37 (wdV R9) (0, 0) _ rfl (H9.out.bl 0 rfl) Tryz.underlying37 rfl (by kernel_rfl)) rfl ⟨rfl, H9.out.fin.1.up HLOW.out, H9.out.fin.2⟩
 ·
  clear HC0
  obtain ⟨g, off, rfl, hX, hg, hcell⟩ := hrd (by omega)
  have e1 : bnR S (isDom K) V L = (bnX (isDom K) V S (L - 1)).2 := if_neg hL
  have e2 : bnS S (isDom K) V L = (bnX (isDom K) V S (L - 1)).1 := if_neg hL
  rw [e1, e2]
  clear e1 e2
  obtain ⟨St, hSt⟩ : ∃ St : Nat → Ms, ∀ j, (bnX (isDom K) V S j).1 = St j := ⟨_, fun _ => rfl⟩
  obtain ⟨R, hR⟩ : ∃ R : Nat → Nat → Int, ∀ j, (bnX (isDom K) V S j).2 = R j := ⟨_, fun _ => rfl⟩
  have HS0 : Hid (S = St 0 ∧ V 0 = R 0) := hid ⟨hSt 0, hR 0⟩
  simp only [hSt, hR] at HC1 ⊢
  clear hSt hR
  have HCE : Hid (∀ (wx : World) (S' : Ms) (bs : List (Nat × Obj)), Gy Pm lo X w w wx b bd S' S2 bs → ∀ j, j < L → ∀ c, c < 3 → wx.cell? ⟨g, off + j * 3 + c, none⟩ = some (.int .i64 (V j c))) := hid (fun wx S' bs hg' j hj c hc => by
   have h2 := (hg'.st g hX).2
   rw [← hcell j hj c hc]
   unfold World.cell?
   rw [h2])
  have HLL : Hid (0 < L) := hid (by omega)
  have l0 : (0 : Int) < (L : Int) := by omega
  have HLC : Hid (L ≤ cap) := hid hcl
  have q0 : ((L : Int) == 0) = false := by simp; omega
  clear hrd hX hg hcell hL hcm
  go_enter Tryz.func19, Tryz.ntmps19
  go_upto_region 1 with fail
  rw [HW.out]
  go_upto_region 4 with (refine step_load_wdm rfl _ rfl g off (V 0) rfl (fun c hc => by have := HCE.out _ _ _ H1.out 0 HLL.out c hc; rw [Nat.zero_mul, Nat.add_zero] at this; exact this) ?_)
  have H2 := hid (H1.out.new hM (wdV (V 0)) 37)
  obtain ⟨g7, hg7⟩ : ∃ g7, w1.heap.size = g7 := ⟨_, rfl⟩
  rw [hg7] at H2
  have H3 : Hid (Gy Pm lo X w w (w1.alloc (.cells #[.int .i64 (V 0 0), .int .i64 (V 0 1), .int .i64 (V 0 2)] 37)) b bd (St 0) S2 [(g7, Obj.cells (wdV (R 0)) 37 (0, 0)), (w.heap.size, Obj.cells #[.int .i64 0, .int .i64 0, .int .i64 0] 37 (0, 0))]) := hid (by have := H2.out; rw [← HS0.out.1, ← HS0.out.2]; exact this)
  generalize w1.alloc (.cells #[.int .i64 (V 0 0), .int .i64 (V 0 1), .int .i64 (V 0 2)] 37) = w3 at *
  rw [hg7]
  clear hg7 H2 H1 q0
  by_cases hc1 : cap = 1
  ·
   have hL1 : L = 1 := by have := HLC.out; omega
   subst hL1
   subst hc1
   go_wp2
   go_loopw [21] (fun iv wr => ∃ j : Nat, 0 < j ∧ j ≤ 1 ∧ iv = .int .i64 ((j - 1 : Nat) : Int) ∧ Gy Pm lo X w w wr b bd (St (j - 1)) S2 [(g7, Obj.cells (wdV (R (j - 1))) 37 (0, 0)), (w.heap.size, Obj.cells #[.int .i64 0, .int .i64 0, .int .i64 0] 37 (0, 0))]) (fun iv _ => 1 - (intOf iv).toNat)
   case atStart => exact ⟨1, by decide, HLL.out, rfl, H3.out⟩
   case round =>
    clear H3
    obtain ⟨j, h0, hj, rfl, hJ⟩ := hrel
    have HJ := hid hJ
    clear hJ
    have hlb := HLB.out
    by_cases hlt : j < 1
    · exfalso; omega
    ·
     obtain rfl : 1 = j := by omega
     clear hlt hj h0
     go_wp2_with (first
      | (refine step_load_row rfl 37 _ rfl (g7) 37 (wdV (R (1 - 1))) _ rfl (HJ.out.bl 0 rfl) Tryz.underlying37 rfl (by kernel_rfl) ?_)
      | (refine step_store_row rfl 37 _ _ rfl (w.heap.size) 37 _ (wdV (R (1 - 1))) rfl rfl (HJ.out.bl 1 rfl) (by kernel_rfl) rfl (by kernel_rfl) ?_))
     have H9 := hid (HJ.out.rowI hM 1 rfl (wdV (R (1 - 1))))
     exact bodyPost_ret (results_cell_row (by rfl) _ _ (w.heap.size) 37 (wdV (R (1 - 1))) (0, 0) _ rfl (H9.out.bl 1 rfl) Tryz.underlying37 rfl (by kernel_rfl)) rfl ⟨rfl, H9.out.fin.1.up HLOW.out, H9.out.fin.2⟩
  ·
   have c1 : 1 < cap := by have := HLC.out; omega
   have HC1c := hid hc1
   clear hc1
   go_wp2
   go_loopw [21] (fun iv wr => ∃ j : Nat, 0 < j ∧ j ≤ L ∧ iv = .int .i64 ((j - 1 : Nat) : Int) ∧ Gy Pm lo X w w wr b bd (St (j - 1)) S2 [(g7, Obj.cells (wdV (R (j - 1))) 37 (0, 0)), (w.heap.size, Obj.cells #[.int .i64 0, .int .i64 0, .int .i64 0] 37 (0, 0))]) (fun iv _ => L - (intOf iv).toNat)
   case atStart => exact ⟨1, by decide, HLL.out, rfl, H3.out⟩
   case round =>
    clear H3
    obtain ⟨j, h0, hj, rfl, hJ⟩ := hrel
    have HJ := hid hJ
    clear hJ
    have hlb := HLB.out
    by_cases hlt : j < L
    ·
     have HJL : Hid (j < L) := hid hlt
     have HJP : Hid (0 < j) := hid h0
     replace HC1 := hid (HC1.out j h0 hlt)
     obtain ⟨i, hi⟩ : ∃ i, j - 1 = i := ⟨_, rfl⟩
     have HIJ : Hid (i + 1 = j) := hid (by omega)
     rw [hi] at HJ HC1
     rw [hi]
     have j1 : (i : Int) < ((L - 1 : Nat) : Int) := by omega
     have j2 : (i : Int) < (L : Int) - 1 := by omega
     have j0 : (0 : Int) ≤ (i : Int) := by omega
     have e3 : Hid (∀ c, off + 3 + i * 3 + c = off + j * 3 + c) := hid (fun c => by omega)
     clear hj hlt h0 hi
     go_upto_region 7 with (refine step_load_wdm rfl _ rfl g (off + 3 + i * 3) (V j) rfl (fun c hc => by rw [e3.out]; exact HCE.out _ _ _ HJ.out j HJL.out c hc) ?_)
     have H4 := hid (HJ.out.new hM (wdV (V j)) 37)
     obtain ⟨g9, hg9⟩ : ∃ g9, wr.heap.size = g9 := ⟨_, rfl⟩
     rw [hg9] at H4
     rw [hg9]
     generalize wr.alloc (.cells #[.int .i64 (V j 0), .int .i64 (V j 1), .int .i64 (V j 2)] 37) = w4 at *
     clear hg9
     go_wp2_with (first
      | (refine step_load_row rfl 37 _ rfl (g7) 37 (wdV (R i)) _ rfl (H4.out.bl 1 rfl) Tryz.underlying37 rfl (by kernel_rfl) ?_)
      | (refine step_load_row rfl 37 _ rfl (g9) 37 (wdV (V j)) _ rfl (H4.out.bl 0 rfl) Tryz.underlying37 rfl (by kernel_rfl) ?_)
      | (go_at_call 17; (with_reducible refine (HC1.out _ _ H4.out).mono ?_); rintro e w5 ⟨rfl, hb⟩; have H5 := hid hb; clear hb)
      | (refine step_store_row rfl 37 _ _ rfl (g7) 37 _ (wdV (R j)) rfl rfl (H5.out.bl 1 rfl) (by kernel_rfl) rfl (by kernel_rfl) ?_))
     have H6 := hid (H5.out.drop.rowI hM 0 rfl (wdV (R j)))
     go_roundw
     case rel => exact ⟨j + 1, Nat.succ_pos j, HJL.out, by rw [Nat.add_sub_cancel, ← HIJ.out]; go_num, H6.out⟩
     case measure => have := HJL.out; have := HIJ.out; simp [intOf]; omega
    ·
     obtain rfl : L = j := by omega
     clear hlt hj h0
     go_wp2_with (first
      | (refine step_load_row rfl 37 _ rfl (g7) 37 (wdV (R (L - 1))) _ rfl (HJ.out.bl 0 rfl) Tryz.underlying37 rfl (by kernel_rfl) ?_)
      | (refine step_store_row rfl 37 _ _ rfl (w.heap.size) 37 _ (wdV (R (L - 1))) rfl rfl (HJ.out.bl 1 rfl) (by kernel_rfl) rfl (by kernel_rfl) ?_))
     have H9 := hid (HJ.out.rowI hM 1 rfl (wdV (R (L - 1))))
     exact bodyPost_ret (results_cell_row (by rfl) _ _ (w.heap.size) 37 (wdV (R (L - 1))) (0, 0) _ rfl (H9.out.bl 1 rfl) Tryz.underlying37 rfl (by kernel_rfl)) rfl ⟨rfl, H9.out.fin.1.up HLOW.out, H9.out.fin.2⟩
open Go.RowKit
set_option maxRecDepth 100000
theorem bl_e {S : Ms} {dom : Bool} {A B : Nat → Int} (h : (blS S dom A B).e = 0) : S.e = 0 := nt_e (S := S) (A := A) (ba_e (S := notS S A) (dom := dom) (A := notR S A) (B := B) h)
theorem cs_e {S : Ms} {c : Nat} (h : (cstS S 3 c).e = 0) : S.e = 0 := eaS_e (m := S.sh) h 0 (Nat.zero_le _)
def awb : Nat → Nat := fun i => if i = 0 then 1 else 2
def awB0_ : Ms := startD 2 99 awb 2 0 2
def awB1_ : Ms := cstS awB0_ 3 6
def awC1 : Nat → Int := cstR awB0_ 3 6
def awB2_ : Ms := cstS awB1_ 3 3
def awC2 : Nat → Int := cstR awB1_ 3 3
def awB3_ : Ms := blS awB2_ (isDom 1) awC1 awC2
def awC3 : Nat → Int := blR awB2_ (isDom 1) awC1 awC2
def awB4_ : Ms := cstS awB3_ 3 0
def awC4 : Nat → Int := cstR awB3_ 3 0
theorem awb0_bq : Bq 0 awB0_ := startD_bq 2 99 awb 2 0 2 0 (.inl rfl) (by decide) (by decide) (by decide) (fun i _ => by unfold awb; split <;> decide) (by decide) (Nat.le_refl _)
theorem awb0_n : awB0_.n = 2 ∨ awB0_.n = 3 := .inl rfl
theorem awb1_bq : Bq 6 awB1_ ∧ Wb awC1 := ⟨cstS_bq awb0_bq awb0_n (i64k 3 (by decide) (by decide)) (by decide), cstR_wb awb0_bq (by decide) awb0_n (i64k 3 (by decide) (by decide)) (by decide)⟩
theorem awb1_n : awB1_.n = 2 ∨ awB1_.n = 3 := by rw [show awB1_.n = awB0_.n from (cstS_ext _ _ _).n]; exact awb0_n
theorem awb2_bq : Bq 12 awB2_ ∧ Wb awC2 := ⟨cstS_bq awb1_bq.1 awb1_n (i64k 3 (by decide) (by decide)) (by decide), cstR_wb awb1_bq.1 (by decide) awb1_n (i64k 3 (by decide) (by decide)) (by decide)⟩
theorem awb2_n : awB2_.n = 2 ∨ awB2_.n = 3 := by rw [show awB2_.n = awB1_.n from (cstS_ext _ _ _).n]; exact awb1_n
theorem awb3_bq : Bq 53 awB3_ ∧ Wb awC3 := bl_bq (dom := isDom 1) awb2_bq.1 (by decide) awb1_bq.2 awb2_bq.2
theorem awb3_n : awB3_.n = 2 ∨ awB3_.n = 3 := by rw [show awB3_.n = awB2_.n from (blS_ext _ _ _ _).n]; exact awb2_n
theorem awb4_bq : Bq 59 awB4_ := cstS_bq awb3_bq.1 awb3_n (i64k 3 (by decide) (by decide)) (by decide)
theorem awb4_e : awB4_.e = 0 := by decide +kernel
theorem awb4_keep : awB4_.keep awB4_.L = awB4_.L := by kernel_rfl
theorem awb_vl : vlN awB4_.v awB4_.L awC3 = 1 ∧ vlN awB4_.v awB4_.L awC4 = 0 := by
 have W0 : Wt awB0_ := ⟨rfl, rfl, .inl rfl⟩
 have e3 : awB3_.e = 0 := cs_e (S := awB3_) (c := 0) awb4_e
 have e2 : awB2_.e = 0 := bl_e (S := awB2_) (dom := isDom 1) (A := awC1) (B := awC2) e3
 have e1 : awB1_.e = 0 := cs_e (S := awB1_) (c := 3) e2
 obtain ⟨a1, _⟩ := cs_sf (S := awB0_) (c := 6) W0 e1
 have W1 := W0.ext (cstS_ext awB0_ 3 6)
 obtain ⟨a2, _⟩ := cs_sf (S := awB1_) (c := 3) W1 e2
 have W2 := W1.ext (cstS_ext awB1_ 3 3)
 obtain ⟨a3, _⟩ := bl_sf (S := awB2_) (dom := isDom 1) (A := awC1) (B := awC2) W2 awb2_bq.1 (a1.ext (cstS_ext awB1_ 3 3)) a2 e3
 have W3 := W2.ext (blS_ext awB2_ (isDom 1) awC1 awC2)
 obtain ⟨a4, _⟩ := cs_sf (S := awB3_) (c := 0) W3 awb4_e
 exact ⟨(a3.ext (cstS_ext awB3_ 3 0)).vl.trans (by decide), a4.vl⟩
set_option maxHeartbeats 12800000 in
theorem bawake_any {Pm : World → Nat → Ms → (Nat → Prop) → Prop} (hM : Mach Pm) (hN : MachN Pm) (w : World) (hp : Pv w) :
  Calls Tryz.prog 24 #[] w fun e w' => e = .returned (.bool true) ∧ Below w.heap.size w w' := by
 have hlow := (Below.refl w.heap.size w).alloc (Nat.le_refl _) (.cells #[.int .u64 1, .int .u64 2] 34)
 have HLOW := hid hlow
 have hp0 := hp.self hlow
 have HGL : Hid (gpair < (w.alloc (.cells #[.int .u64 1, .int .u64 2] 34)).heap.size) := hid hp0.1
 have HPV := hid hp0
 have HBG : Hid (Calls Tryz.prog 6 #[.int .i64 2, .slice (some ⟨w.heap.size, 0, none⟩) 2 2, .int .i64 99] (w.alloc (.cells #[.int .u64 1, .int .u64 2] 34)) fun e w' => ∃ p b, e = .returned (.tuple #[.agg (paC p b (.slice none 0 0) (.slice none 0 0)), .bool true]) ∧ Bz Pm (w.alloc (.cells #[.int .u64 1, .int .u64 2] 34)).heap.size (fun _ => False) (w.alloc (.cells #[.int .u64 1, .int .u64 2] 34)) w' p b awB0_ awB0_) := hid (by
  have hrd : RdS .u64 (w.alloc (.cells #[.int .u64 1, .int .u64 2] 34)) (fun g => g < (w.alloc (.cells #[.int .u64 1, .int .u64 2] 34)).heap.size) (.slice (some ⟨w.heap.size, 0, none⟩) 2 2) (wdL awb 2) := by
   have hz : wdL awb 2 = [(1 : Int), 2] := rfl
   rw [hz]
   refine ⟨some ⟨w.heap.size, 0, none⟩, 2, rfl, Nat.le_refl _, by decide, by show 2 * 8 ≤ _; decide, fun z hz => ?_, fun _ => ⟨w.heap.size, 0, rfl, by rw [sz_al]; omega, by rw [sz_al]; omega, fun j hj => ?_⟩⟩
   · simp at hz; rcases hz with rfl | rfl <;> rfl
   ·
    have hj2 : j < 2 := hj
    rcases (by omega : j = 0 ∨ j = 1) with rfl | rfl
    · exact row_c (i := 0) (heap_alloc_new w _) rfl
    · exact row_c (i := 1) (heap_alloc_new w _) rfl
  exact lbegins_any hM hN 2 99 (.inl rfl) (by decide) (by decide) awb 2 _ _ hrd)
 have HSZ : Hid ((w.alloc (.cells #[.int .u64 1, .int .u64 2] 34)).heap.size = w.heap.size + 1) := hid (sz_al _ _)
 clear hlow hp hp0
 obtain ⟨w0, hw0⟩ : ∃ w0, w.alloc (.cells #[.int .u64 1, .int .u64 2] 34) = w0 := ⟨_, rfl⟩
 rw [hw0] at HBG HSZ HLOW HGL HPV
 have HW0 := hid hw0
 clear hw0
 have HC1 := hid (fun (w0' wx : World) (p b : Nat) (bs : List (Nat × Obj)) (h : Gy Pm w0.heap.size (fun _ => False) w0 w0' wx p b awB0_ awB0_ bs) => h.lift (f := 11) (args := #[.pointer (some ⟨p, 0, none⟩), .int .u64 6]) (E := fun e => e = .returned (.agg (wdV awC1))) (S1' := awB1_) (fun X W hz => qpub hM (shI hM) 6 hz awb0_bq (by decide) awb0_n (by decide)))
 have HC2 := hid (fun (w0' wx : World) (p b : Nat) (bs : List (Nat × Obj)) (h : Gy Pm w0.heap.size (fun _ => False) w0 w0' wx p b awB1_ awB0_ bs) => h.lift (f := 11) (args := #[.pointer (some ⟨p, 0, none⟩), .int .u64 3]) (E := fun e => e = .returned (.agg (wdV awC2))) (S1' := awB2_) (fun X W hz => qpub hM (shI hM) 3 hz awb1_bq.1 (by decide) awb1_n (by decide)))
 have HC3 := hid (fun (w0' wx : World) (p b : Nat) (bs : List (Nat × Obj)) (h : Gy Pm w0.heap.size (fun _ => False) w0 w0' wx p b awB2_ awB0_ bs) => h.lift (f := 15) (args := #[.pointer (some ⟨p, 0, none⟩), .int .i64 1, .agg (wdV awC1), .agg (wdV awC2)]) (E := fun e => e = .returned (.agg (wdV awC3))) (S1' := awB3_) (fun X W hz => qless hM 1 awC1 awC2 hz (Pv.bz HPV.out HGL.out h.z) HGL.out awb2_bq.1 (by decide) awb2_n (i64k 1 (by decide) (by decide)) awb1_bq.2 awb2_bq.2))
 have HC4 := hid (fun (w0' wx : World) (p b : Nat) (bs : List (Nat × Obj)) (h : Gy Pm w0.heap.size (fun _ => False) w0 w0' wx p b awB3_ awB0_ bs) => h.lift (f := 19) (args := #[.pointer (some ⟨p, 0, none⟩), .int .i64 1, .slice none 0 0]) (E := fun e => e = .returned (.agg (wdV awC4))) (S1' := awB4_) (fun X W hz => qany hM 1 (fun _ => none3) 0 (.slice none 0 0) hz (Pv.bz HPV.out HGL.out h.z) HGL.out awb3_bq.1 (by decide) awb3_n (i64k 1 (by decide) (by decide)) (fun _ => none3_wb) (wsR_none _ _ _)))
 have HVL := hid (fun (w0' wx : World) (p b : Nat) (bs : List (Nat × Obj)) (h : Gy Pm w0.heap.size (fun _ => False) w0 w0' wx p b awB4_ awB0_ bs) => h.asks hM (E := fun e w' => ∃ v, e = .returned v ∧ Rd .u64 w' v (wdL awB4_.v awB4_.L)) (f := 26) (args := #[.pointer (some ⟨p, 0, none⟩)]) (fun X W hz => (zvalues hM hz awb4_bq (by decide)).mono fun _ _ ⟨v, e1, e2, e3⟩ => ⟨⟨v, e1, by rw [awb4_keep] at e2; exact e2⟩, e3⟩))
 have HER := hid (fun (w0' wx : World) (p b : Nat) (bs : List (Nat × Obj)) (h : Gy Pm w0.heap.size (fun _ => False) w0 w0' wx p b awB4_ awB0_ bs) => h.asks hM (E := fun e _ => e = .returned (.int .i64 0)) (f := 55) (args := #[.pointer (some ⟨p, 0, none⟩)]) (fun X W hz => (zerr hM hz awb4_bq (by decide)).mono fun _ _ ⟨e1, e3⟩ => ⟨by rw [e1, awb4_e]; rfl, e3⟩))
 have HV1 : Hid (∀ (v : Value) (w : World), Rd .u64 w v (wdL awB4_.v awB4_.L) → Calls Tryz.prog 25 #[v, .agg (wdV awC3)] w fun e w' => e = .returned (.int .u64 1) ∧ Below w.heap.size w w') := hid (fun v w h => by
  have := (shI hM).value v _ _ awC3 w h (fun i hi => awb4_bq.v i hi)
  rw [awb_vl.1] at this
  exact this)
 have HV2 : Hid (∀ (v : Value) (w : World), Rd .u64 w v (wdL awB4_.v awB4_.L) → Calls Tryz.prog 25 #[v, .agg (wdV awC4)] w fun e w' => e = .returned (.int .u64 0) ∧ Below w.heap.size w w') := hid (fun v w h => by
  have := (shI hM).value v _ _ awC4 w h (fun i hi => awb4_bq.v i hi)
  rw [awb_vl.2] at this
  exact this)
 generalize awC4 = R4 at *
 generalize awB4_ = E4 at *
 generalize awC3 = R3 at *
 generalize awB3_ = E3 at *
 generalize awC1 = A1 at *
 generalize awC2 = A2 at *
 generalize awB2_ = E2 at *
 generalize awB1_ = E1 at *
 generalize awB0_ = E0 at *
 go_enter Tryz.func24, Tryz.ntmps24
 go_upto_region 1 with fail
 go_upto_region 2 with (first
  | (rw [HW0.out]; go_at_call 6; (with_reducible refine (HBG.out).mono ?_); rintro e w2 ⟨p, b, rfl, hz⟩; have Z2 := hid hz; clear hz)
  | (go_at_call 6; (with_reducible refine (HBG.out).mono ?_); rintro e w2 ⟨p, b, rfl, hz⟩; have Z2 := hid hz; clear hz))
 have H3 := hid ((Gy.start Z2.out).new hM (paC p b (.slice none 0 0) (.slice none 0 0)) 30)
 obtain ⟨b1, hb1⟩ : ∃ b1, w2.heap.size = b1 := ⟨_, rfl⟩
 rw [hb1] at H3
 generalize w2.alloc (.cells #[.pointer (some ⟨p, 0, none⟩), .pointer (some ⟨b, 0, none⟩), .slice none 0 0, .slice none 0 0] 30) = w3' at *
 rw [hb1]
 clear hb1 HBG HW0
 go_upto_region 4 with fail
 go_cut [3] from 13 to 21 (fun q3 wx => ∃ b3, q3 = .pointer (some ⟨b3, 0, none⟩) ∧ Gy Pm w0.heap.size (fun _ => False) w0 w2 wx p b E3 E0 [(b3, .cells (wdV R3) 37 (0, 0)), (b1, .cells (paC p b (.slice none 0 0) (.slice none 0 0)) 30 (0, 0))])
 case first =>
  have G0 := hid (H3.out.self hM ((Below.refl _ w3').drew))
  refine wp_region_noPanic ?_
  refine wp_region_held_drew (S := fun w' => w'.heap[b1]? = some (.cells (paC p b (.slice none 0 0) (.slice none 0 0)) 30 (0, 0))) (by kernel_rfl) (G0.out.bl 0 rfl) (fun h0 => ?_)
  generalize w3'.drew = y0 at *
  refine tK 0 (.pointer (some ⟨b1, 0, none⟩)) rfl (.inl ⟨by rfl, fun w hw => by clear hw; go_simp⟩) h0 ?_
  try simp only [Act.put, lay_out]
  refine tK 1 (.pointer (some ⟨p, 0, none⟩)) rfl (.inl ⟨by rfl, fun w' hw => by have hc := row_c (i := 0) (u := .pointer (some ⟨p, 0, none⟩)) hw rfl; clear hw; go_simp⟩) h0 ?_
  try simp only [Act.put, lay_out]
  refine tK 2 (.pointer (some ⟨b1, 0, none⟩)) rfl (.inl ⟨by rfl, fun w hw => by clear hw; go_simp⟩) h0 ?_
  try simp only [Act.put, lay_out]
  refine tK 3 (.pointer (some ⟨p, 0, none⟩)) rfl (.inl ⟨by rfl, fun w' hw => by have hc := row_c (i := 0) (u := .pointer (some ⟨p, 0, none⟩)) hw rfl; clear hw; go_simp⟩) h0 ?_
  try simp only [Act.put, lay_out]
  refine tK 5 (.pointer (some ⟨b1, 0, none⟩)) rfl (.inl ⟨by rfl, fun w hw => by clear hw; go_simp⟩) h0 ?_
  try simp only [Act.put, lay_out]
  refine tK 6 (.pointer (some ⟨p, 0, none⟩)) rfl (.inl ⟨by rfl, fun w' hw => by have hc := row_c (i := 0) (u := .pointer (some ⟨p, 0, none⟩)) hw rfl; clear hw; go_simp⟩) h0 ?_
  try simp only [Act.put, lay_out]
  refine wpAnyH_ready (rs := [4, 9]) (by kernel_rfl) (by simp) (AllReadyH.cons rfl (fun K hK => ?_) (AllReadyH.cons rfl (fun K hK => ?_) AllReadyH.nil))
  ·
   rw [if_pos (by rfl)]
   go_simp
   go_at_call 11
   (with_reducible refine (HC1.out _ _ _ _ _ G0.out).mono ?_); rintro e y1 ⟨rfl, hz⟩
   have G1 := hid hz
   clear hz
   refine hK.out _ _ (G1.out.bl 0 rfl) (fun h1x => ?_)
   clear hK K
   try simp only [Act.put, lay_out]
   refine wpAnyH_ready (rs := [7, 9]) (by kernel_rfl) (by simp) (AllReadyH.cons rfl (fun K hK => ?_) (AllReadyH.cons rfl (fun K hK => ?_) AllReadyH.nil))
   ·
    rw [if_pos (by rfl)]
    go_simp
    go_at_call 11
    (with_reducible refine (HC2.out _ _ _ _ _ G1.out).mono ?_); rintro e y2 ⟨rfl, hz⟩
    have G2 := hid hz
    clear hz
    refine hK.out _ _ (G2.out.bl 0 rfl) (fun h2x => ?_)
    clear hK K
    try simp only [Act.put, lay_out]
    refine wpAnyH_ready (rs := [8, 9]) (by kernel_rfl) (by simp) (AllReadyH.cons rfl (fun K hK => ?_) (AllReadyH.cons rfl (fun K hK => ?_) AllReadyH.nil))
    ·
     rw [if_pos (by rfl)]
     go_simp
     go_at_call 15
     (with_reducible refine (HC3.out _ _ _ _ _ G2.out).mono ?_); rintro e y3 ⟨rfl, hz⟩
     have G3 := hid hz
     clear hz
     refine hK.out _ _ (G3.out.bl 0 rfl) (fun h3x => ?_)
     clear hK K
     try simp only [Act.put, lay_out]
     refine wpAnyH_ready (rs := [9]) (by kernel_rfl) (by simp) (AllReadyH.cons rfl (fun K hK => ?_) AllReadyH.nil)
     rw [if_pos (by rfl)]
     go_simp
     have G4 := hid (G3.out.new hM #[.int .i64 0, .int .i64 0, .int .i64 0] 37)
     refine hK.out _ _ (G4.out.bl 1 rfl) (fun h4x => ?_)
     clear hK K
     try simp only [Act.put, lay_out]
     generalize y3.alloc (.cells #[.int .i64 0, .int .i64 0, .int .i64 0] 37) = y4 at *
     refine wpAnyH_ready (rs := [10]) (by kernel_rfl) (by simp) (AllReadyH.cons rfl (fun K hK => ?_) AllReadyH.nil)
     rw [if_pos (by rfl)]
     refine wp_store_row 37 _ _ rfl (y3.heap.size) (wdV R3) rfl rfl 37 _ (G4.out.bl 0 rfl) (by kernel_rfl) rfl (by kernel_rfl) ?_
     have G5 := hid (G4.out.row hM (wdV R3))
     refine hK.out _ _ (G5.out.bl 1 rfl) (fun h5x => ?_)
     clear hK K
     try simp only [Act.put, lay_out]
     refine wpAnyH_done (by kernel_rfl) ?_ _
     refine NoPanic.normal ?_
     clear h0 h1x h2x h3x h4x h5x
     try simp only [Act.put, lay_out]
     go_wp2_with fail
     go_meet
     exact ⟨_, rfl, G5.out⟩
    ·
     rw [if_pos (by rfl)]
     go_simp
     have G3 := hid (G2.out.new hM #[.int .i64 0, .int .i64 0, .int .i64 0] 37)
     refine hK.out _ _ (G3.out.bl 1 rfl) (fun h3x => ?_)
     clear hK K
     try simp only [Act.put, lay_out]
     generalize y2.alloc (.cells #[.int .i64 0, .int .i64 0, .int .i64 0] 37) = y3 at *
     refine wpAnyH_ready (rs := [8]) (by kernel_rfl) (by simp) (AllReadyH.cons rfl (fun K hK => ?_) AllReadyH.nil)
     rw [if_pos (by rfl)]
     go_simp
     go_at_call 15
     (with_reducible refine (HC3.out _ _ _ _ _ G3.out).mono ?_); rintro e y4 ⟨rfl, hz⟩
     have G4 := hid hz
     clear hz
     refine hK.out _ _ (G4.out.bl 1 rfl) (fun h4x => ?_)
     clear hK K
     try simp only [Act.put, lay_out]
     refine wpAnyH_ready (rs := [10]) (by kernel_rfl) (by simp) (AllReadyH.cons rfl (fun K hK => ?_) AllReadyH.nil)
     rw [if_pos (by rfl)]
     refine wp_store_row 37 _ _ rfl (y2.heap.size) (wdV R3) rfl rfl 37 _ (G4.out.bl 0 rfl) (by kernel_rfl) rfl (by kernel_rfl) ?_
     have G5 := hid (G4.out.row hM (wdV R3))
     refine hK.out _ _ (G5.out.bl 1 rfl) (fun h5x => ?_)
     clear hK K
     try simp only [Act.put, lay_out]
     refine wpAnyH_done (by kernel_rfl) ?_ _
     refine NoPanic.normal ?_
     clear h0 h1x h2x h3x h4x h5x
     try simp only [Act.put, lay_out]
     go_wp2_with fail
     go_meet
     exact ⟨_, rfl, G5.out⟩
   ·
    rw [if_pos (by rfl)]
    go_simp
    have G2 := hid (G1.out.new hM #[.int .i64 0, .int .i64 0, .int .i64 0] 37)
    refine hK.out _ _ (G2.out.bl 1 rfl) (fun h2x => ?_)
    clear hK K
    try simp only [Act.put, lay_out]
    generalize y1.alloc (.cells #[.int .i64 0, .int .i64 0, .int .i64 0] 37) = y2 at *
    refine wpAnyH_ready (rs := [7]) (by kernel_rfl) (by simp) (AllReadyH.cons rfl (fun K hK => ?_) AllReadyH.nil)
    rw [if_pos (by rfl)]
    go_simp
    go_at_call 11
    (with_reducible refine (HC2.out _ _ _ _ _ G2.out).mono ?_); rintro e y3 ⟨rfl, hz⟩
    have G3 := hid hz
    clear hz
    refine hK.out _ _ (G3.out.bl 1 rfl) (fun h3x => ?_)
    clear hK K
    try simp only [Act.put, lay_out]
    refine wpAnyH_ready (rs := [8]) (by kernel_rfl) (by simp) (AllReadyH.cons rfl (fun K hK => ?_) AllReadyH.nil)
    rw [if_pos (by rfl)]
    go_simp
    go_at_call 15
    (with_reducible refine (HC3.out _ _ _ _ _ G3.out).mono ?_); rintro e y4 ⟨rfl, hz⟩
    have G4 := hid hz
    clear hz
    refine hK.out _ _ (G4.out.bl 1 rfl) (fun h4x => ?_)
    clear hK K
    try simp only [Act.put, lay_out]
    refine wpAnyH_ready (rs := [10]) (by kernel_rfl) (by simp) (AllReadyH.cons rfl (fun K hK => ?_) AllReadyH.nil)
    rw [if_pos (by rfl)]
    refine wp_store_row 37 _ _ rfl (y1.heap.size) (wdV R3) rfl rfl 37 _ (G4.out.bl 0 rfl) (by kernel_rfl) rfl (by kernel_rfl) ?_
    have G5 := hid (G4.out.row hM (wdV R3))
    refine hK.out _ _ (G5.out.bl 1 rfl) (fun h5x => ?_)
    clear hK K
    try simp only [Act.put, lay_out]
    refine wpAnyH_done (by kernel_rfl) ?_ _
    refine NoPanic.normal ?_
    clear h0 h1x h2x h3x h4x h5x
    try simp only [Act.put, lay_out]
    go_wp2_with fail
    go_meet
    exact ⟨_, rfl, G5.out⟩
  ·
   rw [if_pos (by rfl)]
   go_simp
   have G1 := hid (G0.out.new hM #[.int .i64 0, .int .i64 0, .int .i64 0] 37)
   refine hK.out _ _ (G1.out.bl 1 rfl) (fun h1x => ?_)
   clear hK K
   try simp only [Act.put, lay_out]
   generalize y0.alloc (.cells #[.int .i64 0, .int .i64 0, .int .i64 0] 37) = y1 at *
   refine wpAnyH_ready (rs := [4]) (by kernel_rfl) (by simp) (AllReadyH.cons rfl (fun K hK => ?_) AllReadyH.nil)
   rw [if_pos (by rfl)]
   go_simp
   go_at_call 11
   (with_reducible refine (HC1.out _ _ _ _ _ G1.out).mono ?_); rintro e y2 ⟨rfl, hz⟩
   have G2 := hid hz
   clear hz
   refine hK.out _ _ (G2.out.bl 1 rfl) (fun h2x => ?_)
   clear hK K
   try simp only [Act.put, lay_out]
   refine wpAnyH_ready (rs := [7]) (by kernel_rfl) (by simp) (AllReadyH.cons rfl (fun K hK => ?_) AllReadyH.nil)
   rw [if_pos (by rfl)]
   go_simp
   go_at_call 11
   (with_reducible refine (HC2.out _ _ _ _ _ G2.out).mono ?_); rintro e y3 ⟨rfl, hz⟩
   have G3 := hid hz
   clear hz
   refine hK.out _ _ (G3.out.bl 1 rfl) (fun h3x => ?_)
   clear hK K
   try simp only [Act.put, lay_out]
   refine wpAnyH_ready (rs := [8]) (by kernel_rfl) (by simp) (AllReadyH.cons rfl (fun K hK => ?_) AllReadyH.nil)
   rw [if_pos (by rfl)]
   go_simp
   go_at_call 15
   (with_reducible refine (HC3.out _ _ _ _ _ G3.out).mono ?_); rintro e y4 ⟨rfl, hz⟩
   have G4 := hid hz
   clear hz
   refine hK.out _ _ (G4.out.bl 1 rfl) (fun h4x => ?_)
   clear hK K
   try simp only [Act.put, lay_out]
   refine wpAnyH_ready (rs := [10]) (by kernel_rfl) (by simp) (AllReadyH.cons rfl (fun K hK => ?_) AllReadyH.nil)
   rw [if_pos (by rfl)]
   refine wp_store_row 37 _ _ rfl (y0.heap.size) (wdV R3) rfl rfl 37 _ (G4.out.bl 0 rfl) (by kernel_rfl) rfl (by kernel_rfl) ?_
   have G5 := hid (G4.out.row hM (wdV R3))
   refine hK.out _ _ (G5.out.bl 1 rfl) (fun h5x => ?_)
   clear hK K
   try simp only [Act.put, lay_out]
   refine wpAnyH_done (by kernel_rfl) ?_ _
   refine NoPanic.normal ?_
   clear h0 h1x h2x h3x h4x h5x
   try simp only [Act.put, lay_out]
   go_wp2_with fail
   go_meet
   exact ⟨_, rfl, G5.out⟩
 case rest =>
  obtain ⟨b3, rfl, hcut⟩ := hcut
  have H8 := hid hcut
  clear hcut H3
  obtain ⟨w8, hw8⟩ : ∃ w8, wc = w8 := ⟨_, rfl⟩
  subst hw8
  have k0 := row_c (i := 0) (u := .pointer (some ⟨p, 0, none⟩)) (H8.out.bl 1 rfl) rfl
  go_upto_region 6 with (go_at_call 19; (with_reducible refine (HC4.out _ _ _ _ _ H8.out).mono ?_); rintro e w9 ⟨rfl, hb⟩; have H9 := hid hb; clear hb k0)
  have HA := hid (H9.out.new hM (wdV R4) 37)
  obtain ⟨b4, hb4⟩ : ∃ b4, w9.heap.size = b4 := ⟨_, rfl⟩
  rw [hb4] at HA
  generalize w9.alloc (.cells #[.int .i64 (R4 0), .int .i64 (R4 1), .int .i64 (R4 2)] 37) = wA at *
  rw [hb4]
  clear hb4 H8 H9
  have k1 := row_c (i := 0) (u := .pointer (some ⟨p, 0, none⟩)) (HA.out.bl 2 rfl) rfl
  go_upto_region 7 with (go_at_call 26; (with_reducible refine (HVL.out _ _ _ _ _ HA.out).mono ?_); rintro e wB ⟨⟨v, rfl, hv⟩, hb⟩; have HB := hid hb; have HV := hid hv; clear hb hv k1)
  go_wp2_with (first
   | (refine step_load_row rfl 37 _ rfl (b3) 37 (wdV R3) _ rfl (HB.out.bl 1 rfl) Tryz.underlying37 rfl (by kernel_rfl) ?_)
   | (go_at_call 25; (with_reducible refine (HV1.out _ _ HV.out).mono ?_); rintro e wC ⟨rfl, hb⟩; have HC := hid (HB.out.self hM hb); have HVc := hid (HV.out.self hb); clear hb; have k2 := row_c (i := 0) (u := .pointer (some ⟨p, 0, none⟩)) (HC.out.bl 2 rfl) rfl)
   | (refine step_load_row_want (by rfl) 37 _ rfl (b4) 37 (wdV R4) _ rfl (HC.out.bl 0 rfl) Tryz.underlying37 rfl (by kernel_rfl) ?_)
   | (go_at_call 25; (with_reducible refine (HV2.out _ _ HVc.out).mono ?_); rintro e wD ⟨rfl, hb⟩; have HD := hid (HC.out.self hM hb); clear hb; have k3 := row_c (i := 0) (u := .pointer (some ⟨p, 0, none⟩)) (HD.out.bl 2 rfl) rfl)
   | (go_at_call 55; (with_reducible refine (HER.out _ _ _ _ _ HD.out).mono ?_); rintro e wE ⟨rfl, hb⟩; have HE := hid hb; clear hb))
  go_ret
  exact ⟨rfl, HLOW.out.trans (HE.out.fin.1.low.mono (by have := HSZ.out; omega))⟩

theorem disj_add {x y : Nat} (hx : x < 2 ^ 64) (hy : y < 2 ^ 64) (h : x &&& y = 0) : x + y = x ||| y := by
 have h1 := BitVec.add_eq_or_of_and_eq_zero (w := 65) (BitVec.ofNat 65 x) (BitVec.ofNat 65 y) (by
  apply BitVec.eq_of_toNat_eq
  rw [BitVec.toNat_and, BitVec.toNat_ofNat, BitVec.toNat_ofNat, BitVec.toNat_ofNat, Nat.mod_eq_of_lt (by omega), Nat.mod_eq_of_lt (by omega), h])
 have h2 := congrArg BitVec.toNat h1
 rw [BitVec.toNat_add, BitVec.toNat_or, BitVec.toNat_ofNat, BitVec.toNat_ofNat, Nat.mod_eq_of_lt (a := x) (by omega), Nat.mod_eq_of_lt (a := y) (by omega), Nat.mod_eq_of_lt (by omega)] at h2
 exact h2
theorem split_and {a c : Nat} (ha : a < 2 ^ 64) (hc : c < 2 ^ 64) : (a &&& c) + (a &&& wnt c) = a := by
 rw [disj_add (Nat.lt_of_le_of_lt Nat.and_le_left ha) (Nat.lt_of_le_of_lt Nat.and_le_left ha)]
 ·
  refine word_ext (Nat.or_lt_two_pow (Nat.lt_of_le_of_lt Nat.and_le_left ha) (Nat.lt_of_le_of_lt Nat.and_le_left ha)) ha fun j hj => ?_
  rw [Nat.testBit_or, Nat.testBit_and, Nat.testBit_and, wnt_bit hc hj]
  cases a.testBit j <;> cases c.testBit j <;> rfl
 ·
  refine word_ext (Nat.lt_of_le_of_lt Nat.and_le_left (Nat.lt_of_le_of_lt Nat.and_le_left ha)) (by decide) fun j hj => ?_
  rw [Nat.testBit_and, Nat.testBit_and, Nat.testBit_and, wnt_bit hc hj, Nat.zero_testBit]
  cases a.testBit j <;> cases c.testBit j <;> rfl
def lyS (S : Ms) (x : Nat → Nat) : Nat → Ms
 | 0 => S
 | i + 1 => cstS (lyS S x i) 3 (x i)
def lyR (S : Ms) (x : Nat → Nat) (i : Nat) : Nat → Int := cstR (lyS S x i) 3 (x i)
theorem lyS_n (S : Ms) (x : Nat → Nat) : ∀ i, (lyS S x i).n = S.n
 | 0 => rfl
 | i + 1 => (cstS_ext (lyS S x i) 3 (x i)).n.trans (lyS_n S x i)
theorem lyS_more (S : Ms) (x : Nat → Nat) (i : Nat) : ∀ d, Ext (lyS S x i) (lyS S x (i + d))
 | 0 => Ext.refl _
 | d + 1 => (lyS_more S x i d).trans (cstS_ext (lyS S x (i + d)) 3 (x (i + d)))
theorem ly_bq {k : Nat} {S : Ms} {x : Nat → Nat} (h : Bq k S) (hn : S.n = 2 ∨ S.n = 3) (hx : ∀ i, x i < 2 ^ 64) : ∀ i, Bq (k + 6 * i) (lyS S x i)
 | 0 => h
 | i + 1 => (cstS_bq (ly_bq h hn hx i) (by rw [lyS_n]; exact hn) (i64k 3 (by decide) (by decide)) (hx i)).mono (by omega)
theorem lyR_wb {k : Nat} {S : Ms} {x : Nat → Nat} (h : Bq k S) (hn : S.n = 2 ∨ S.n = 3) (hx : ∀ i, x i < 2 ^ 64) {i : Nat} (hk : k + 6 * i + 10 ≤ 1000000) : Wb (lyR S x i) :=
 cstR_wb (ly_bq h hn hx i) hk (by rw [lyS_n]; exact hn) (i64k 3 (by decide) (by decide)) (hx i)
theorem ly_e {S : Ms} {x : Nat → Nat} {i : Nat} : ∀ {d}, (lyS S x (i + d)).e = 0 → (lyS S x i).e = 0
 | 0, h => h
 | d + 1, h => ly_e (d := d) (eaS_e (m := (lyS S x (i + d)).sh) h 0 (Nat.zero_le _))
theorem ly_sf {S : Ms} {x : Nat → Nat} (W : Wt S) {i m : Nat} (hi : i < m) (h : (lyS S x m).e = 0) : Sf (lyS S x m) (lyR S x i) (x i) := by
 obtain ⟨d, rfl⟩ : ∃ d, m = i + 1 + d := ⟨m - (i + 1), by omega⟩
 have e1 : (lyS S x (i + 1)).e = 0 := ly_e h
 have W1 := W.ext (by have := lyS_more S x 0 i; rw [Nat.zero_add] at this; exact this : Ext S (lyS S x i))
 exact (cs_sf (S := lyS S x i) (c := x i) W1 e1).1.ext (lyS_more S x (i + 1) d)
open Go.RowKit Go.Deep
set_option maxRecDepth 100000
def tp0 (n : Nat) (tw : Nat → Nat) (TN : Nat) : Ms := startD (n : Int) 2000 tw TN 0 TN
theorem tp0_bq {n : Nat} (hn : n = 2 ∨ n = 3) {tw : Nat → Nat} {TN : Nat} (htw : ∀ i, i < TN → tw i < 2 ^ 64) (hTN : TN ≤ 17592186043904) : Bq 0 (tp0 n tw TN) := startD_bq (n : Int) 2000 tw TN 0 TN 0 (by omega) (by decide) (by decide) (by omega) htw (by omega) (Nat.le_refl _)
open Go.ChangeShapes Go.WideShapes Go.ChangeAt Go.RowKit

def wa (n : Nat) (f : Nat → Nat) : Array Value := ((List.range n).map fun i => Value.int .u64 (f i : Int)).toArray

section prog
variable {P : Program}

end prog
section prog2
variable {P : Program}
end prog2

end Go.Proofs.YthkijncnndoafaaGreatDoor
