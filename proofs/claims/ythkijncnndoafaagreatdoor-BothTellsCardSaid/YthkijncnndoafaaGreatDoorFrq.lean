import Derived.Test.YthkijncnndoafaaGreatDoorProg
import Derived.Test.YthkijncnndoafaaGreatDoorFrp
import Derived.Test.YthkijncnndoafaaGreatDoorSgw
import Derived.Test.YthkijncnndoafaaGreatDoorWlm
import Derived.Test.YthkijncnndoafaaGreatDoorShp
namespace Go.Proofs.YthkijncnndoafaaGreatDoor
open Go.RowKit
set_option maxRecDepth 100000
theorem Ow.liftF {Pm : World → Nat → Ms → (Nat → Prop) → Prop} {F0 : Nat → Prop} {w0 w : World} {b : Nat} {S S' : Ms} {bs : List (Nat × Obj)} (h : Ow Pm F0 w0 w b S bs) {f : FuncId} {args : Array Value} {E : Ending → Prop} (hc : ∀ F, Pm w b S F → (∀ k, F k → F0 k ∨ w0.heap.size ≤ k) → Calls Tryz.prog f args w fun e w' => E e ∧ PmR Pm b S' F w w') : Calls Tryz.prog f args w fun e w' => E e ∧ Ow Pm F0 w0 w' b S' bs := by
 obtain ⟨F, h1, h2, h3⟩ := h.ex
 refine (hc F h1 h2).mono fun e w' hr => ⟨hr.1, ?_⟩
 obtain ⟨F', g1, g2, g3⟩ := hr.2
 refine ⟨⟨F', g1, fun k hk => ?_, fun q hq e => ?_⟩, h.tch.trans g2 (fun j hj f => (h2 j f).resolve_right (by omega)), fun q hq => ⟨(h.bx q hq).1, (g2.block q.1 (h.lt hq) (h3 q hq)).trans (h.bx q hq).2⟩, h.nd⟩
 ·
  rcases g3 k hk with f | f
  · exact h2 k f
  · exact .inr (Nat.le_trans h.tch.size f)
 ·
  rcases g3 _ e with f | f
  · exact h3 q hq f
  · have := h.lt hq; omega
theorem dr_n (S : Ms) : ∀ j, (drG dS0 dR0 S j).1.n = S.n
 | 0 => rfl
 | j + 1 => ((doS_ext _ _ _).n).trans (dr_n S j)
theorem covered_any {Pm : World → Nat → Ms → (Nat → Prop) → Prop} (hM : Mach Pm) {F0 : Nat → Prop} {w0 w : World} {b : Nat} {bs : List (Nat × Obj)} (k c i : Nat) (S : Ms) (r : Int) (mk : Nat → Int) (hi : i < 3) (h : Ow Pm F0 w0 w b S bs) (hp : Pv w0) (hF : ¬ F0 gpair) (hq : Bq k S) (hk : k + 3 ≤ 100000) (hr : I64 r) (hm : Wb mk) :
  Calls Tryz.prog 95 #[.pointer (some ⟨b, 0, none⟩), .int .i64 (i : Int), .int .i64 r, .agg (wdV mk), .int .i64 (c : Int)] w fun e w' => e = .returned (.int .i64 (cvG dS0 dR0 c i mk S r 3).2) ∧ Ow Pm F0 w0 w' b (cvG dS0 dR0 c i mk S r 3).1 bs := by
 rcases (by omega : i = 0 ∨ i = 1 ∨ i = 2) with rfl | rfl | rfl
 · exact covered0_any hM k c S r mk h hp hF hq hk hr hm
 · exact covered1_any hM k c S r mk h hp hF hq hk hr hm
 · exact covered2_any hM k c S r mk h hp hF hq hk hr hm
set_option maxHeartbeats 12800000 in
theorem anew_any {Pm : World → Nat → Ms → (Nat → Prop) → Prop} (hM : Mach Pm) (b k n c : Nat) (S : Ms) (F : Nat → Prop) (A : Nat → Int) (w : World) (hm : Pm w b S F) (hp : Pv w) (hF : ¬ F gpair) (hq : Bq k S) (hk : k + 20 ≤ 100000) (hn : S.n = (n : Int)) (hn3 : n ≤ 3) (hc : c ≤ 3) (hA : Wb A) :
  Calls Tryz.prog 75 #[.pointer (some ⟨b, 0, none⟩), .agg (wdV A), .int .i64 (c : Int)] w fun e w' => e = .returned (.agg (wdV (anR n c A S))) ∧ PmR Pm b (anS n c A S) F w w' := by
 have hB := hq.begins 2
 have hD := dr_bq (j := c) hB (by omega)
 have HBG : Hid (∀ (bs : List (Nat × Obj)) (w' : World), Ow Pm F w w' b S bs → Calls Tryz.prog 93 #[.pointer (some ⟨b, 0, none⟩), .int .i64 2] w' fun e w2 => e = .returned (.tuple #[]) ∧ Ow Pm F w w2 b (S.beginS 2) bs) := hid (fun bs w' h' => h'.lift hM (fun F' hF' => hM.begin_ b k S F' 2 w' hF' hq (by omega)))
 have HDR : Hid (∀ (bs : List (Nat × Obj)) (w' : World), Ow Pm F w w' b (S.beginS 2) bs → Calls Tryz.prog 94 #[.pointer (some ⟨b, 0, none⟩), .int .i64 (c : Int)] w' fun e w2 => e = .returned (.agg (wdV (drG dS0 dR0 (S.beginS 2) c).2)) ∧ Ow Pm F w w2 b (drG dS0 dR0 (S.beginS 2) c).1 bs) := hid (fun bs w' h' => drawn_any hM k c _ h' hB (by omega) hc)
 have HNB : Hid (∀ (bs : List (Nat × Obj)) (w' : World), Ow Pm F w w' b (drG dS0 dR0 (S.beginS 2) c).1 bs → Calls Tryz.prog 76 #[.pointer (some ⟨b, 0, none⟩)] w' fun e w2 => e = .returned (.int .i64 (n : Int)) ∧ Below w'.heap.size w' w2) := hid (fun bs w' h' => h'.asks (fun F' hF' => by have := hM.n b (k + c) _ F' w' hF' hD.1 (by omega); rw [dr_n, (beginS_n S 2).1, hn] at this; exact this))
 have HC : Hid (∀ (j : Nat) (bs : List (Nat × Obj)) (w' : World), j < n → Ow Pm F w w' b (nwG dS0 dR0 c (drG dS0 dR0 (S.beginS 2) c).2 A (drG dS0 dR0 (S.beginS 2) c).1 j).1 bs → Calls Tryz.prog 95 #[.pointer (some ⟨b, 0, none⟩), .int .i64 (j : Int), .int .i64 (A j), .agg (wdV (drG dS0 dR0 (S.beginS 2) c).2), .int .i64 (c : Int)] w' fun e w2 => e = .returned (.int .i64 (cvG dS0 dR0 c j (drG dS0 dR0 (S.beginS 2) c).2 (nwG dS0 dR0 c (drG dS0 dR0 (S.beginS 2) c).2 A (drG dS0 dR0 (S.beginS 2) c).1 j).1 (A j) 3).2) ∧ Ow Pm F w w2 b (nwG dS0 dR0 c (drG dS0 dR0 (S.beginS 2) c).2 A (drG dS0 dR0 (S.beginS 2) c).1 (j + 1)).1 bs) :=
  hid (fun j bs w' hj h' => covered_any hM (k + c + 3 * j) c j _ _ _ (by omega) h' hp hF (nw_bq (c := c) hD.1 hD.2 hA (i := j) (by omega) (by omega)).1 (by omega) (hA j) hD.2)
 have HU : Hid (∀ j, (nwG dS0 dR0 c (drG dS0 dR0 (S.beginS 2) c).2 A (drG dS0 dR0 (S.beginS 2) c).1 (j + 1)).2 = updI (nwG dS0 dR0 c (drG dS0 dR0 (S.beginS 2) c).2 A (drG dS0 dR0 (S.beginS 2) c).1 j).2 j (cvG dS0 dR0 c j (drG dS0 dR0 (S.beginS 2) c).2 (nwG dS0 dR0 c (drG dS0 dR0 (S.beginS 2) c).2 A (drG dS0 dR0 (S.beginS 2) c).1 j).1 (A j) 3).2) := hid (fun j => rfl)
 have HEN : Hid (∀ (bs : List (Nat × Obj)) (w' : World), Ow Pm F w w' b (nwG dS0 dR0 c (drG dS0 dR0 (S.beginS 2) c).2 A (drG dS0 dR0 (S.beginS 2) c).1 n).1 bs → Calls Tryz.prog 96 #[.pointer (some ⟨b, 0, none⟩)] w' fun e w2 => e = .returned (.tuple #[]) ∧ Ow Pm F w w2 b (anS n c A S) bs) := hid (fun bs w' h' => h'.lift hM (fun F' hF' => hM.end_ b (k + c + 3 * n) _ F' w' hF' (nw_bq (c := c) hD.1 hD.2 hA (i := n) (by omega) (by omega)).1 (by omega)))
 have HR : Hid ((nwG dS0 dR0 c (drG dS0 dR0 (S.beginS 2) c).2 A (drG dS0 dR0 (S.beginS 2) c).1 n).2 = anR n c A S) := hid rfl
 have HU0 : Hid ((nwG dS0 dR0 c (drG dS0 dR0 (S.beginS 2) c).2 A (drG dS0 dR0 (S.beginS 2) c).1 0).2 = none3) := hid rfl
 have HS0 : Hid ((nwG dS0 dR0 c (drG dS0 dR0 (S.beginS 2) c).2 A (drG dS0 dR0 (S.beginS 2) c).1 0).1 = (drG dS0 dR0 (S.beginS 2) c).1) := hid rfl
 have HN3 : Hid (n ≤ 3) := hid hn3
 obtain ⟨w1, hw1⟩ : ∃ w1, (w.alloc (.cells (wdV A) 37)).alloc (.cells #[.int .i64 0, .int .i64 0, .int .i64 0] 37) = w1 := ⟨_, rfl⟩
 have H1 : Hid (Ow Pm F w w1 b S [(w.heap.size + 1, Obj.cells #[.int .i64 0, .int .i64 0, .int .i64 0] 37 (0, 0)), (w.heap.size, Obj.cells (wdV A) 37 (0, 0))]) := hid (by
  have := ((Ow.start hm).new hM (wdV A) 37).new hM #[.int .i64 0, .int .i64 0, .int .i64 0] 37
  rw [hw1] at this
  simp only [sz_al] at this
  exact this)
 have HW := hid hw1
 clear hm hp hF hq hk hn hn3 hc hA hB hD hw1
 obtain ⟨mk, hmk⟩ : ∃ mk, (drG dS0 dR0 (S.beginS 2) c).2 = mk := ⟨_, rfl⟩
 obtain ⟨Sd, hSd⟩ : ∃ Sd, (drG dS0 dR0 (S.beginS 2) c).1 = Sd := ⟨_, rfl⟩
 rw [hmk] at HDR HC HU HEN HR HU0 HS0
 rw [hSd] at HDR HC HU HEN HR HU0 HS0 HNB
 clear hmk hSd
 obtain ⟨rg, hrg⟩ : ∃ rg : Nat → Int, ∀ j, (cvG dS0 dR0 c j mk (nwG dS0 dR0 c mk A Sd j).1 (A j) 3).2 = rg j := ⟨_, fun _ => rfl⟩
 simp only [hrg] at HC HU
 clear hrg
 obtain ⟨St, hSt⟩ : ∃ St : Nat → Ms, ∀ j, (nwG dS0 dR0 c mk A Sd j).1 = St j := ⟨_, fun _ => rfl⟩
 obtain ⟨U, hU⟩ : ∃ U : Nat → Nat → Int, ∀ j, (nwG dS0 dR0 c mk A Sd j).2 = U j := ⟨_, fun _ => rfl⟩
 simp only [hSt, hU] at HC HU HEN HR HU0 HS0
 clear hSt hU
 rw [← HR.out]
 generalize anS n c A S = S3 at *
 clear HR
 generalize S.beginS 2 = S2 at *
 go_enter Tryz.func75, Tryz.ntmps75
 go_upto_region 1 with fail
 rw [HW.out]
 have H2 := hid (H1.out.new hM (wdV none3) 37)
 go_upto_region 2 with fail
 obtain ⟨g7, hg7⟩ : ∃ g7, w1.heap.size = g7 := ⟨_, rfl⟩
 rw [hg7] at H2
 have H3 : Hid (Ow Pm F w (w1.alloc (.cells #[.int .i64 (-1), .int .i64 (-1), .int .i64 (-1)] 37)) b S [(g7, .cells (wdV none3) 37 (0, 0)), (w.heap.size + 1, Obj.cells #[.int .i64 0, .int .i64 0, .int .i64 0] 37 (0, 0)), (w.heap.size, Obj.cells (wdV A) 37 (0, 0))]) := H2
 generalize w1.alloc (.cells #[.int .i64 (-1), .int .i64 (-1), .int .i64 (-1)] 37) = w3 at *
 rw [hg7]
 clear hg7 H2 H1
 go_upto_region 3 with (go_at_call 93; (with_reducible refine (HBG.out _ _ H3.out).mono ?_); rintro e w4 ⟨rfl, hb⟩; have H4 := hid hb; clear hb)
 go_upto_region 4 with (first
  | (go_at_call 94; (with_reducible refine (HDR.out _ _ H4.out).mono ?_); rintro e w5 ⟨rfl, hb⟩; have H5 := hid hb; clear hb)
  | fail)
 have H6 := hid (H5.out.new hM (wdV mk) 35)
 obtain ⟨g8, hg8⟩ : ∃ g8, w5.heap.size = g8 := ⟨_, rfl⟩
 rw [hg8] at H6
 generalize w5.alloc (.cells #[.int .i64 (mk 0), .int .i64 (mk 1), .int .i64 (mk 2)] 35) = w6 at *
 rw [hg8]
 clear hg8 H5 H4 H3
 rw [← HS0.out, ← HU0.out] at H6
 rw [← HS0.out] at HNB
 go_wp2_with (go_at_call 76; (with_reducible refine (HNB.out _ _ H6.out).mono ?_); rintro e w7 ⟨rfl, hb⟩; have H7 := hid (H6.out.self hM hb); clear hb)
 go_loopw [19] (fun iv wr => ∃ j : Nat, j ≤ n ∧ iv = .int .i64 j ∧ Ow Pm F w wr b (St j) ((g7, .cells (wdV (U j)) 37 (0, 0)) :: (g8, .cells (wdV mk) 35 (0, 0)) :: (w.heap.size + 1, .cells #[.int .i64 0, .int .i64 0, .int .i64 0] 37 (0, 0)) :: (w.heap.size, .cells (wdV A) 37 (0, 0)) :: [])) (fun iv _ => n - (intOf iv).toNat)
 case atStart => exact ⟨0, by omega, rfl, H7.out.swap⟩
 case round =>
  clear H7 H6
  obtain ⟨j, hj, rfl, hI⟩ := hrel
  have HI := hid hI
  clear hI
  have hn3 := HN3.out
  by_cases hlt : j < n
  ·
   have j1 : (j : Int) < (n : Int) := by omega
   have j0 : (0 : Int) ≤ (j : Int) := by omega
   have j3 : (j : Int) < 3 := by omega
   have HJ3 : Hid (j < 3) := hid (by omega)
   have HCJ := hid (fun bs' w' h' => HC.out j bs' w' hlt h')
   have HER : Hid ((wdV (U j)).setIfInBounds j (.int .i64 (rg j)) = wdV (U (j + 1))) := hid (by rw [wdV_upd _ j _ (by omega), HU.out j])
   go_upto_region 7 with fail
   have G0 := hid (HI.out.self hM ((Below.refl _ wr).drew))
   refine wp_region_noPanic ?_
   refine wp_region_held_drew (S := fun w' => w'.heap[w.heap.size]? = some (.cells (wdV A) 37 (0, 0)) ∧ w'.heap[g8]? = some (.cells (wdV mk) 35 (0, 0))) (by kernel_rfl) (⟨G0.out.bl 3 rfl, G0.out.bl 1 rfl⟩) (fun h0 => ?_)
   generalize wr.drew = y0 at *
   refine tK 0 (.int .i64 (j : Int)) rfl (.inl ⟨by rfl, fun w hw => by clear hw; go_simp⟩) h0 ?_
   try simp only [Act.put, lay_out]
   refine tK 1 (.pointer (some ⟨b, 0, none⟩)) rfl (.inl ⟨by rfl, fun w hw => by clear hw; go_simp⟩) h0 ?_
   try simp only [Act.put, lay_out]
   refine tK 2 (.int .i64 (j : Int)) rfl (.inl ⟨by rfl, fun w hw => by clear hw; go_simp⟩) h0 ?_
   try simp only [Act.put, lay_out]
   refine tK 3 (.int .i64 (j : Int)) rfl (.inl ⟨by rfl, fun w hw => by clear hw; go_simp⟩) h0 ?_
   try simp only [Act.put, lay_out]
   refine tK 4 (.pointer (some ⟨w.heap.size, 0, none⟩)) rfl (.inl ⟨by rfl, fun w hw => by clear hw; go_simp⟩) h0 ?_
   try simp only [Act.put, lay_out]
   refine tK 5 (.pointer (some ⟨w.heap.size, j, none⟩)) rfl (.inl ⟨by rfl, fun w hw => by clear hw; go_simp⟩) h0 ?_
   try simp only [Act.put, lay_out]
   refine tK 6 (.int .i64 (A j)) rfl (.inl ⟨by rfl, fun w' hw => by have hc := row_c (i := j) (u := .int .i64 (A j)) hw.1 (wdV_at A j HJ3.out); clear hw; go_simp⟩) h0 ?_
   try simp only [Act.put, lay_out]
   refine tK 7 (.agg (wdV mk)) rfl (yields_load_row (by rfl) 35 _ rfl g8 35 (wdV mk) _ rfl (fun w h => h.2) Tryz.underlying35 rfl (by kernel_rfl)) h0 ?_
   try simp only [Act.put, lay_out]
   refine tK 8 (.int .i64 (c : Int)) rfl (.inl ⟨by rfl, fun w hw => by clear hw; go_simp⟩) h0 ?_
   try simp only [Act.put, lay_out]
   refine tK 10 (.pointer (some ⟨g7, 0, none⟩)) rfl (.inl ⟨by rfl, fun w hw => by clear hw; go_simp⟩) h0 ?_
   try simp only [Act.put, lay_out]
   refine wpAnyH_ready (rs := [9]) (by kernel_rfl) (by simp) (AllReadyH.cons rfl (fun K hK => ?_) AllReadyH.nil)
   rw [if_pos (by rfl)]
   go_simp
   go_at_call 95
   (with_reducible refine (HCJ.out _ _ G0.out).mono ?_); rintro e y2 ⟨rfl, hp⟩
   have G1 := hid hp
   clear hp
   refine hK.out _ _ (⟨G1.out.bl 3 rfl, G1.out.bl 1 rfl⟩) (fun h1x => ?_)
   clear hK K
   try simp only [Act.put, lay_out]
   refine tK 11 (.pointer (some ⟨g7, j, none⟩)) rfl (.inl ⟨by rfl, fun w hw => by clear hw; go_simp⟩) h1x ?_
   try simp only [Act.put, lay_out]
   have cj := row_c (i := j) (G1.out.bl 0 rfl) (wdV_at (U j) j HJ3.out)
   have fj := frozen_of_row y2 g7 j _ _ (G1.out.bl 0 rfl)
   refine wpAnyH_ready (rs := [12]) (by kernel_rfl) (by simp) (AllReadyH.cons rfl (fun K hK => ?_) AllReadyH.nil)
   rw [if_pos (by rfl)]
   go_simp
   have G2 := hid (G1.out.cell hM j (.int .i64 (rg j)))
   rw [HER.out] at G2
   generalize y2.setCell ⟨g7, j, none⟩ (.int .i64 (rg j)) = y3 at *
   refine hK.out _ _ (⟨G2.out.bl 3 rfl, G2.out.bl 1 rfl⟩) (fun h2x => ?_)
   clear hK K
   try simp only [Act.put, lay_out]
   refine wpAnyH_done (by kernel_rfl) ?_ _
   refine NoPanic.normal ?_
   clear h0 h1x h2x
   try simp only [Act.put, lay_out]
   go_wp2
   go_roundw
   case rel => exact ⟨j + 1, by omega, by go_num, G2.out⟩
   case measure => simp [intOf]; omega
  ·
   obtain rfl : j = n := by omega
   clear hlt
   go_upto_region 10 with (go_at_call 96; (with_reducible refine (HEN.out _ _ HI.out).mono ?_); rintro e w8 ⟨rfl, hb⟩; have H8 := hid hb; clear hb)
   go_wp2_with (first
    | (refine step_load_row rfl 37 _ rfl g7 37 (wdV (U j)) _ rfl (H8.out.bl 0 rfl) Tryz.underlying37 rfl (by kernel_rfl) ?_)
    | (refine step_store_row rfl 37 _ _ rfl (w.heap.size + 1) 37 _ (wdV (U j)) rfl rfl (H8.out.bl 2 rfl) (by kernel_rfl) rfl (by kernel_rfl) ?_))
   have H9 := hid (H8.out.drop.swap.row hM (wdV (U j)))
   exact bodyPost_ret (results_cell_row (by rfl) _ _ (w.heap.size + 1) 37 (wdV (U j)) (0, 0) _ rfl (H9.out.bl 0 rfl) Tryz.underlying37 rfl (by kernel_rfl)) rfl ⟨rfl, H9.out.fin⟩
set_option maxHeartbeats 3200000 in
theorem ffull2_any {Pm : World → Nat → Ms → (Nat → Prop) → Prop} (hM : Mach Pm) (b k : Nat) (S : Ms) (F : Nat → Prop) (A : Nat → Int) (w : World) (hm : Pm w b S F) (hp : Pv w) (hF : ¬ F gpair) (hq : Bq k S) (hk : k + 20 ≤ 100000) (hn : S.n = 2) (hA : Wb A) :
  Calls Tryz.prog 47 #[.pointer (some ⟨b, 0, none⟩), .agg (wdV A)] w fun e w' => e = .returned (.agg (wdV (anR 2 1 A S))) ∧ PmR Pm b (anS 2 1 A S) F w w' := by
 have HNB : Hid (∀ (bs : List (Nat × Obj)) (w' : World), Ow Pm F w w' b S bs → Calls Tryz.prog 76 #[.pointer (some ⟨b, 0, none⟩)] w' fun e w2 => e = .returned (.int .i64 2) ∧ Below w'.heap.size w' w2) := hid (fun bs w' h' => h'.asks (fun F' hF' => by have := hM.n b k S F' w' hF' hq (by omega); rw [hn] at this; exact this))
 have HFD : Hid (∀ w', Calls Tryz.prog 36 #[.int .i64 2] w' fun e w2 => e = .returned (.int .i64 1) ∧ w2 = w') := hid (fun w' => fdraws_any 2 w')
 have HAN : Hid (∀ (bs : List (Nat × Obj)) (w' : World), Ow Pm F w w' b S bs → Calls Tryz.prog 75 #[.pointer (some ⟨b, 0, none⟩), .agg (wdV A), .int .i64 1] w' fun e w2 => e = .returned (.agg (wdV (anR 2 1 A S))) ∧ Ow Pm F w w2 b (anS 2 1 A S) bs) := hid (fun bs w' h' => by
  exact h'.liftF (fun F2 hF2 hF3 => anew_any hM b k 2 1 S F2 A w' hF2 (hp.ow hF h') (fun e => (hF3 _ e).elim hF (fun l => by have := hp.1; omega)) hq hk hn (by decide) (by decide) hA))
 obtain ⟨w1, hw1⟩ : ∃ w1, (w.alloc (.cells (wdV A) 37)).alloc (.cells #[.int .i64 0, .int .i64 0, .int .i64 0] 37) = w1 := ⟨_, rfl⟩
 have H1 : Hid (Ow Pm F w w1 b S [(w.heap.size + 1, Obj.cells #[.int .i64 0, .int .i64 0, .int .i64 0] 37 (0, 0)), (w.heap.size, Obj.cells (wdV A) 37 (0, 0))]) := hid (by
  have := ((Ow.start hm).new hM (wdV A) 37).new hM #[.int .i64 0, .int .i64 0, .int .i64 0] 37
  rw [hw1] at this
  simp only [sz_al] at this
  exact this)
 have G0 := hid (H1.out.self hM ((Below.refl _ w1).drew))
 have HW := hid hw1
 clear hm hp hF hq hk hn hA hw1
 generalize anR 2 1 A S = R at *
 generalize anS 2 1 A S = S1 at *
 go_enter Tryz.func47, Tryz.ntmps47
 go_upto_region 1 with fail
 rw [HW.out]
 refine wp_region_noPanic ?_
 refine wp_region_held_drew (S := fun w' => w'.heap[w.heap.size]? = some (.cells (wdV A) 37 (0, 0))) (by kernel_rfl) (G0.out.bl 1 rfl) (fun h0 => ?_)
 generalize w1.drew = y1 at *
 refine tK 0 (.pointer (some ⟨b, 0, none⟩)) rfl (.inl ⟨by rfl, fun w hw => by clear hw; go_simp⟩) h0 ?_
 try simp only [Act.put, lay_out]
 refine tK 1 (.agg (wdV A)) rfl (yields_load_row (by rfl) 37 _ rfl w.heap.size 37 (wdV A) _ rfl (fun w h => h) Tryz.underlying37 rfl (by kernel_rfl)) h0 ?_
 try simp only [Act.put, lay_out]
 refine tK 2 (.pointer (some ⟨b, 0, none⟩)) rfl (.inl ⟨by rfl, fun w hw => by clear hw; go_simp⟩) h0 ?_
 try simp only [Act.put, lay_out]
 refine wpAnyH_ready (rs := [3]) (by kernel_rfl) (by simp) (AllReadyH.cons rfl (fun K hK => ?_) AllReadyH.nil)
 rw [if_pos (by rfl)]
 go_simp
 go_at_call 76
 (with_reducible refine (HNB.out _ _ G0.out).mono ?_); rintro e y2 ⟨rfl, hb⟩
 have G1 := hid (G0.out.self hM hb)
 clear hb
 refine hK.out _ _ (G1.out.bl 1 rfl) (fun h1x => ?_)
 clear hK K
 try simp only [Act.put, lay_out]
 refine wpAnyH_ready (rs := [4]) (by kernel_rfl) (by simp) (AllReadyH.cons rfl (fun K hK => ?_) AllReadyH.nil)
 rw [if_pos (by rfl)]
 go_simp
 go_at_call 36
 (with_reducible refine (HFD.out _).mono ?_); rintro e y3 ⟨rfl, rfl⟩
 have G2 := G1
 refine hK.out _ _ (G2.out.bl 1 rfl) (fun h2x => ?_)
 clear hK K
 try simp only [Act.put, lay_out]
 refine wpAnyH_ready (rs := [5]) (by kernel_rfl) (by simp) (AllReadyH.cons rfl (fun K hK => ?_) AllReadyH.nil)
 rw [if_pos (by rfl)]
 go_simp
 go_at_call 75
 (with_reducible refine (HAN.out _ _ G2.out).mono ?_); rintro e y4 ⟨rfl, hp⟩
 have G3 := hid hp
 clear hp
 refine hK.out _ _ (G3.out.bl 1 rfl) (fun h3x => ?_)
 clear hK K
 try simp only [Act.put, lay_out]
 refine wpAnyH_ready (rs := [6]) (by kernel_rfl) (by simp) (AllReadyH.cons rfl (fun K hK => ?_) AllReadyH.nil)
 rw [if_pos (by rfl)]
 refine wp_store_row 37 _ _ rfl (w.heap.size + 1) (wdV R) rfl rfl 37 _ (G3.out.bl 0 rfl) (by kernel_rfl) rfl (by kernel_rfl) ?_
 have G4 := hid (G3.out.row hM (wdV R))
 generalize y4.setRow (w.heap.size + 1) (wdV R) = y5 at *
 refine hK.out _ _ (G4.out.bl 1 rfl) (fun h4x => ?_)
 clear hK K
 try simp only [Act.put, lay_out]
 refine wpAnyH_done (by kernel_rfl) ?_ _
 refine NoPanic.normal ?_
 clear h0 h1x h2x h3x h4x
 try simp only [Act.put, lay_out]
 go_wp2
 exact bodyPost_ret (results_cell_row (by rfl) _ _ (w.heap.size + 1) 37 (wdV R) (0, 0) _ rfl (G4.out.bl 0 rfl) Tryz.underlying37 rfl (by kernel_rfl)) rfl ⟨rfl, G4.out.fin⟩
set_option maxHeartbeats 3200000 in
theorem ffull3_any {Pm : World → Nat → Ms → (Nat → Prop) → Prop} (hM : Mach Pm) (b k : Nat) (S : Ms) (F : Nat → Prop) (A : Nat → Int) (w : World) (hm : Pm w b S F) (hp : Pv w) (hF : ¬ F gpair) (hq : Bq k S) (hk : k + 20 ≤ 100000) (hn : S.n = 3) (hA : Wb A) :
  Calls Tryz.prog 47 #[.pointer (some ⟨b, 0, none⟩), .agg (wdV A)] w fun e w' => e = .returned (.agg (wdV (anR 3 3 A S))) ∧ PmR Pm b (anS 3 3 A S) F w w' := by
 have HNB : Hid (∀ (bs : List (Nat × Obj)) (w' : World), Ow Pm F w w' b S bs → Calls Tryz.prog 76 #[.pointer (some ⟨b, 0, none⟩)] w' fun e w2 => e = .returned (.int .i64 3) ∧ Below w'.heap.size w' w2) := hid (fun bs w' h' => h'.asks (fun F' hF' => by have := hM.n b k S F' w' hF' hq (by omega); rw [hn] at this; exact this))
 have HFD : Hid (∀ w', Calls Tryz.prog 36 #[.int .i64 3] w' fun e w2 => e = .returned (.int .i64 3) ∧ w2 = w') := hid (fun w' => fdraws_any 3 w')
 have HAN : Hid (∀ (bs : List (Nat × Obj)) (w' : World), Ow Pm F w w' b S bs → Calls Tryz.prog 75 #[.pointer (some ⟨b, 0, none⟩), .agg (wdV A), .int .i64 3] w' fun e w2 => e = .returned (.agg (wdV (anR 3 3 A S))) ∧ Ow Pm F w w2 b (anS 3 3 A S) bs) := hid (fun bs w' h' => by
  exact h'.liftF (fun F2 hF2 hF3 => anew_any hM b k 3 3 S F2 A w' hF2 (hp.ow hF h') (fun e => (hF3 _ e).elim hF (fun l => by have := hp.1; omega)) hq hk hn (by decide) (by decide) hA))
 obtain ⟨w1, hw1⟩ : ∃ w1, (w.alloc (.cells (wdV A) 37)).alloc (.cells #[.int .i64 0, .int .i64 0, .int .i64 0] 37) = w1 := ⟨_, rfl⟩
 have H1 : Hid (Ow Pm F w w1 b S [(w.heap.size + 1, Obj.cells #[.int .i64 0, .int .i64 0, .int .i64 0] 37 (0, 0)), (w.heap.size, Obj.cells (wdV A) 37 (0, 0))]) := hid (by
  have := ((Ow.start hm).new hM (wdV A) 37).new hM #[.int .i64 0, .int .i64 0, .int .i64 0] 37
  rw [hw1] at this
  simp only [sz_al] at this
  exact this)
 have G0 := hid (H1.out.self hM ((Below.refl _ w1).drew))
 have HW := hid hw1
 clear hm hp hF hq hk hn hA hw1
 generalize anR 3 3 A S = R at *
 generalize anS 3 3 A S = S1 at *
 go_enter Tryz.func47, Tryz.ntmps47
 go_upto_region 1 with fail
 rw [HW.out]
 refine wp_region_noPanic ?_
 refine wp_region_held_drew (S := fun w' => w'.heap[w.heap.size]? = some (.cells (wdV A) 37 (0, 0))) (by kernel_rfl) (G0.out.bl 1 rfl) (fun h0 => ?_)
 generalize w1.drew = y1 at *
 refine tK 0 (.pointer (some ⟨b, 0, none⟩)) rfl (.inl ⟨by rfl, fun w hw => by clear hw; go_simp⟩) h0 ?_
 try simp only [Act.put, lay_out]
 refine tK 1 (.agg (wdV A)) rfl (yields_load_row (by rfl) 37 _ rfl w.heap.size 37 (wdV A) _ rfl (fun w h => h) Tryz.underlying37 rfl (by kernel_rfl)) h0 ?_
 try simp only [Act.put, lay_out]
 refine tK 2 (.pointer (some ⟨b, 0, none⟩)) rfl (.inl ⟨by rfl, fun w hw => by clear hw; go_simp⟩) h0 ?_
 try simp only [Act.put, lay_out]
 refine wpAnyH_ready (rs := [3]) (by kernel_rfl) (by simp) (AllReadyH.cons rfl (fun K hK => ?_) AllReadyH.nil)
 rw [if_pos (by rfl)]
 go_simp
 go_at_call 76
 (with_reducible refine (HNB.out _ _ G0.out).mono ?_); rintro e y2 ⟨rfl, hb⟩
 have G1 := hid (G0.out.self hM hb)
 clear hb
 refine hK.out _ _ (G1.out.bl 1 rfl) (fun h1x => ?_)
 clear hK K
 try simp only [Act.put, lay_out]
 refine wpAnyH_ready (rs := [4]) (by kernel_rfl) (by simp) (AllReadyH.cons rfl (fun K hK => ?_) AllReadyH.nil)
 rw [if_pos (by rfl)]
 go_simp
 go_at_call 36
 (with_reducible refine (HFD.out _).mono ?_); rintro e y3 ⟨rfl, rfl⟩
 have G2 := G1
 refine hK.out _ _ (G2.out.bl 1 rfl) (fun h2x => ?_)
 clear hK K
 try simp only [Act.put, lay_out]
 refine wpAnyH_ready (rs := [5]) (by kernel_rfl) (by simp) (AllReadyH.cons rfl (fun K hK => ?_) AllReadyH.nil)
 rw [if_pos (by rfl)]
 go_simp
 go_at_call 75
 (with_reducible refine (HAN.out _ _ G2.out).mono ?_); rintro e y4 ⟨rfl, hp⟩
 have G3 := hid hp
 clear hp
 refine hK.out _ _ (G3.out.bl 1 rfl) (fun h3x => ?_)
 clear hK K
 try simp only [Act.put, lay_out]
 refine wpAnyH_ready (rs := [6]) (by kernel_rfl) (by simp) (AllReadyH.cons rfl (fun K hK => ?_) AllReadyH.nil)
 rw [if_pos (by rfl)]
 refine wp_store_row 37 _ _ rfl (w.heap.size + 1) (wdV R) rfl rfl 37 _ (G3.out.bl 0 rfl) (by kernel_rfl) rfl (by kernel_rfl) ?_
 have G4 := hid (G3.out.row hM (wdV R))
 generalize y4.setRow (w.heap.size + 1) (wdV R) = y5 at *
 refine hK.out _ _ (G4.out.bl 1 rfl) (fun h4x => ?_)
 clear hK K
 try simp only [Act.put, lay_out]
 refine wpAnyH_done (by kernel_rfl) ?_ _
 refine NoPanic.normal ?_
 clear h0 h1x h2x h3x h4x
 try simp only [Act.put, lay_out]
 go_wp2
 exact bodyPost_ret (results_cell_row (by rfl) _ _ (w.heap.size + 1) 37 (wdV R) (0, 0) _ rfl (G4.out.bl 0 rfl) Tryz.underlying37 rfl (by kernel_rfl)) rfl ⟨rfl, G4.out.fin⟩
theorem wdV_eq {A B : Nat → Int} (h : ∀ i, i < 3 → A i = B i) : wdV A = wdV B := by
 show #[_, _, _] = #[_, _, _]
 rw [h 0 (by omega), h 1 (by omega), h 2 (by omega)]
theorem ffull_any {Pm : World → Nat → Ms → (Nat → Prop) → Prop} (hM : Mach Pm) (b k : Nat) (S : Ms) (F : Nat → Prop) (A : Nat → Int) (w : World) (hm : Pm w b S F) (hp : Pv w) (hF : ¬ F gpair) (hq : Bq k S) (hk : k + 20 ≤ 100000) (hn : S.n = 2 ∨ S.n = 3) (hA : Wb A) :
  Calls Tryz.prog 47 #[.pointer (some ⟨b, 0, none⟩), .agg (wdV A)] w fun e w' => e = .returned (.agg (wdV (frR S false A))) ∧ PmR Pm b (frS S false A) F w w' := by
 obtain ⟨e1, e2⟩ := an_fr (sm := false) (A := A) hn
 rw [← e1, ← wdV_eq e2]
 rcases hn with e | e
 ·
  rw [show S.sh = 2 by unfold Ms.sh; omega, show frC S.n false = 1 by unfold frC; rw [if_neg (by omega)]]
  exact ffull2_any hM b k S F A w hm hp hF hq hk e hA
 ·
  rw [show S.sh = 3 by unfold Ms.sh; omega, show frC S.n false = 3 by unfold frC; rw [if_pos e]; rfl]
  exact ffull3_any hM b k S F A w hm hp hF hq hk e hA
open Go.RowKit
set_option maxRecDepth 100000
theorem sqS_n (S : Ms) (kd : Int) (op : Nat → (Nat → Int) → Op6) (m : Nat) : (sqS (S.beginS kd) op m).n = S.n := ((sq_ext _ op m).n).trans (beginS_n S kd).1
set_option maxHeartbeats 12800000 in
theorem dfull2 {lg : LoG} {F0 : Nat → Prop} {w0 w : World} {b k : Nat} {S : Ms} (A : Nat → Int) (h : Od lg F0 w0 w b S []) (hq : Bq k S) (hk : k + 20 ≤ 100000) (hn : S.n = 2) (hA : Wb A) :
  Calls Tryz.prog 49 #[.pointer (some ⟨b, 0, none⟩), .agg (wdV A)] w fun e w' => e = .returned (.agg (wdV (frR S false A))) ∧ Od lg F0 w0 w' b (frS S false A) [] := by
 have hB := hq.begins 2
 have hwf : ∀ j, j < 3 → ∀ r, Wb r → opwf (opF2 A j r) := fun j _ r hr => opF2_wf hA hr j
 have hSB : ∀ j, j ≤ 3 → Bq (k + j) (sqS (S.beginS 2) (opF2 A) j) ∧ Wb (sqR (S.beginS 2) (opF2 A) j) := fun j hj => sq_bq hB (fun i hi => hwf i (by omega)) (by omega)
 have HBG : Hid (∀ (bs : List (Nat × Obj)) (w' : World), Od lg F0 w0 w' b S bs → Calls Tryz.prog 77 #[.pointer (some ⟨b, 0, none⟩), .int .i64 2] w' fun e w2 => e = .returned (.tuple #[]) ∧ Od lg F0 w0 w2 b (sqS (S.beginS 2) (opF2 A) 0) bs) := hid (fun bs w' h' => h'.begins 2 hq (by omega))
 have HD0 : Hid (∀ (bs : List (Nat × Obj)) (w' : World), Od lg F0 w0 w' b (sqS (S.beginS 2) (opF2 A) 0) bs → Calls Tryz.prog 44 #[.pointer (some ⟨b, 0, none⟩), .agg (opCs ⟨1, -1, -1, -1, -1, 0⟩), .int .u64 0] w' fun e w2 => e = .returned (.int .i64 (sqr (S.beginS 2) (opF2 A) 0)) ∧ Od lg F0 w0 w2 b (sqS (S.beginS 2) (opF2 A) 1) bs) := hid (fun bs w' h' => by
  have e : sqO (S.beginS 2) (opF2 A) 0 = ⟨1, -1, -1, -1, -1, 0⟩ := by
   unfold sqO
   generalize sqR (S.beginS 2) (opF2 A) 0 = r
   rfl
  skip
  have h2 := h'.do0 (sqO (S.beginS 2) (opF2 A) 0) (hSB 0 (by omega)).1 (by omega) (hwf 0 (by omega) _ (hSB 0 (by omega)).2)
  rw [← e, show sqS (S.beginS 2) (opF2 A) 1 = (sqS (S.beginS 2) (opF2 A) 0).doS (sqO (S.beginS 2) (opF2 A) 0) 0 from sqS_next _ _ _]
  unfold sqr
  exact h2)
 have HD1 : Hid (∀ (bs : List (Nat × Obj)) (w' : World), Od lg F0 w0 w' b (sqS (S.beginS 2) (opF2 A) 1) bs → Calls Tryz.prog 44 #[.pointer (some ⟨b, 0, none⟩), .agg (opCs ⟨5, 0, (A 0), sqr (S.beginS 2) (opF2 A) (0), -1, 0⟩), .int .u64 0] w' fun e w2 => e = .returned (.int .i64 (sqr (S.beginS 2) (opF2 A) 1)) ∧ Od lg F0 w0 w2 b (sqS (S.beginS 2) (opF2 A) 2) bs) := hid (fun bs w' h' => by
  have e : sqO (S.beginS 2) (opF2 A) 1 = ⟨5, 0, (A 0), sqR (S.beginS 2) (opF2 A) 1 0, -1, 0⟩ := by
   unfold sqO
   generalize sqR (S.beginS 2) (opF2 A) 1 = r
   rfl
  rw [sqR_at _ _ (by omega : 0 < 1)] at e
  have h2 := h'.do0 (sqO (S.beginS 2) (opF2 A) 1) (hSB 1 (by omega)).1 (by omega) (hwf 1 (by omega) _ (hSB 1 (by omega)).2)
  rw [← e, show sqS (S.beginS 2) (opF2 A) 2 = (sqS (S.beginS 2) (opF2 A) 1).doS (sqO (S.beginS 2) (opF2 A) 1) 0 from sqS_next _ _ _]
  unfold sqr
  exact h2)
 have HD2 : Hid (∀ (bs : List (Nat × Obj)) (w' : World), Od lg F0 w0 w' b (sqS (S.beginS 2) (opF2 A) 2) bs → Calls Tryz.prog 44 #[.pointer (some ⟨b, 0, none⟩), .agg (opCs ⟨5, 1, (A 1), sqr (S.beginS 2) (opF2 A) (0), -1, 0⟩), .int .u64 0] w' fun e w2 => e = .returned (.int .i64 (sqr (S.beginS 2) (opF2 A) 2)) ∧ Od lg F0 w0 w2 b (sqS (S.beginS 2) (opF2 A) 3) bs) := hid (fun bs w' h' => by
  have e : sqO (S.beginS 2) (opF2 A) 2 = ⟨5, 1, (A 1), sqR (S.beginS 2) (opF2 A) 2 0, -1, 0⟩ := by
   unfold sqO
   generalize sqR (S.beginS 2) (opF2 A) 2 = r
   rfl
  rw [sqR_at _ _ (by omega : 0 < 2)] at e
  have h2 := h'.do0 (sqO (S.beginS 2) (opF2 A) 2) (hSB 2 (by omega)).1 (by omega) (hwf 2 (by omega) _ (hSB 2 (by omega)).2)
  rw [← e, show sqS (S.beginS 2) (opF2 A) 3 = (sqS (S.beginS 2) (opF2 A) 2).doS (sqO (S.beginS 2) (opF2 A) 2) 0 from sqS_next _ _ _]
  unfold sqr
  exact h2)
 have HEN : Hid (∀ (bs : List (Nat × Obj)) (w' : World), Od lg F0 w0 w' b (sqS (S.beginS 2) (opF2 A) 3) bs → Calls Tryz.prog 78 #[.pointer (some ⟨b, 0, none⟩)] w' fun e w2 => e = .returned (.tuple #[]) ∧ Od lg F0 w0 w2 b (frS S false A) bs) := hid (fun bs w' h' => by
  rw [show frS S false A = (sqS (S.beginS 2) (opF2 A) 3).endS from by unfold frS frO frM blkS; rw [if_neg (by omega), if_neg (by omega)]]
  exact h'.ends (hSB 3 (by omega)).1 (by omega))
 have HNN : Hid (∀ (j : Nat) (bs : List (Nat × Obj)) (w' : World), Od lg F0 w0 w' b (sqS (S.beginS 2) (opF2 A) j) bs → w'.cell? ⟨b, 0, none⟩ = some (.int .i64 2)) := hid (fun j bs w' h' => by have := h'.n; rw [sqS_n, hn] at this; exact this)
 have HN0 : Hid (∀ (bs : List (Nat × Obj)) (w' : World), Od lg F0 w0 w' b S bs → w'.cell? ⟨b, 0, none⟩ = some (.int .i64 2)) := hid (fun bs w' h' => by have := h'.n; rw [hn] at this; exact this)
 have HR : Hid (frR S false A = reg3 (sqr (S.beginS 2) (opF2 A) 1) (sqr (S.beginS 2) (opF2 A) 2) (-1)) := hid (by unfold frR; rw [if_neg (by omega)])
 obtain ⟨w1, hw1⟩ : ∃ w1, (w.alloc (.cells (wdV A) 37)).alloc (.cells #[.int .i64 0, .int .i64 0, .int .i64 0] 37) = w1 := ⟨_, rfl⟩
 have H1 : Hid (Od lg F0 w0 w1 b S [(w.heap.size + 1, Obj.cells #[.int .i64 0, .int .i64 0, .int .i64 0] 37 (0, 0)), (w.heap.size, Obj.cells (wdV A) 37 (0, 0))]) := hid (by
  have := (h.new (wdV A) 37).new #[.int .i64 0, .int .i64 0, .int .i64 0] 37
  rw [hw1] at this
  simp only [sz_al] at this
  exact this)
 have HW := hid hw1
 clear h hq hk hn hA hB hwf hSB hw1
 rw [HR.out]
 clear HR
 generalize frS S false A = S3 at *
 generalize sqr (S.beginS 2) (opF2 A) 0 = rg0 at *
 generalize sqr (S.beginS 2) (opF2 A) 1 = rg1 at *
 generalize sqr (S.beginS 2) (opF2 A) 2 = rg2 at *
 generalize S.beginS 2 = S2 at *
 go_enter Tryz.func49, Tryz.ntmps49
 go_upto_region 1 with fail
 rw [HW.out]
 go_upto_region 2 with (go_at_call 43; (with_reducible refine (none_any _).mono ?_); rintro e w2 ⟨rfl, hb⟩; have H2 := hid (H1.out.self hb); clear hb)
 have H3 := hid (H2.out.new (wdV none3) 37)
 obtain ⟨g5, hg5⟩ : ∃ g5, w2.heap.size = g5 := ⟨_, rfl⟩
 rw [hg5] at H3
 have H4 : Hid (Od lg F0 w0 (w2.alloc (.cells #[.int .i64 (none3 0), .int .i64 (none3 1), .int .i64 (none3 2)] 37)) b S [(g5, .cells #[.int .i64 (-1), .int .i64 (-1), .int .i64 (-1)] 37 (0, 0)), (w.heap.size + 1, Obj.cells #[.int .i64 0, .int .i64 0, .int .i64 0] 37 (0, 0)), (w.heap.size, Obj.cells (wdV A) 37 (0, 0))]) := H3
 generalize w2.alloc (.cells #[.int .i64 (none3 0), .int .i64 (none3 1), .int .i64 (none3 2)] 37) = w4 at *
 rw [hg5]
 clear hg5 H3 H2 H1
 go_upto_region 3 with (go_at_call 77; (with_reducible refine (HBG.out _ _ H4.out).mono ?_); rintro e v0 ⟨rfl, hb⟩; have G0 := hid hb; clear hb)
 have ca0 := row_c (i := 0) (u := .int .i64 (A 0)) (G0.out.bl 2 rfl) rfl
 have ca1 := row_c (i := 1) (u := .int .i64 (A 1)) (G0.out.bl 2 rfl) rfl
 have ca2 := row_c (i := 2) (u := .int .i64 (A 2)) (G0.out.bl 2 rfl) rfl
 have cb0 := row_c (i := 0) (u := .int .i64 (-1)) (G0.out.bl 0 rfl) rfl
 have fb0 := frozen_of_row v0 g5 0 _ _ (G0.out.bl 0 rfl)
 have cb1 := row_c (i := 1) (u := .int .i64 (-1)) (G0.out.bl 0 rfl) rfl
 have fb1 := frozen_of_row v0 g5 1 _ _ (G0.out.bl 0 rfl)
 have cb2 := row_c (i := 2) (u := .int .i64 (-1)) (G0.out.bl 0 rfl) rfl
 have fb2 := frozen_of_row v0 g5 2 _ _ (G0.out.bl 0 rfl)
 have cn := HNN.out 0 _ _ G0.out
 go_upto_region 4 with (first
  | (go_at_call 45; (with_reducible refine (dop0_any 1 (-1) (-1) (-1) _).mono ?_); rintro e y0 ⟨rfl, hb⟩; have Y0 := hid (G0.out.self hb); clear hb)
  | (go_at_call 44; (with_reducible refine (HD0.out _ _ Y0.out).mono ?_); rintro e v1 ⟨rfl, hb⟩; have G1 := hid hb; clear hb; clear ca0 ca1 ca2 cb0 cb1 cb2 fb0 fb1 fb2 cn; have ca0 := row_c (i := 0) (u := .int .i64 (A 0)) (G1.out.bl 2 rfl) rfl; have ca1 := row_c (i := 1) (u := .int .i64 (A 1)) (G1.out.bl 2 rfl) rfl; have ca2 := row_c (i := 2) (u := .int .i64 (A 2)) (G1.out.bl 2 rfl) rfl; have cb0 := row_c (i := 0) (u := .int .i64 (-1)) (G1.out.bl 0 rfl) rfl; have fb0 := frozen_of_row v1 g5 0 _ _ (G1.out.bl 0 rfl); have cb1 := row_c (i := 1) (u := .int .i64 (-1)) (G1.out.bl 0 rfl) rfl; have fb1 := frozen_of_row v1 g5 1 _ _ (G1.out.bl 0 rfl); have cb2 := row_c (i := 2) (u := .int .i64 (-1)) (G1.out.bl 0 rfl) rfl; have fb2 := frozen_of_row v1 g5 2 _ _ (G1.out.bl 0 rfl); have cn := HNN.out 1 _ _ G1.out))
 go_upto_region 8 with fail
 go_upto_region 9 with (first
  | (go_at_call 45; (with_reducible refine (dop0_any 5 0 (A 0) rg0 _).mono ?_); rintro e y1 ⟨rfl, hb⟩; have Y1 := hid (G1.out.self hb); clear hb)
  | (go_at_call 44; (with_reducible refine (HD1.out _ _ Y1.out).mono ?_); rintro e v2 ⟨rfl, hb⟩; have G2 := hid hb; clear hb; clear ca0 ca1 ca2 cb0 cb1 cb2 fb0 fb1 fb2 cn; have ca0 := row_c (i := 0) (u := .int .i64 (A 0)) (G2.out.bl 2 rfl) rfl; have ca1 := row_c (i := 1) (u := .int .i64 (A 1)) (G2.out.bl 2 rfl) rfl; have ca2 := row_c (i := 2) (u := .int .i64 (A 2)) (G2.out.bl 2 rfl) rfl; have cb0 := row_c (i := 0) (u := .int .i64 (-1)) (G2.out.bl 0 rfl) rfl; have fb0 := frozen_of_row v2 g5 0 _ _ (G2.out.bl 0 rfl); have cb1 := row_c (i := 1) (u := .int .i64 (-1)) (G2.out.bl 0 rfl) rfl; have fb1 := frozen_of_row v2 g5 1 _ _ (G2.out.bl 0 rfl); have cb2 := row_c (i := 2) (u := .int .i64 (-1)) (G2.out.bl 0 rfl) rfl; have fb2 := frozen_of_row v2 g5 2 _ _ (G2.out.bl 0 rfl); have cn := HNN.out 2 _ _ G2.out))
 have K2 : Hid (Od lg F0 w0 (v2.setCell ⟨g5, 0, none⟩ (.int .i64 rg1)) b (sqS S2 (opF2 A) 2) [(g5, .cells #[.int .i64 rg1, .int .i64 (-1), .int .i64 (-1)] 37 (0, 0)), (w.heap.size + 1, Obj.cells #[.int .i64 0, .int .i64 0, .int .i64 0] 37 (0, 0)), (w.heap.size, Obj.cells (wdV A) 37 (0, 0))]) := hid (G2.out.cell 0 (.int .i64 rg1))
 generalize v2.setCell ⟨g5, 0, none⟩ (.int .i64 rg1) = x2 at *
 clear ca0 ca1 ca2 cb0 cb1 cb2 fb0 fb1 fb2 cn
 have ca0 := row_c (i := 0) (u := .int .i64 (A 0)) (K2.out.bl 2 rfl) rfl
 have ca1 := row_c (i := 1) (u := .int .i64 (A 1)) (K2.out.bl 2 rfl) rfl
 have ca2 := row_c (i := 2) (u := .int .i64 (A 2)) (K2.out.bl 2 rfl) rfl
 have cb0 := row_c (i := 0) (u := .int .i64 rg1) (K2.out.bl 0 rfl) rfl
 have fb0 := frozen_of_row x2 g5 0 _ _ (K2.out.bl 0 rfl)
 have cb1 := row_c (i := 1) (u := .int .i64 (-1)) (K2.out.bl 0 rfl) rfl
 have fb1 := frozen_of_row x2 g5 1 _ _ (K2.out.bl 0 rfl)
 have cb2 := row_c (i := 2) (u := .int .i64 (-1)) (K2.out.bl 0 rfl) rfl
 have fb2 := frozen_of_row x2 g5 2 _ _ (K2.out.bl 0 rfl)
 have cn := HNN.out 2 _ _ K2.out
 go_upto_region 11 with fail
 go_upto_region 12 with (first
  | (go_at_call 45; (with_reducible refine (dop0_any 5 1 (A 1) rg0 _).mono ?_); rintro e y2 ⟨rfl, hb⟩; have Y2 := hid (K2.out.self hb); clear hb)
  | (go_at_call 44; (with_reducible refine (HD2.out _ _ Y2.out).mono ?_); rintro e v3 ⟨rfl, hb⟩; have G3 := hid hb; clear hb; clear ca0 ca1 ca2 cb0 cb1 cb2 fb0 fb1 fb2 cn; have ca0 := row_c (i := 0) (u := .int .i64 (A 0)) (G3.out.bl 2 rfl) rfl; have ca1 := row_c (i := 1) (u := .int .i64 (A 1)) (G3.out.bl 2 rfl) rfl; have ca2 := row_c (i := 2) (u := .int .i64 (A 2)) (G3.out.bl 2 rfl) rfl; have cb0 := row_c (i := 0) (u := .int .i64 rg1) (G3.out.bl 0 rfl) rfl; have fb0 := frozen_of_row v3 g5 0 _ _ (G3.out.bl 0 rfl); have cb1 := row_c (i := 1) (u := .int .i64 (-1)) (G3.out.bl 0 rfl) rfl; have fb1 := frozen_of_row v3 g5 1 _ _ (G3.out.bl 0 rfl); have cb2 := row_c (i := 2) (u := .int .i64 (-1)) (G3.out.bl 0 rfl) rfl; have fb2 := frozen_of_row v3 g5 2 _ _ (G3.out.bl 0 rfl); have cn := HNN.out 3 _ _ G3.out))
 have K3 : Hid (Od lg F0 w0 (v3.setCell ⟨g5, 1, none⟩ (.int .i64 rg2)) b (sqS S2 (opF2 A) 3) [(g5, .cells #[.int .i64 rg1, .int .i64 rg2, .int .i64 (-1)] 37 (0, 0)), (w.heap.size + 1, Obj.cells #[.int .i64 0, .int .i64 0, .int .i64 0] 37 (0, 0)), (w.heap.size, Obj.cells (wdV A) 37 (0, 0))]) := hid (G3.out.cell 1 (.int .i64 rg2))
 generalize v3.setCell ⟨g5, 1, none⟩ (.int .i64 rg2) = x3 at *
 clear ca0 ca1 ca2 cb0 cb1 cb2 fb0 fb1 fb2 cn
 have ca0 := row_c (i := 0) (u := .int .i64 (A 0)) (K3.out.bl 2 rfl) rfl
 have ca1 := row_c (i := 1) (u := .int .i64 (A 1)) (K3.out.bl 2 rfl) rfl
 have ca2 := row_c (i := 2) (u := .int .i64 (A 2)) (K3.out.bl 2 rfl) rfl
 have cb0 := row_c (i := 0) (u := .int .i64 rg1) (K3.out.bl 0 rfl) rfl
 have fb0 := frozen_of_row x3 g5 0 _ _ (K3.out.bl 0 rfl)
 have cb1 := row_c (i := 1) (u := .int .i64 rg2) (K3.out.bl 0 rfl) rfl
 have fb1 := frozen_of_row x3 g5 1 _ _ (K3.out.bl 0 rfl)
 have cb2 := row_c (i := 2) (u := .int .i64 (-1)) (K3.out.bl 0 rfl) rfl
 have fb2 := frozen_of_row x3 g5 2 _ _ (K3.out.bl 0 rfl)
 have cn := HNN.out 3 _ _ K3.out
 go_upto_region 16 with fail
 go_upto_region 17 with (go_at_call 78; (with_reducible refine (HEN.out _ _ K3.out).mono ?_); rintro e z1 ⟨rfl, hb⟩; have Z1 := hid hb; clear hb; clear ca0 ca1 ca2 cb0 cb1 cb2 fb0 fb1 fb2 cn)
 go_wp2_with (first
  | (refine step_load_row rfl 37 _ rfl g5 37 (#[.int .i64 rg1, .int .i64 rg2, .int .i64 (-1)]) _ rfl (Z1.out.bl 0 rfl) Tryz.underlying37 rfl (by kernel_rfl) ?_)
  | (refine step_store_row rfl 37 _ _ rfl (w.heap.size + 1) 37 _ (#[.int .i64 rg1, .int .i64 rg2, .int .i64 (-1)]) rfl rfl (Z1.out.bl 1 rfl) (by kernel_rfl) rfl (by kernel_rfl) ?_))
 have Z2 := hid (Z1.out.swap.row (#[.int .i64 rg1, .int .i64 rg2, .int .i64 (-1)]))
 exact bodyPost_ret (results_cell_row (by rfl) _ _ (w.heap.size + 1) 37 (#[.int .i64 rg1, .int .i64 rg2, .int .i64 (-1)]) (0, 0) _ rfl (Z2.out.bl 0 rfl) Tryz.underlying37 rfl (by kernel_rfl)) rfl ⟨rfl, Z2.out.drop.drop.drop⟩
set_option maxHeartbeats 12800000 in
theorem dfull3 {lg : LoG} {F0 : Nat → Prop} {w0 w : World} {b k : Nat} {S : Ms} (A : Nat → Int) (h : Od lg F0 w0 w b S []) (hq : Bq k S) (hk : k + 20 ≤ 100000) (hn : S.n = 3) (hA : Wb A) :
  Calls Tryz.prog 49 #[.pointer (some ⟨b, 0, none⟩), .agg (wdV A)] w fun e w' => e = .returned (.agg (wdV (frR S false A))) ∧ Od lg F0 w0 w' b (frS S false A) [] := by
 have hB := hq.begins 2
 have hwf : ∀ j, j < 9 → ∀ r, Wb r → opwf (opF3 A j r) := fun j _ r hr => opF3_wf hA hr j
 have hSB : ∀ j, j ≤ 9 → Bq (k + j) (sqS (S.beginS 2) (opF3 A) j) ∧ Wb (sqR (S.beginS 2) (opF3 A) j) := fun j hj => sq_bq hB (fun i hi => hwf i (by omega)) (by omega)
 have HBG : Hid (∀ (bs : List (Nat × Obj)) (w' : World), Od lg F0 w0 w' b S bs → Calls Tryz.prog 77 #[.pointer (some ⟨b, 0, none⟩), .int .i64 2] w' fun e w2 => e = .returned (.tuple #[]) ∧ Od lg F0 w0 w2 b (sqS (S.beginS 2) (opF3 A) 0) bs) := hid (fun bs w' h' => h'.begins 2 hq (by omega))
 have HD0 : Hid (∀ (bs : List (Nat × Obj)) (w' : World), Od lg F0 w0 w' b (sqS (S.beginS 2) (opF3 A) 0) bs → Calls Tryz.prog 44 #[.pointer (some ⟨b, 0, none⟩), .agg (opCs ⟨1, -1, -1, -1, -1, 0⟩), .int .u64 0] w' fun e w2 => e = .returned (.int .i64 (sqr (S.beginS 2) (opF3 A) 0)) ∧ Od lg F0 w0 w2 b (sqS (S.beginS 2) (opF3 A) 1) bs) := hid (fun bs w' h' => by
  have e : sqO (S.beginS 2) (opF3 A) 0 = ⟨1, -1, -1, -1, -1, 0⟩ := by
   unfold sqO
   generalize sqR (S.beginS 2) (opF3 A) 0 = r
   rfl
  skip
  have h2 := h'.do0 (sqO (S.beginS 2) (opF3 A) 0) (hSB 0 (by omega)).1 (by omega) (hwf 0 (by omega) _ (hSB 0 (by omega)).2)
  rw [← e, show sqS (S.beginS 2) (opF3 A) 1 = (sqS (S.beginS 2) (opF3 A) 0).doS (sqO (S.beginS 2) (opF3 A) 0) 0 from sqS_next _ _ _]
  unfold sqr
  exact h2)
 have HD1 : Hid (∀ (bs : List (Nat × Obj)) (w' : World), Od lg F0 w0 w' b (sqS (S.beginS 2) (opF3 A) 1) bs → Calls Tryz.prog 44 #[.pointer (some ⟨b, 0, none⟩), .agg (opCs ⟨1, -1, -1, -1, -1, 0⟩), .int .u64 0] w' fun e w2 => e = .returned (.int .i64 (sqr (S.beginS 2) (opF3 A) 1)) ∧ Od lg F0 w0 w2 b (sqS (S.beginS 2) (opF3 A) 2) bs) := hid (fun bs w' h' => by
  have e : sqO (S.beginS 2) (opF3 A) 1 = ⟨1, -1, -1, -1, -1, 0⟩ := by
   unfold sqO
   generalize sqR (S.beginS 2) (opF3 A) 1 = r
   rfl
  skip
  have h2 := h'.do0 (sqO (S.beginS 2) (opF3 A) 1) (hSB 1 (by omega)).1 (by omega) (hwf 1 (by omega) _ (hSB 1 (by omega)).2)
  rw [← e, show sqS (S.beginS 2) (opF3 A) 2 = (sqS (S.beginS 2) (opF3 A) 1).doS (sqO (S.beginS 2) (opF3 A) 1) 0 from sqS_next _ _ _]
  unfold sqr
  exact h2)
 have HD2 : Hid (∀ (bs : List (Nat × Obj)) (w' : World), Od lg F0 w0 w' b (sqS (S.beginS 2) (opF3 A) 2) bs → Calls Tryz.prog 44 #[.pointer (some ⟨b, 0, none⟩), .agg (opCs ⟨1, -1, -1, -1, -1, 0⟩), .int .u64 0] w' fun e w2 => e = .returned (.int .i64 (sqr (S.beginS 2) (opF3 A) 2)) ∧ Od lg F0 w0 w2 b (sqS (S.beginS 2) (opF3 A) 3) bs) := hid (fun bs w' h' => by
  have e : sqO (S.beginS 2) (opF3 A) 2 = ⟨1, -1, -1, -1, -1, 0⟩ := by
   unfold sqO
   generalize sqR (S.beginS 2) (opF3 A) 2 = r
   rfl
  skip
  have h2 := h'.do0 (sqO (S.beginS 2) (opF3 A) 2) (hSB 2 (by omega)).1 (by omega) (hwf 2 (by omega) _ (hSB 2 (by omega)).2)
  rw [← e, show sqS (S.beginS 2) (opF3 A) 3 = (sqS (S.beginS 2) (opF3 A) 2).doS (sqO (S.beginS 2) (opF3 A) 2) 0 from sqS_next _ _ _]
  unfold sqr
  exact h2)
 have HD3 : Hid (∀ (bs : List (Nat × Obj)) (w' : World), Od lg F0 w0 w' b (sqS (S.beginS 2) (opF3 A) 3) bs → Calls Tryz.prog 44 #[.pointer (some ⟨b, 0, none⟩), .agg (opCs ⟨5, 0, (A 0), sqr (S.beginS 2) (opF3 A) (0), -1, 0⟩), .int .u64 0] w' fun e w2 => e = .returned (.int .i64 (sqr (S.beginS 2) (opF3 A) 3)) ∧ Od lg F0 w0 w2 b (sqS (S.beginS 2) (opF3 A) 4) bs) := hid (fun bs w' h' => by
  have e : sqO (S.beginS 2) (opF3 A) 3 = ⟨5, 0, (A 0), sqR (S.beginS 2) (opF3 A) 3 0, -1, 0⟩ := by
   unfold sqO
   generalize sqR (S.beginS 2) (opF3 A) 3 = r
   rfl
  rw [sqR_at _ _ (by omega : 0 < 3)] at e
  have h2 := h'.do0 (sqO (S.beginS 2) (opF3 A) 3) (hSB 3 (by omega)).1 (by omega) (hwf 3 (by omega) _ (hSB 3 (by omega)).2)
  rw [← e, show sqS (S.beginS 2) (opF3 A) 4 = (sqS (S.beginS 2) (opF3 A) 3).doS (sqO (S.beginS 2) (opF3 A) 3) 0 from sqS_next _ _ _]
  unfold sqr
  exact h2)
 have HD4 : Hid (∀ (bs : List (Nat × Obj)) (w' : World), Od lg F0 w0 w' b (sqS (S.beginS 2) (opF3 A) 4) bs → Calls Tryz.prog 44 #[.pointer (some ⟨b, 0, none⟩), .agg (opCs ⟨5, 0, sqr (S.beginS 2) (opF3 A) (3), sqr (S.beginS 2) (opF3 A) (1), -1, 0⟩), .int .u64 0] w' fun e w2 => e = .returned (.int .i64 (sqr (S.beginS 2) (opF3 A) 4)) ∧ Od lg F0 w0 w2 b (sqS (S.beginS 2) (opF3 A) 5) bs) := hid (fun bs w' h' => by
  have e : sqO (S.beginS 2) (opF3 A) 4 = ⟨5, 0, sqR (S.beginS 2) (opF3 A) 4 3, sqR (S.beginS 2) (opF3 A) 4 1, -1, 0⟩ := by
   unfold sqO
   generalize sqR (S.beginS 2) (opF3 A) 4 = r
   rfl
  rw [sqR_at _ _ (by omega : 3 < 4), sqR_at _ _ (by omega : 1 < 4)] at e
  have h2 := h'.do0 (sqO (S.beginS 2) (opF3 A) 4) (hSB 4 (by omega)).1 (by omega) (hwf 4 (by omega) _ (hSB 4 (by omega)).2)
  rw [← e, show sqS (S.beginS 2) (opF3 A) 5 = (sqS (S.beginS 2) (opF3 A) 4).doS (sqO (S.beginS 2) (opF3 A) 4) 0 from sqS_next _ _ _]
  unfold sqr
  exact h2)
 have HD5 : Hid (∀ (bs : List (Nat × Obj)) (w' : World), Od lg F0 w0 w' b (sqS (S.beginS 2) (opF3 A) 5) bs → Calls Tryz.prog 44 #[.pointer (some ⟨b, 0, none⟩), .agg (opCs ⟨5, 1, (A 1), sqr (S.beginS 2) (opF3 A) (0), -1, 0⟩), .int .u64 0] w' fun e w2 => e = .returned (.int .i64 (sqr (S.beginS 2) (opF3 A) 5)) ∧ Od lg F0 w0 w2 b (sqS (S.beginS 2) (opF3 A) 6) bs) := hid (fun bs w' h' => by
  have e : sqO (S.beginS 2) (opF3 A) 5 = ⟨5, 1, (A 1), sqR (S.beginS 2) (opF3 A) 5 0, -1, 0⟩ := by
   unfold sqO
   generalize sqR (S.beginS 2) (opF3 A) 5 = r
   rfl
  rw [sqR_at _ _ (by omega : 0 < 5)] at e
  have h2 := h'.do0 (sqO (S.beginS 2) (opF3 A) 5) (hSB 5 (by omega)).1 (by omega) (hwf 5 (by omega) _ (hSB 5 (by omega)).2)
  rw [← e, show sqS (S.beginS 2) (opF3 A) 6 = (sqS (S.beginS 2) (opF3 A) 5).doS (sqO (S.beginS 2) (opF3 A) 5) 0 from sqS_next _ _ _]
  unfold sqr
  exact h2)
 have HD6 : Hid (∀ (bs : List (Nat × Obj)) (w' : World), Od lg F0 w0 w' b (sqS (S.beginS 2) (opF3 A) 6) bs → Calls Tryz.prog 44 #[.pointer (some ⟨b, 0, none⟩), .agg (opCs ⟨5, 1, sqr (S.beginS 2) (opF3 A) (5), sqr (S.beginS 2) (opF3 A) (2), -1, 0⟩), .int .u64 0] w' fun e w2 => e = .returned (.int .i64 (sqr (S.beginS 2) (opF3 A) 6)) ∧ Od lg F0 w0 w2 b (sqS (S.beginS 2) (opF3 A) 7) bs) := hid (fun bs w' h' => by
  have e : sqO (S.beginS 2) (opF3 A) 6 = ⟨5, 1, sqR (S.beginS 2) (opF3 A) 6 5, sqR (S.beginS 2) (opF3 A) 6 2, -1, 0⟩ := by
   unfold sqO
   generalize sqR (S.beginS 2) (opF3 A) 6 = r
   rfl
  rw [sqR_at _ _ (by omega : 5 < 6), sqR_at _ _ (by omega : 2 < 6)] at e
  have h2 := h'.do0 (sqO (S.beginS 2) (opF3 A) 6) (hSB 6 (by omega)).1 (by omega) (hwf 6 (by omega) _ (hSB 6 (by omega)).2)
  rw [← e, show sqS (S.beginS 2) (opF3 A) 7 = (sqS (S.beginS 2) (opF3 A) 6).doS (sqO (S.beginS 2) (opF3 A) 6) 0 from sqS_next _ _ _]
  unfold sqr
  exact h2)
 have HD7 : Hid (∀ (bs : List (Nat × Obj)) (w' : World), Od lg F0 w0 w' b (sqS (S.beginS 2) (opF3 A) 7) bs → Calls Tryz.prog 44 #[.pointer (some ⟨b, 0, none⟩), .agg (opCs ⟨5, 2, (A 2), sqr (S.beginS 2) (opF3 A) (1), -1, 0⟩), .int .u64 0] w' fun e w2 => e = .returned (.int .i64 (sqr (S.beginS 2) (opF3 A) 7)) ∧ Od lg F0 w0 w2 b (sqS (S.beginS 2) (opF3 A) 8) bs) := hid (fun bs w' h' => by
  have e : sqO (S.beginS 2) (opF3 A) 7 = ⟨5, 2, (A 2), sqR (S.beginS 2) (opF3 A) 7 1, -1, 0⟩ := by
   unfold sqO
   generalize sqR (S.beginS 2) (opF3 A) 7 = r
   rfl
  rw [sqR_at _ _ (by omega : 1 < 7)] at e
  have h2 := h'.do0 (sqO (S.beginS 2) (opF3 A) 7) (hSB 7 (by omega)).1 (by omega) (hwf 7 (by omega) _ (hSB 7 (by omega)).2)
  rw [← e, show sqS (S.beginS 2) (opF3 A) 8 = (sqS (S.beginS 2) (opF3 A) 7).doS (sqO (S.beginS 2) (opF3 A) 7) 0 from sqS_next _ _ _]
  unfold sqr
  exact h2)
 have HD8 : Hid (∀ (bs : List (Nat × Obj)) (w' : World), Od lg F0 w0 w' b (sqS (S.beginS 2) (opF3 A) 8) bs → Calls Tryz.prog 44 #[.pointer (some ⟨b, 0, none⟩), .agg (opCs ⟨5, 2, sqr (S.beginS 2) (opF3 A) (7), sqr (S.beginS 2) (opF3 A) (2), -1, 0⟩), .int .u64 0] w' fun e w2 => e = .returned (.int .i64 (sqr (S.beginS 2) (opF3 A) 8)) ∧ Od lg F0 w0 w2 b (sqS (S.beginS 2) (opF3 A) 9) bs) := hid (fun bs w' h' => by
  have e : sqO (S.beginS 2) (opF3 A) 8 = ⟨5, 2, sqR (S.beginS 2) (opF3 A) 8 7, sqR (S.beginS 2) (opF3 A) 8 2, -1, 0⟩ := by
   unfold sqO
   generalize sqR (S.beginS 2) (opF3 A) 8 = r
   rfl
  rw [sqR_at _ _ (by omega : 7 < 8), sqR_at _ _ (by omega : 2 < 8)] at e
  have h2 := h'.do0 (sqO (S.beginS 2) (opF3 A) 8) (hSB 8 (by omega)).1 (by omega) (hwf 8 (by omega) _ (hSB 8 (by omega)).2)
  rw [← e, show sqS (S.beginS 2) (opF3 A) 9 = (sqS (S.beginS 2) (opF3 A) 8).doS (sqO (S.beginS 2) (opF3 A) 8) 0 from sqS_next _ _ _]
  unfold sqr
  exact h2)
 have HEN : Hid (∀ (bs : List (Nat × Obj)) (w' : World), Od lg F0 w0 w' b (sqS (S.beginS 2) (opF3 A) 9) bs → Calls Tryz.prog 78 #[.pointer (some ⟨b, 0, none⟩)] w' fun e w2 => e = .returned (.tuple #[]) ∧ Od lg F0 w0 w2 b (frS S false A) bs) := hid (fun bs w' h' => by
  rw [show frS S false A = (sqS (S.beginS 2) (opF3 A) 9).endS from by unfold frS frO frM blkS; rw [if_pos hn, if_pos hn, if_neg (by decide), if_neg (by decide)]]
  exact h'.ends (hSB 9 (by omega)).1 (by omega))
 have HNN : Hid (∀ (j : Nat) (bs : List (Nat × Obj)) (w' : World), Od lg F0 w0 w' b (sqS (S.beginS 2) (opF3 A) j) bs → w'.cell? ⟨b, 0, none⟩ = some (.int .i64 3)) := hid (fun j bs w' h' => by have := h'.n; rw [sqS_n, hn] at this; exact this)
 have HN0 : Hid (∀ (bs : List (Nat × Obj)) (w' : World), Od lg F0 w0 w' b S bs → w'.cell? ⟨b, 0, none⟩ = some (.int .i64 3)) := hid (fun bs w' h' => by have := h'.n; rw [hn] at this; exact this)
 have HR : Hid (frR S false A = reg3 (sqr (S.beginS 2) (opF3 A) 4) (sqr (S.beginS 2) (opF3 A) 6) (sqr (S.beginS 2) (opF3 A) 8)) := hid (by unfold frR; rw [if_pos hn, if_neg (by decide)])
 obtain ⟨w1, hw1⟩ : ∃ w1, (w.alloc (.cells (wdV A) 37)).alloc (.cells #[.int .i64 0, .int .i64 0, .int .i64 0] 37) = w1 := ⟨_, rfl⟩
 have H1 : Hid (Od lg F0 w0 w1 b S [(w.heap.size + 1, Obj.cells #[.int .i64 0, .int .i64 0, .int .i64 0] 37 (0, 0)), (w.heap.size, Obj.cells (wdV A) 37 (0, 0))]) := hid (by
  have := (h.new (wdV A) 37).new #[.int .i64 0, .int .i64 0, .int .i64 0] 37
  rw [hw1] at this
  simp only [sz_al] at this
  exact this)
 have HW := hid hw1
 clear h hq hk hn hA hB hwf hSB hw1
 rw [HR.out]
 clear HR
 generalize frS S false A = S3 at *
 generalize sqr (S.beginS 2) (opF3 A) 0 = rg0 at *
 generalize sqr (S.beginS 2) (opF3 A) 1 = rg1 at *
 generalize sqr (S.beginS 2) (opF3 A) 2 = rg2 at *
 generalize sqr (S.beginS 2) (opF3 A) 3 = rg3 at *
 generalize sqr (S.beginS 2) (opF3 A) 4 = rg4 at *
 generalize sqr (S.beginS 2) (opF3 A) 5 = rg5 at *
 generalize sqr (S.beginS 2) (opF3 A) 6 = rg6 at *
 generalize sqr (S.beginS 2) (opF3 A) 7 = rg7 at *
 generalize sqr (S.beginS 2) (opF3 A) 8 = rg8 at *
 generalize S.beginS 2 = S2 at *
 go_enter Tryz.func49, Tryz.ntmps49
 go_upto_region 1 with fail
 rw [HW.out]
 go_upto_region 2 with (go_at_call 43; (with_reducible refine (none_any _).mono ?_); rintro e w2 ⟨rfl, hb⟩; have H2 := hid (H1.out.self hb); clear hb)
 have H3 := hid (H2.out.new (wdV none3) 37)
 obtain ⟨g5, hg5⟩ : ∃ g5, w2.heap.size = g5 := ⟨_, rfl⟩
 rw [hg5] at H3
 have H4 : Hid (Od lg F0 w0 (w2.alloc (.cells #[.int .i64 (none3 0), .int .i64 (none3 1), .int .i64 (none3 2)] 37)) b S [(g5, .cells #[.int .i64 (-1), .int .i64 (-1), .int .i64 (-1)] 37 (0, 0)), (w.heap.size + 1, Obj.cells #[.int .i64 0, .int .i64 0, .int .i64 0] 37 (0, 0)), (w.heap.size, Obj.cells (wdV A) 37 (0, 0))]) := H3
 generalize w2.alloc (.cells #[.int .i64 (none3 0), .int .i64 (none3 1), .int .i64 (none3 2)] 37) = w4 at *
 rw [hg5]
 clear hg5 H3 H2 H1
 go_upto_region 3 with (go_at_call 77; (with_reducible refine (HBG.out _ _ H4.out).mono ?_); rintro e v0 ⟨rfl, hb⟩; have G0 := hid hb; clear hb)
 have ca0 := row_c (i := 0) (u := .int .i64 (A 0)) (G0.out.bl 2 rfl) rfl
 have ca1 := row_c (i := 1) (u := .int .i64 (A 1)) (G0.out.bl 2 rfl) rfl
 have ca2 := row_c (i := 2) (u := .int .i64 (A 2)) (G0.out.bl 2 rfl) rfl
 have cb0 := row_c (i := 0) (u := .int .i64 (-1)) (G0.out.bl 0 rfl) rfl
 have fb0 := frozen_of_row v0 g5 0 _ _ (G0.out.bl 0 rfl)
 have cb1 := row_c (i := 1) (u := .int .i64 (-1)) (G0.out.bl 0 rfl) rfl
 have fb1 := frozen_of_row v0 g5 1 _ _ (G0.out.bl 0 rfl)
 have cb2 := row_c (i := 2) (u := .int .i64 (-1)) (G0.out.bl 0 rfl) rfl
 have fb2 := frozen_of_row v0 g5 2 _ _ (G0.out.bl 0 rfl)
 have cn := HNN.out 0 _ _ G0.out
 go_upto_region 4 with (first
  | (go_at_call 45; (with_reducible refine (dop0_any 1 (-1) (-1) (-1) _).mono ?_); rintro e y0 ⟨rfl, hb⟩; have Y0 := hid (G0.out.self hb); clear hb)
  | (go_at_call 44; (with_reducible refine (HD0.out _ _ Y0.out).mono ?_); rintro e v1 ⟨rfl, hb⟩; have G1 := hid hb; clear hb; clear ca0 ca1 ca2 cb0 cb1 cb2 fb0 fb1 fb2 cn; have ca0 := row_c (i := 0) (u := .int .i64 (A 0)) (G1.out.bl 2 rfl) rfl; have ca1 := row_c (i := 1) (u := .int .i64 (A 1)) (G1.out.bl 2 rfl) rfl; have ca2 := row_c (i := 2) (u := .int .i64 (A 2)) (G1.out.bl 2 rfl) rfl; have cb0 := row_c (i := 0) (u := .int .i64 (-1)) (G1.out.bl 0 rfl) rfl; have fb0 := frozen_of_row v1 g5 0 _ _ (G1.out.bl 0 rfl); have cb1 := row_c (i := 1) (u := .int .i64 (-1)) (G1.out.bl 0 rfl) rfl; have fb1 := frozen_of_row v1 g5 1 _ _ (G1.out.bl 0 rfl); have cb2 := row_c (i := 2) (u := .int .i64 (-1)) (G1.out.bl 0 rfl) rfl; have fb2 := frozen_of_row v1 g5 2 _ _ (G1.out.bl 0 rfl); have cn := HNN.out 1 _ _ G1.out))
 go_upto_region 6 with fail
 go_upto_region 7 with (first
  | (go_at_call 45; (with_reducible refine (dop0_any 1 (-1) (-1) (-1) _).mono ?_); rintro e y1 ⟨rfl, hb⟩; have Y1 := hid (G1.out.self hb); clear hb)
  | (go_at_call 44; (with_reducible refine (HD1.out _ _ Y1.out).mono ?_); rintro e v2 ⟨rfl, hb⟩; have G2 := hid hb; clear hb; clear ca0 ca1 ca2 cb0 cb1 cb2 fb0 fb1 fb2 cn; have ca0 := row_c (i := 0) (u := .int .i64 (A 0)) (G2.out.bl 2 rfl) rfl; have ca1 := row_c (i := 1) (u := .int .i64 (A 1)) (G2.out.bl 2 rfl) rfl; have ca2 := row_c (i := 2) (u := .int .i64 (A 2)) (G2.out.bl 2 rfl) rfl; have cb0 := row_c (i := 0) (u := .int .i64 (-1)) (G2.out.bl 0 rfl) rfl; have fb0 := frozen_of_row v2 g5 0 _ _ (G2.out.bl 0 rfl); have cb1 := row_c (i := 1) (u := .int .i64 (-1)) (G2.out.bl 0 rfl) rfl; have fb1 := frozen_of_row v2 g5 1 _ _ (G2.out.bl 0 rfl); have cb2 := row_c (i := 2) (u := .int .i64 (-1)) (G2.out.bl 0 rfl) rfl; have fb2 := frozen_of_row v2 g5 2 _ _ (G2.out.bl 0 rfl); have cn := HNN.out 2 _ _ G2.out))
 go_upto_region 8 with (first
  | (go_at_call 45; (with_reducible refine (dop0_any 1 (-1) (-1) (-1) _).mono ?_); rintro e y2 ⟨rfl, hb⟩; have Y2 := hid (G2.out.self hb); clear hb)
  | (go_at_call 44; (with_reducible refine (HD2.out _ _ Y2.out).mono ?_); rintro e v3 ⟨rfl, hb⟩; have G3 := hid hb; clear hb; clear ca0 ca1 ca2 cb0 cb1 cb2 fb0 fb1 fb2 cn; have ca0 := row_c (i := 0) (u := .int .i64 (A 0)) (G3.out.bl 2 rfl) rfl; have ca1 := row_c (i := 1) (u := .int .i64 (A 1)) (G3.out.bl 2 rfl) rfl; have ca2 := row_c (i := 2) (u := .int .i64 (A 2)) (G3.out.bl 2 rfl) rfl; have cb0 := row_c (i := 0) (u := .int .i64 (-1)) (G3.out.bl 0 rfl) rfl; have fb0 := frozen_of_row v3 g5 0 _ _ (G3.out.bl 0 rfl); have cb1 := row_c (i := 1) (u := .int .i64 (-1)) (G3.out.bl 0 rfl) rfl; have fb1 := frozen_of_row v3 g5 1 _ _ (G3.out.bl 0 rfl); have cb2 := row_c (i := 2) (u := .int .i64 (-1)) (G3.out.bl 0 rfl) rfl; have fb2 := frozen_of_row v3 g5 2 _ _ (G3.out.bl 0 rfl); have cn := HNN.out 3 _ _ G3.out))
 go_upto_region 9 with (first
  | (go_at_call 45; (with_reducible refine (dop0_any 5 0 (A 0) rg0 _).mono ?_); rintro e y3 ⟨rfl, hb⟩; have Y3 := hid (G3.out.self hb); clear hb)
  | (go_at_call 44; (with_reducible refine (HD3.out _ _ Y3.out).mono ?_); rintro e v4 ⟨rfl, hb⟩; have G4 := hid hb; clear hb; clear ca0 ca1 ca2 cb0 cb1 cb2 fb0 fb1 fb2 cn; have ca0 := row_c (i := 0) (u := .int .i64 (A 0)) (G4.out.bl 2 rfl) rfl; have ca1 := row_c (i := 1) (u := .int .i64 (A 1)) (G4.out.bl 2 rfl) rfl; have ca2 := row_c (i := 2) (u := .int .i64 (A 2)) (G4.out.bl 2 rfl) rfl; have cb0 := row_c (i := 0) (u := .int .i64 (-1)) (G4.out.bl 0 rfl) rfl; have fb0 := frozen_of_row v4 g5 0 _ _ (G4.out.bl 0 rfl); have cb1 := row_c (i := 1) (u := .int .i64 (-1)) (G4.out.bl 0 rfl) rfl; have fb1 := frozen_of_row v4 g5 1 _ _ (G4.out.bl 0 rfl); have cb2 := row_c (i := 2) (u := .int .i64 (-1)) (G4.out.bl 0 rfl) rfl; have fb2 := frozen_of_row v4 g5 2 _ _ (G4.out.bl 0 rfl); have cn := HNN.out 4 _ _ G4.out))
 have K4 : Hid (Od lg F0 w0 (v4.setCell ⟨g5, 0, none⟩ (.int .i64 rg3)) b (sqS S2 (opF3 A) 4) [(g5, .cells #[.int .i64 rg3, .int .i64 (-1), .int .i64 (-1)] 37 (0, 0)), (w.heap.size + 1, Obj.cells #[.int .i64 0, .int .i64 0, .int .i64 0] 37 (0, 0)), (w.heap.size, Obj.cells (wdV A) 37 (0, 0))]) := hid (G4.out.cell 0 (.int .i64 rg3))
 generalize v4.setCell ⟨g5, 0, none⟩ (.int .i64 rg3) = x4 at *
 clear ca0 ca1 ca2 cb0 cb1 cb2 fb0 fb1 fb2 cn
 have ca0 := row_c (i := 0) (u := .int .i64 (A 0)) (K4.out.bl 2 rfl) rfl
 have ca1 := row_c (i := 1) (u := .int .i64 (A 1)) (K4.out.bl 2 rfl) rfl
 have ca2 := row_c (i := 2) (u := .int .i64 (A 2)) (K4.out.bl 2 rfl) rfl
 have cb0 := row_c (i := 0) (u := .int .i64 rg3) (K4.out.bl 0 rfl) rfl
 have fb0 := frozen_of_row x4 g5 0 _ _ (K4.out.bl 0 rfl)
 have cb1 := row_c (i := 1) (u := .int .i64 (-1)) (K4.out.bl 0 rfl) rfl
 have fb1 := frozen_of_row x4 g5 1 _ _ (K4.out.bl 0 rfl)
 have cb2 := row_c (i := 2) (u := .int .i64 (-1)) (K4.out.bl 0 rfl) rfl
 have fb2 := frozen_of_row x4 g5 2 _ _ (K4.out.bl 0 rfl)
 have cn := HNN.out 4 _ _ K4.out
 go_upto_region 10 with fail
 go_upto_region 11 with (first
  | (go_at_call 45; (with_reducible refine (dop0_any 5 0 rg3 rg1 _).mono ?_); rintro e y4 ⟨rfl, hb⟩; have Y4 := hid (K4.out.self hb); clear hb)
  | (go_at_call 44; (with_reducible refine (HD4.out _ _ Y4.out).mono ?_); rintro e v5 ⟨rfl, hb⟩; have G5 := hid hb; clear hb; clear ca0 ca1 ca2 cb0 cb1 cb2 fb0 fb1 fb2 cn; have ca0 := row_c (i := 0) (u := .int .i64 (A 0)) (G5.out.bl 2 rfl) rfl; have ca1 := row_c (i := 1) (u := .int .i64 (A 1)) (G5.out.bl 2 rfl) rfl; have ca2 := row_c (i := 2) (u := .int .i64 (A 2)) (G5.out.bl 2 rfl) rfl; have cb0 := row_c (i := 0) (u := .int .i64 rg3) (G5.out.bl 0 rfl) rfl; have fb0 := frozen_of_row v5 g5 0 _ _ (G5.out.bl 0 rfl); have cb1 := row_c (i := 1) (u := .int .i64 (-1)) (G5.out.bl 0 rfl) rfl; have fb1 := frozen_of_row v5 g5 1 _ _ (G5.out.bl 0 rfl); have cb2 := row_c (i := 2) (u := .int .i64 (-1)) (G5.out.bl 0 rfl) rfl; have fb2 := frozen_of_row v5 g5 2 _ _ (G5.out.bl 0 rfl); have cn := HNN.out 5 _ _ G5.out))
 have K5 : Hid (Od lg F0 w0 (v5.setCell ⟨g5, 0, none⟩ (.int .i64 rg4)) b (sqS S2 (opF3 A) 5) [(g5, .cells #[.int .i64 rg4, .int .i64 (-1), .int .i64 (-1)] 37 (0, 0)), (w.heap.size + 1, Obj.cells #[.int .i64 0, .int .i64 0, .int .i64 0] 37 (0, 0)), (w.heap.size, Obj.cells (wdV A) 37 (0, 0))]) := hid (G5.out.cell 0 (.int .i64 rg4))
 generalize v5.setCell ⟨g5, 0, none⟩ (.int .i64 rg4) = x5 at *
 clear ca0 ca1 ca2 cb0 cb1 cb2 fb0 fb1 fb2 cn
 have ca0 := row_c (i := 0) (u := .int .i64 (A 0)) (K5.out.bl 2 rfl) rfl
 have ca1 := row_c (i := 1) (u := .int .i64 (A 1)) (K5.out.bl 2 rfl) rfl
 have ca2 := row_c (i := 2) (u := .int .i64 (A 2)) (K5.out.bl 2 rfl) rfl
 have cb0 := row_c (i := 0) (u := .int .i64 rg4) (K5.out.bl 0 rfl) rfl
 have fb0 := frozen_of_row x5 g5 0 _ _ (K5.out.bl 0 rfl)
 have cb1 := row_c (i := 1) (u := .int .i64 (-1)) (K5.out.bl 0 rfl) rfl
 have fb1 := frozen_of_row x5 g5 1 _ _ (K5.out.bl 0 rfl)
 have cb2 := row_c (i := 2) (u := .int .i64 (-1)) (K5.out.bl 0 rfl) rfl
 have fb2 := frozen_of_row x5 g5 2 _ _ (K5.out.bl 0 rfl)
 have cn := HNN.out 5 _ _ K5.out
 go_upto_region 12 with (first
  | (go_at_call 45; (with_reducible refine (dop0_any 5 1 (A 1) rg0 _).mono ?_); rintro e y5 ⟨rfl, hb⟩; have Y5 := hid (K5.out.self hb); clear hb)
  | (go_at_call 44; (with_reducible refine (HD5.out _ _ Y5.out).mono ?_); rintro e v6 ⟨rfl, hb⟩; have G6 := hid hb; clear hb; clear ca0 ca1 ca2 cb0 cb1 cb2 fb0 fb1 fb2 cn; have ca0 := row_c (i := 0) (u := .int .i64 (A 0)) (G6.out.bl 2 rfl) rfl; have ca1 := row_c (i := 1) (u := .int .i64 (A 1)) (G6.out.bl 2 rfl) rfl; have ca2 := row_c (i := 2) (u := .int .i64 (A 2)) (G6.out.bl 2 rfl) rfl; have cb0 := row_c (i := 0) (u := .int .i64 rg4) (G6.out.bl 0 rfl) rfl; have fb0 := frozen_of_row v6 g5 0 _ _ (G6.out.bl 0 rfl); have cb1 := row_c (i := 1) (u := .int .i64 (-1)) (G6.out.bl 0 rfl) rfl; have fb1 := frozen_of_row v6 g5 1 _ _ (G6.out.bl 0 rfl); have cb2 := row_c (i := 2) (u := .int .i64 (-1)) (G6.out.bl 0 rfl) rfl; have fb2 := frozen_of_row v6 g5 2 _ _ (G6.out.bl 0 rfl); have cn := HNN.out 6 _ _ G6.out))
 have K6 : Hid (Od lg F0 w0 (v6.setCell ⟨g5, 1, none⟩ (.int .i64 rg5)) b (sqS S2 (opF3 A) 6) [(g5, .cells #[.int .i64 rg4, .int .i64 rg5, .int .i64 (-1)] 37 (0, 0)), (w.heap.size + 1, Obj.cells #[.int .i64 0, .int .i64 0, .int .i64 0] 37 (0, 0)), (w.heap.size, Obj.cells (wdV A) 37 (0, 0))]) := hid (G6.out.cell 1 (.int .i64 rg5))
 generalize v6.setCell ⟨g5, 1, none⟩ (.int .i64 rg5) = x6 at *
 clear ca0 ca1 ca2 cb0 cb1 cb2 fb0 fb1 fb2 cn
 have ca0 := row_c (i := 0) (u := .int .i64 (A 0)) (K6.out.bl 2 rfl) rfl
 have ca1 := row_c (i := 1) (u := .int .i64 (A 1)) (K6.out.bl 2 rfl) rfl
 have ca2 := row_c (i := 2) (u := .int .i64 (A 2)) (K6.out.bl 2 rfl) rfl
 have cb0 := row_c (i := 0) (u := .int .i64 rg4) (K6.out.bl 0 rfl) rfl
 have fb0 := frozen_of_row x6 g5 0 _ _ (K6.out.bl 0 rfl)
 have cb1 := row_c (i := 1) (u := .int .i64 rg5) (K6.out.bl 0 rfl) rfl
 have fb1 := frozen_of_row x6 g5 1 _ _ (K6.out.bl 0 rfl)
 have cb2 := row_c (i := 2) (u := .int .i64 (-1)) (K6.out.bl 0 rfl) rfl
 have fb2 := frozen_of_row x6 g5 2 _ _ (K6.out.bl 0 rfl)
 have cn := HNN.out 6 _ _ K6.out
 go_upto_region 13 with fail
 go_upto_region 14 with (first
  | (go_at_call 45; (with_reducible refine (dop0_any 5 1 rg5 rg2 _).mono ?_); rintro e y6 ⟨rfl, hb⟩; have Y6 := hid (K6.out.self hb); clear hb)
  | (go_at_call 44; (with_reducible refine (HD6.out _ _ Y6.out).mono ?_); rintro e v7 ⟨rfl, hb⟩; have G7 := hid hb; clear hb; clear ca0 ca1 ca2 cb0 cb1 cb2 fb0 fb1 fb2 cn; have ca0 := row_c (i := 0) (u := .int .i64 (A 0)) (G7.out.bl 2 rfl) rfl; have ca1 := row_c (i := 1) (u := .int .i64 (A 1)) (G7.out.bl 2 rfl) rfl; have ca2 := row_c (i := 2) (u := .int .i64 (A 2)) (G7.out.bl 2 rfl) rfl; have cb0 := row_c (i := 0) (u := .int .i64 rg4) (G7.out.bl 0 rfl) rfl; have fb0 := frozen_of_row v7 g5 0 _ _ (G7.out.bl 0 rfl); have cb1 := row_c (i := 1) (u := .int .i64 rg5) (G7.out.bl 0 rfl) rfl; have fb1 := frozen_of_row v7 g5 1 _ _ (G7.out.bl 0 rfl); have cb2 := row_c (i := 2) (u := .int .i64 (-1)) (G7.out.bl 0 rfl) rfl; have fb2 := frozen_of_row v7 g5 2 _ _ (G7.out.bl 0 rfl); have cn := HNN.out 7 _ _ G7.out))
 have K7 : Hid (Od lg F0 w0 (v7.setCell ⟨g5, 1, none⟩ (.int .i64 rg6)) b (sqS S2 (opF3 A) 7) [(g5, .cells #[.int .i64 rg4, .int .i64 rg6, .int .i64 (-1)] 37 (0, 0)), (w.heap.size + 1, Obj.cells #[.int .i64 0, .int .i64 0, .int .i64 0] 37 (0, 0)), (w.heap.size, Obj.cells (wdV A) 37 (0, 0))]) := hid (G7.out.cell 1 (.int .i64 rg6))
 generalize v7.setCell ⟨g5, 1, none⟩ (.int .i64 rg6) = x7 at *
 clear ca0 ca1 ca2 cb0 cb1 cb2 fb0 fb1 fb2 cn
 have ca0 := row_c (i := 0) (u := .int .i64 (A 0)) (K7.out.bl 2 rfl) rfl
 have ca1 := row_c (i := 1) (u := .int .i64 (A 1)) (K7.out.bl 2 rfl) rfl
 have ca2 := row_c (i := 2) (u := .int .i64 (A 2)) (K7.out.bl 2 rfl) rfl
 have cb0 := row_c (i := 0) (u := .int .i64 rg4) (K7.out.bl 0 rfl) rfl
 have fb0 := frozen_of_row x7 g5 0 _ _ (K7.out.bl 0 rfl)
 have cb1 := row_c (i := 1) (u := .int .i64 rg6) (K7.out.bl 0 rfl) rfl
 have fb1 := frozen_of_row x7 g5 1 _ _ (K7.out.bl 0 rfl)
 have cb2 := row_c (i := 2) (u := .int .i64 (-1)) (K7.out.bl 0 rfl) rfl
 have fb2 := frozen_of_row x7 g5 2 _ _ (K7.out.bl 0 rfl)
 have cn := HNN.out 7 _ _ K7.out
 go_upto_region 15 with (first
  | (go_at_call 45; (with_reducible refine (dop0_any 5 2 (A 2) rg1 _).mono ?_); rintro e y7 ⟨rfl, hb⟩; have Y7 := hid (K7.out.self hb); clear hb)
  | (go_at_call 44; (with_reducible refine (HD7.out _ _ Y7.out).mono ?_); rintro e v8 ⟨rfl, hb⟩; have G8 := hid hb; clear hb; clear ca0 ca1 ca2 cb0 cb1 cb2 fb0 fb1 fb2 cn; have ca0 := row_c (i := 0) (u := .int .i64 (A 0)) (G8.out.bl 2 rfl) rfl; have ca1 := row_c (i := 1) (u := .int .i64 (A 1)) (G8.out.bl 2 rfl) rfl; have ca2 := row_c (i := 2) (u := .int .i64 (A 2)) (G8.out.bl 2 rfl) rfl; have cb0 := row_c (i := 0) (u := .int .i64 rg4) (G8.out.bl 0 rfl) rfl; have fb0 := frozen_of_row v8 g5 0 _ _ (G8.out.bl 0 rfl); have cb1 := row_c (i := 1) (u := .int .i64 rg6) (G8.out.bl 0 rfl) rfl; have fb1 := frozen_of_row v8 g5 1 _ _ (G8.out.bl 0 rfl); have cb2 := row_c (i := 2) (u := .int .i64 (-1)) (G8.out.bl 0 rfl) rfl; have fb2 := frozen_of_row v8 g5 2 _ _ (G8.out.bl 0 rfl); have cn := HNN.out 8 _ _ G8.out))
 have K8 : Hid (Od lg F0 w0 (v8.setCell ⟨g5, 2, none⟩ (.int .i64 rg7)) b (sqS S2 (opF3 A) 8) [(g5, .cells #[.int .i64 rg4, .int .i64 rg6, .int .i64 rg7] 37 (0, 0)), (w.heap.size + 1, Obj.cells #[.int .i64 0, .int .i64 0, .int .i64 0] 37 (0, 0)), (w.heap.size, Obj.cells (wdV A) 37 (0, 0))]) := hid (G8.out.cell 2 (.int .i64 rg7))
 generalize v8.setCell ⟨g5, 2, none⟩ (.int .i64 rg7) = x8 at *
 clear ca0 ca1 ca2 cb0 cb1 cb2 fb0 fb1 fb2 cn
 have ca0 := row_c (i := 0) (u := .int .i64 (A 0)) (K8.out.bl 2 rfl) rfl
 have ca1 := row_c (i := 1) (u := .int .i64 (A 1)) (K8.out.bl 2 rfl) rfl
 have ca2 := row_c (i := 2) (u := .int .i64 (A 2)) (K8.out.bl 2 rfl) rfl
 have cb0 := row_c (i := 0) (u := .int .i64 rg4) (K8.out.bl 0 rfl) rfl
 have fb0 := frozen_of_row x8 g5 0 _ _ (K8.out.bl 0 rfl)
 have cb1 := row_c (i := 1) (u := .int .i64 rg6) (K8.out.bl 0 rfl) rfl
 have fb1 := frozen_of_row x8 g5 1 _ _ (K8.out.bl 0 rfl)
 have cb2 := row_c (i := 2) (u := .int .i64 rg7) (K8.out.bl 0 rfl) rfl
 have fb2 := frozen_of_row x8 g5 2 _ _ (K8.out.bl 0 rfl)
 have cn := HNN.out 8 _ _ K8.out
 go_upto_region 16 with (first
  | (go_at_call 45; (with_reducible refine (dop0_any 5 2 rg7 rg2 _).mono ?_); rintro e y8 ⟨rfl, hb⟩; have Y8 := hid (K8.out.self hb); clear hb)
  | (go_at_call 44; (with_reducible refine (HD8.out _ _ Y8.out).mono ?_); rintro e v9 ⟨rfl, hb⟩; have G9 := hid hb; clear hb; clear ca0 ca1 ca2 cb0 cb1 cb2 fb0 fb1 fb2 cn; have ca0 := row_c (i := 0) (u := .int .i64 (A 0)) (G9.out.bl 2 rfl) rfl; have ca1 := row_c (i := 1) (u := .int .i64 (A 1)) (G9.out.bl 2 rfl) rfl; have ca2 := row_c (i := 2) (u := .int .i64 (A 2)) (G9.out.bl 2 rfl) rfl; have cb0 := row_c (i := 0) (u := .int .i64 rg4) (G9.out.bl 0 rfl) rfl; have fb0 := frozen_of_row v9 g5 0 _ _ (G9.out.bl 0 rfl); have cb1 := row_c (i := 1) (u := .int .i64 rg6) (G9.out.bl 0 rfl) rfl; have fb1 := frozen_of_row v9 g5 1 _ _ (G9.out.bl 0 rfl); have cb2 := row_c (i := 2) (u := .int .i64 rg7) (G9.out.bl 0 rfl) rfl; have fb2 := frozen_of_row v9 g5 2 _ _ (G9.out.bl 0 rfl); have cn := HNN.out 9 _ _ G9.out))
 have K9 : Hid (Od lg F0 w0 (v9.setCell ⟨g5, 2, none⟩ (.int .i64 rg8)) b (sqS S2 (opF3 A) 9) [(g5, .cells #[.int .i64 rg4, .int .i64 rg6, .int .i64 rg8] 37 (0, 0)), (w.heap.size + 1, Obj.cells #[.int .i64 0, .int .i64 0, .int .i64 0] 37 (0, 0)), (w.heap.size, Obj.cells (wdV A) 37 (0, 0))]) := hid (G9.out.cell 2 (.int .i64 rg8))
 generalize v9.setCell ⟨g5, 2, none⟩ (.int .i64 rg8) = x9 at *
 clear ca0 ca1 ca2 cb0 cb1 cb2 fb0 fb1 fb2 cn
 have ca0 := row_c (i := 0) (u := .int .i64 (A 0)) (K9.out.bl 2 rfl) rfl
 have ca1 := row_c (i := 1) (u := .int .i64 (A 1)) (K9.out.bl 2 rfl) rfl
 have ca2 := row_c (i := 2) (u := .int .i64 (A 2)) (K9.out.bl 2 rfl) rfl
 have cb0 := row_c (i := 0) (u := .int .i64 rg4) (K9.out.bl 0 rfl) rfl
 have fb0 := frozen_of_row x9 g5 0 _ _ (K9.out.bl 0 rfl)
 have cb1 := row_c (i := 1) (u := .int .i64 rg6) (K9.out.bl 0 rfl) rfl
 have fb1 := frozen_of_row x9 g5 1 _ _ (K9.out.bl 0 rfl)
 have cb2 := row_c (i := 2) (u := .int .i64 rg8) (K9.out.bl 0 rfl) rfl
 have fb2 := frozen_of_row x9 g5 2 _ _ (K9.out.bl 0 rfl)
 have cn := HNN.out 9 _ _ K9.out
 go_upto_region 17 with (go_at_call 78; (with_reducible refine (HEN.out _ _ K9.out).mono ?_); rintro e z1 ⟨rfl, hb⟩; have Z1 := hid hb; clear hb; clear ca0 ca1 ca2 cb0 cb1 cb2 fb0 fb1 fb2 cn)
 go_wp2_with (first
  | (refine step_load_row rfl 37 _ rfl g5 37 (#[.int .i64 rg4, .int .i64 rg6, .int .i64 rg8]) _ rfl (Z1.out.bl 0 rfl) Tryz.underlying37 rfl (by kernel_rfl) ?_)
  | (refine step_store_row rfl 37 _ _ rfl (w.heap.size + 1) 37 _ (#[.int .i64 rg4, .int .i64 rg6, .int .i64 rg8]) rfl rfl (Z1.out.bl 1 rfl) (by kernel_rfl) rfl (by kernel_rfl) ?_))
 have Z2 := hid (Z1.out.swap.row (#[.int .i64 rg4, .int .i64 rg6, .int .i64 rg8]))
 exact bodyPost_ret (results_cell_row (by rfl) _ _ (w.heap.size + 1) 37 (#[.int .i64 rg4, .int .i64 rg6, .int .i64 rg8]) (0, 0) _ rfl (Z2.out.bl 0 rfl) Tryz.underlying37 rfl (by kernel_rfl)) rfl ⟨rfl, Z2.out.drop.drop.drop⟩
theorem dfull_any {lg : LoG} {F0 : Nat → Prop} {w0 w : World} {b k : Nat} {S : Ms} (A : Nat → Int) (h : Od lg F0 w0 w b S []) (hq : Bq k S) (hk : k + 20 ≤ 100000) (hn : S.n = 2 ∨ S.n = 3) (hA : Wb A) :
  Calls Tryz.prog 49 #[.pointer (some ⟨b, 0, none⟩), .agg (wdV A)] w fun e w' => e = .returned (.agg (wdV (frR S false A))) ∧ Od lg F0 w0 w' b (frS S false A) [] := hn.elim (fun e => dfull2 A h hq hk e hA) (fun e => dfull3 A h hq hk e hA)
end Go.Proofs.YthkijncnndoafaaGreatDoor
