import Derived.Test.YthkijncnndoafaaGreatDoorTmi
import Derived.Test.YthkijncnndoafaaGreatDoorShy
import Derived.Test.YthkijncnndoafaaGreatDoorWlm
namespace Go.Proofs.YthkijncnndoafaaGreatDoor
open Go.RowKit
set_option maxRecDepth 100000
theorem i64K10 : I64 10 := i64k 10 (by decide) (by decide)
set_option maxHeartbeats 6400000 in
theorem yand {Pm : World → Nat → Ms → (Nat → Prop) → Prop} (hM : Mach Pm) {lo : Nat} {X : Nat → Prop} {W w : World} {b bd k : Nat} {S S2 : Ms} (K : Int) (A B : Nat → Int) (h : Bz Pm lo X W w bd b S2 S) (hq : Bq k S) (hk : k + 60 ≤ 100000) (hn : S.n = 2 ∨ S.n = 3) (_ : I64 K) (hA : Wb A) (hB : Wb B) :
  Calls Tryz.prog 14 #[.pointer (some ⟨b, 0, none⟩), .int .i64 K, .agg (wdV A), .agg (wdV B)] w fun e w' => e = .returned (.agg (wdV (baR S (isDom K) A B))) ∧ Bz Pm lo X W w' bd b S2 (baS S (isDom K) A B) ∧ ∀ k, X k → w'.heap[k]? = w.heap[k]? := by
 have HC1 : Hid (∀ (bs : List (Nat × Obj)) (w' : World), Gy Pm lo X w w w' bd b S2 S bs → Calls Tryz.prog 49 #[.pointer (some ⟨b, 0, none⟩), .agg (wdV B)] w' fun e w2 => e = .returned (.agg (wdV (frR S false B))) ∧ Gy Pm lo X w w w2 bd b S2 (frS S false B) bs) := hid (fun bs w' h' => h'.lift (fun _ _ hz => yfull hM B hz hq (by omega) hn hB))
 have HC2 : Hid (∀ (bs : List (Nat × Obj)) (w' : World), Gy Pm lo X w w w' bd b S2 (frS S false B) bs → Calls Tryz.prog 48 #[.pointer (some ⟨b, 0, none⟩), .int .i64 K, .agg (wdV A), .agg (wdV (frR S false B))] w' fun e w2 => e = .returned (.agg (wdV (baR S (isDom K) A B))) ∧ Gy Pm lo X w w w2 bd b S2 (baS S (isDom K) A B) bs) := hid (fun bs w' h' => h'.lift (fun _ _ hz => yby hM K A (frR S false B) hz (frS_bq hq (by omega) hB) (by omega) (by rw [(frS_ext S false B).n]; exact hn) hA (frR_wb hq (by omega) hB)))
 have HLOW : Hid (Below lo W w) := hid h.low
 obtain ⟨w1, hw1⟩ : ∃ w1, (((w).alloc (.cells (wdV A) 37)).alloc (.cells (wdV B) 37)).alloc (.cells #[.int .i64 0, .int .i64 0, .int .i64 0] 37) = w1 := ⟨_, rfl⟩
 have H1 : Hid (Gy Pm lo X w w w1 bd b S2 S [(w.heap.size + 2, Obj.cells #[.int .i64 0, .int .i64 0, .int .i64 0] 37 (0, 0)), (w.heap.size + 1, Obj.cells (wdV B) 37 (0, 0)), (w.heap.size, Obj.cells (wdV A) 37 (0, 0))]) := hid (by
  have := ((((Gy.start h.base).new hM (wdV A) 37).new hM (wdV B) 37).new hM #[.int .i64 0, .int .i64 0, .int .i64 0] 37)
  rw [hw1] at this
  simp only [sz_al] at this
  exact this)
 have HW := hid hw1
 clear hA hB h hq hk hn hw1
 generalize baS S (isDom K) A B = S9 at *
 generalize baR S (isDom K) A B = R9 at *
 generalize frS S false B = T1 at *
 generalize frR S false B = R1 at *
 go_enter Tryz.func14, Tryz.ntmps14
 go_upto_region 1 with fail
 rw [HW.out]
 have G0 := hid (H1.out.self hM ((Below.refl _ w1).drew))
 refine wp_region_noPanic ?_
 refine wp_region_held_drew (S := fun w' => w'.heap[w.heap.size]? = some (.cells (wdV A) 37 (0, 0)) ∧ w'.heap[w.heap.size + 1]? = some (.cells (wdV B) 37 (0, 0))) (by kernel_rfl) (⟨G0.out.bl 2 rfl, G0.out.bl 1 rfl⟩) (fun h0 => ?_)
 generalize w1.drew = y0 at *
 refine tK 0 (.pointer (some ⟨b, 0, none⟩)) rfl (.inl ⟨by rfl, fun w hw => by clear hw; go_simp⟩) h0 ?_
 try simp only [Act.put, lay_out]
 refine tK 1 (.int .i64 K) rfl (.inl ⟨by rfl, fun w hw => by clear hw; go_simp⟩) h0 ?_
 try simp only [Act.put, lay_out]
 refine tK 2 (.agg (wdV A)) rfl (yields_load_row (by rfl) 37 _ rfl (w.heap.size) 37 (wdV A) _ rfl (fun w hw => hw.1) Tryz.underlying37 rfl (by kernel_rfl)) h0 ?_
 try simp only [Act.put, lay_out]
 refine tK 3 (.pointer (some ⟨b, 0, none⟩)) rfl (.inl ⟨by rfl, fun w hw => by clear hw; go_simp⟩) h0 ?_
 try simp only [Act.put, lay_out]
 refine tK 4 (.agg (wdV B)) rfl (yields_load_row (by rfl) 37 _ rfl (w.heap.size + 1) 37 (wdV B) _ rfl (fun w hw => hw.2) Tryz.underlying37 rfl (by kernel_rfl)) h0 ?_
 try simp only [Act.put, lay_out]
 refine wpAnyH_ready (rs := [5]) (by kernel_rfl) (by simp) (AllReadyH.cons rfl (fun K hK => ?_) AllReadyH.nil)
 rw [if_pos (by rfl)]
 go_simp
 go_at_call 49
 (with_reducible refine (HC1.out _ _ G0.out).mono ?_); rintro e y1 ⟨rfl, hz⟩
 have G1 := hid hz
 clear hz
 refine hK.out _ _ (⟨G1.out.bl 2 rfl, G1.out.bl 1 rfl⟩) (fun h1x => ?_)
 clear hK K
 try simp only [Act.put, lay_out]
 refine wpAnyH_ready (rs := [6]) (by kernel_rfl) (by simp) (AllReadyH.cons rfl (fun K hK => ?_) AllReadyH.nil)
 rw [if_pos (by rfl)]
 go_simp
 go_at_call 48
 (with_reducible refine (HC2.out _ _ G1.out).mono ?_); rintro e y2 ⟨rfl, hz⟩
 have G2 := hid hz
 clear hz
 refine hK.out _ _ (⟨G2.out.bl 2 rfl, G2.out.bl 1 rfl⟩) (fun h2x => ?_)
 clear hK K
 try simp only [Act.put, lay_out]
 refine wpAnyH_ready (rs := [7]) (by kernel_rfl) (by simp) (AllReadyH.cons rfl (fun K hK => ?_) AllReadyH.nil)
 rw [if_pos (by rfl)]
 refine wp_store_row 37 _ _ rfl (w.heap.size + 2) (wdV R9) rfl rfl 37 _ (G2.out.bl 0 rfl) (by kernel_rfl) rfl (by kernel_rfl) ?_
 have G3 := hid (G2.out.rowI hM 0 rfl (wdV R9))
 generalize y2.setRow (w.heap.size + 2) (wdV R9) = y3 at *
 refine hK.out _ _ (⟨G3.out.bl 2 rfl, G3.out.bl 1 rfl⟩) (fun h3x => ?_)
 clear hK K
 try simp only [Act.put, lay_out]
 refine wpAnyH_done (by kernel_rfl) ?_ _
 refine NoPanic.normal ?_
 clear h0 h1x h2x h3x
 try simp only [Act.put, lay_out]
 go_wp2
 exact bodyPost_ret (results_cell_row (by rfl) _ _ (w.heap.size + 2) 37 (wdV R9) (0, 0) _ rfl (G3.out.bl 0 rfl) Tryz.underlying37 rfl (by kernel_rfl)) rfl ⟨rfl, G3.out.fin.1.up HLOW.out, G3.out.fin.2⟩
set_option maxHeartbeats 6400000 in
theorem yor {Pm : World → Nat → Ms → (Nat → Prop) → Prop} (hM : Mach Pm) {lo : Nat} {X : Nat → Prop} {W w : World} {b bd k : Nat} {S S2 : Ms} (K : Int) (A B : Nat → Int) (h : Bz Pm lo X W w bd b S2 S) (hq : Bq k S) (hk : k + 120 ≤ 100000) (hn : S.n = 2 ∨ S.n = 3) (hK : I64 K) (hA : Wb A) (hB : Wb B) :
  Calls Tryz.prog 18 #[.pointer (some ⟨b, 0, none⟩), .int .i64 K, .agg (wdV A), .agg (wdV B)] w fun e w' => e = .returned (.agg (wdV (boR S (isDom K) A B))) ∧ Bz Pm lo X W w' bd b S2 (boS S (isDom K) A B) ∧ ∀ k, X k → w'.heap[k]? = w.heap[k]? := by
 obtain ⟨q1, q2, q3, q4⟩ := bo2_bq hq (by omega) hA hB
 obtain ⟨q5, q6⟩ := bo3_bq (dom := isDom K) hq (by omega) hA hB
 have HC1 : Hid (∀ (bs : List (Nat × Obj)) (w' : World), Gy Pm lo X w w w' bd b S2 S bs → Calls Tryz.prog 51 #[.pointer (some ⟨b, 0, none⟩), .agg (wdV A)] w' fun e w2 => e = .returned (.agg (wdV (notR S A))) ∧ Gy Pm lo X w w w2 bd b S2 (notS S A) bs) := hid (fun bs w' h' => h'.lift (fun _ _ hz => ynot hM hz hq (by omega) A hA))
 have HC2 : Hid (∀ (bs : List (Nat × Obj)) (w' : World), Gy Pm lo X w w w' bd b S2 (notS S A) bs → Calls Tryz.prog 51 #[.pointer (some ⟨b, 0, none⟩), .agg (wdV B)] w' fun e w2 => e = .returned (.agg (wdV (notR (notS S A) B))) ∧ Gy Pm lo X w w w2 bd b S2 (boS2 S A B) bs) := hid (fun bs w' h' => h'.lift (fun _ _ hz => ynot hM hz q4 (by omega) B hB))
 have HC3 : Hid (∀ (bs : List (Nat × Obj)) (w' : World), Gy Pm lo X w w w' bd b S2 (boS2 S A B) bs → Calls Tryz.prog 14 #[.pointer (some ⟨b, 0, none⟩), .int .i64 K, .agg (wdV (notR S A)), .agg (wdV (notR (notS S A) B))] w' fun e w2 => e = .returned (.agg (wdV (boR3 S (isDom K) A B))) ∧ Gy Pm lo X w w w2 bd b S2 (boS3 S (isDom K) A B) bs) := hid (fun bs w' h' => h'.lift (fun _ _ hz => yand hM K (notR S A) (notR (notS S A) B) hz q1 (by omega) (by rw [(boS2_ext S A B).n]; exact hn) hK q2 q3))
 have HC4 : Hid (∀ (bs : List (Nat × Obj)) (w' : World), Gy Pm lo X w w w' bd b S2 (boS3 S (isDom K) A B) bs → Calls Tryz.prog 51 #[.pointer (some ⟨b, 0, none⟩), .agg (wdV (boR3 S (isDom K) A B))] w' fun e w2 => e = .returned (.agg (wdV (boR S (isDom K) A B))) ∧ Gy Pm lo X w w w2 bd b S2 (boS S (isDom K) A B) bs) := hid (fun bs w' h' => h'.lift (fun _ _ hz => ynot hM hz q5 (by omega) (boR3 S (isDom K) A B) q6))
 have HLOW : Hid (Below lo W w) := hid h.low
 obtain ⟨w1, hw1⟩ : ∃ w1, (((w).alloc (.cells (wdV A) 37)).alloc (.cells (wdV B) 37)).alloc (.cells #[.int .i64 0, .int .i64 0, .int .i64 0] 37) = w1 := ⟨_, rfl⟩
 have H1 : Hid (Gy Pm lo X w w w1 bd b S2 S [(w.heap.size + 2, Obj.cells #[.int .i64 0, .int .i64 0, .int .i64 0] 37 (0, 0)), (w.heap.size + 1, Obj.cells (wdV B) 37 (0, 0)), (w.heap.size, Obj.cells (wdV A) 37 (0, 0))]) := hid (by
  have := ((((Gy.start h.base).new hM (wdV A) 37).new hM (wdV B) 37).new hM #[.int .i64 0, .int .i64 0, .int .i64 0] 37)
  rw [hw1] at this
  simp only [sz_al] at this
  exact this)
 have HW := hid hw1
 clear hA hB hK q1 q2 q3 q4 q5 q6 h hq hk hn hw1
 generalize boS S (isDom K) A B = S9 at *
 generalize boR S (isDom K) A B = R9 at *
 generalize boS3 S (isDom K) A B = T3 at *
 generalize boR3 S (isDom K) A B = R3 at *
 generalize boS2 S A B = T2 at *
 generalize notR (notS S A) B = R2 at *
 generalize notR S A = R1 at *
 generalize notS S A = T1 at *
 go_enter Tryz.func18, Tryz.ntmps18
 go_upto_region 1 with fail
 rw [HW.out]
 go_upto_region 2 with (first
  | (refine step_load_row rfl 37 _ rfl (w.heap.size) 37 (wdV A) _ rfl (H1.out.bl 2 rfl) Tryz.underlying37 rfl (by kernel_rfl) ?_)
  | (go_at_call 51; (with_reducible refine (HC1.out _ _ H1.out).mono ?_); rintro e w2 ⟨rfl, hb⟩; have H2 := hid hb; clear hb))
 have H3 := hid (H2.out.new hM (wdV R1) 37)
 obtain ⟨g9, hg9⟩ : ∃ g9, w2.heap.size = g9 := ⟨_, rfl⟩
 rw [hg9] at H3
 generalize w2.alloc (.cells #[.int .i64 (R1 0), .int .i64 (R1 1), .int .i64 (R1 2)] 37) = w3 at *
 rw [hg9]
 clear hg9 H2 H1
 go_upto_region 3 with (first
  | (refine step_load_row rfl 37 _ rfl (w.heap.size + 1) 37 (wdV B) _ rfl (H3.out.bl 2 rfl) Tryz.underlying37 rfl (by kernel_rfl) ?_)
  | (go_at_call 51; (with_reducible refine (HC2.out _ _ H3.out).mono ?_); rintro e w4 ⟨rfl, hb⟩; have H4 := hid hb; clear hb))
 have H5 := hid (H4.out.new hM (wdV R2) 37)
 obtain ⟨g10, hg10⟩ : ∃ g10, w4.heap.size = g10 := ⟨_, rfl⟩
 rw [hg10] at H5
 generalize w4.alloc (.cells #[.int .i64 (R2 0), .int .i64 (R2 1), .int .i64 (R2 2)] 37) = w5 at *
 rw [hg10]
 clear hg10 H4 H3
 go_wp2_with (first
  | (refine step_load_row rfl 37 _ rfl (g9) 37 (wdV R1) _ rfl (H5.out.bl 1 rfl) Tryz.underlying37 rfl (by kernel_rfl) ?_)
  | (refine step_load_row rfl 37 _ rfl (g10) 37 (wdV R2) _ rfl (H5.out.bl 0 rfl) Tryz.underlying37 rfl (by kernel_rfl) ?_)
  | (go_at_call 14; (with_reducible refine (HC3.out _ _ H5.out).mono ?_); rintro e w6 ⟨rfl, hb⟩; have H6 := hid hb; clear hb)
  | (go_at_call 51; (with_reducible refine (HC4.out _ _ H6.out).mono ?_); rintro e w7 ⟨rfl, hb⟩; have H7 := hid hb; clear hb)
  | (refine step_store_row rfl 37 _ _ rfl (w.heap.size + 2) 37 _ (wdV R9) rfl rfl (H7.out.bl 2 rfl) (by kernel_rfl) rfl (by kernel_rfl) ?_))
 have H9 := hid (H7.out.rowI hM 2 rfl (wdV R9))
 exact bodyPost_ret (results_cell_row (by rfl) _ _ (w.heap.size + 2) 37 (wdV R9) (0, 0) _ rfl (H9.out.bl 2 rfl) Tryz.underlying37 rfl (by kernel_rfl)) rfl ⟨rfl, H9.out.fin.1.up HLOW.out, H9.out.fin.2⟩
set_option maxHeartbeats 6400000 in
theorem qand {Pm : World → Nat → Ms → (Nat → Prop) → Prop} (hM : Mach Pm) {lo : Nat} {X : Nat → Prop} {W w : World} {b bd k : Nat} {S S2 : Ms} (K : Int) (A B : Nat → Int) (h : Bz Pm lo X W w b bd S S2) (hp : Pv w) (hl : gpair < lo) (hq : Bq k S) (hk : k + 60 ≤ 100000) (hn : S.n = 2 ∨ S.n = 3) (hK : I64 K) (hA : Wb A) (hB : Wb B) :
  Calls Tryz.prog 13 #[.pointer (some ⟨b, 0, none⟩), .int .i64 K, .agg (wdV A), .agg (wdV B)] w fun e w' => e = .returned (.agg (wdV (baR S (isDom K) A B))) ∧ Bz Pm lo X W w' b bd (baS S (isDom K) A B) S2 ∧ ∀ k, X k → w'.heap[k]? = w.heap[k]? := by
 have HC1 : Hid (∀ (bs : List (Nat × Obj)) (w' : World), Gy Pm lo X w w w' b bd S S2 bs → Calls Tryz.prog 47 #[.pointer (some ⟨b, 0, none⟩), .agg (wdV B)] w' fun e w2 => e = .returned (.agg (wdV (frR S false B))) ∧ Gy Pm lo X w w w2 b bd (frS S false B) S2 bs) := hid (fun bs w' h' => h'.lift (fun _ _ hz => qfull hM B hz (Pv.bz hp hl h'.z) hl hq (by omega) hn hB))
 have HC2 : Hid (∀ (bs : List (Nat × Obj)) (w' : World), Gy Pm lo X w w w' b bd (frS S false B) S2 bs → Calls Tryz.prog 46 #[.pointer (some ⟨b, 0, none⟩), .int .i64 K, .agg (wdV A), .agg (wdV (frR S false B))] w' fun e w2 => e = .returned (.agg (wdV (baR S (isDom K) A B))) ∧ Gy Pm lo X w w w2 b bd (baS S (isDom K) A B) S2 bs) := hid (fun bs w' h' => h'.lift (fun _ _ hz => qby hM (tmI hM) K A (frR S false B) hz (fun _ _ => trivial) (frS_bq hq (by omega) hB) (by omega) (by rw [(frS_ext S false B).n]; exact hn) hK hA (frR_wb hq (by omega) hB)))
 have HLOW : Hid (Below lo W w) := hid h.low
 obtain ⟨w1, hw1⟩ : ∃ w1, (((w).alloc (.cells (wdV A) 37)).alloc (.cells (wdV B) 37)).alloc (.cells #[.int .i64 0, .int .i64 0, .int .i64 0] 37) = w1 := ⟨_, rfl⟩
 have H1 : Hid (Gy Pm lo X w w w1 b bd S S2 [(w.heap.size + 2, Obj.cells #[.int .i64 0, .int .i64 0, .int .i64 0] 37 (0, 0)), (w.heap.size + 1, Obj.cells (wdV B) 37 (0, 0)), (w.heap.size, Obj.cells (wdV A) 37 (0, 0))]) := hid (by
  have := ((((Gy.start h.base).new hM (wdV A) 37).new hM (wdV B) 37).new hM #[.int .i64 0, .int .i64 0, .int .i64 0] 37)
  rw [hw1] at this
  simp only [sz_al] at this
  exact this)
 have HW := hid hw1
 clear hA hB hK h hq hk hn hp hl hw1
 generalize baS S (isDom K) A B = S9 at *
 generalize baR S (isDom K) A B = R9 at *
 generalize frS S false B = T1 at *
 generalize frR S false B = R1 at *
 go_enter Tryz.func13, Tryz.ntmps13
 go_upto_region 1 with fail
 rw [HW.out]
 have G0 := hid (H1.out.self hM ((Below.refl _ w1).drew))
 refine wp_region_noPanic ?_
 refine wp_region_held_drew (S := fun w' => w'.heap[w.heap.size]? = some (.cells (wdV A) 37 (0, 0)) ∧ w'.heap[w.heap.size + 1]? = some (.cells (wdV B) 37 (0, 0))) (by kernel_rfl) (⟨G0.out.bl 2 rfl, G0.out.bl 1 rfl⟩) (fun h0 => ?_)
 generalize w1.drew = y0 at *
 refine tK 0 (.pointer (some ⟨b, 0, none⟩)) rfl (.inl ⟨by rfl, fun w hw => by clear hw; go_simp⟩) h0 ?_
 try simp only [Act.put, lay_out]
 refine tK 1 (.int .i64 K) rfl (.inl ⟨by rfl, fun w hw => by clear hw; go_simp⟩) h0 ?_
 try simp only [Act.put, lay_out]
 refine tK 2 (.agg (wdV A)) rfl (yields_load_row (by rfl) 37 _ rfl (w.heap.size) 37 (wdV A) _ rfl (fun w hw => hw.1) Tryz.underlying37 rfl (by kernel_rfl)) h0 ?_
 try simp only [Act.put, lay_out]
 refine tK 3 (.pointer (some ⟨b, 0, none⟩)) rfl (.inl ⟨by rfl, fun w hw => by clear hw; go_simp⟩) h0 ?_
 try simp only [Act.put, lay_out]
 refine tK 4 (.agg (wdV B)) rfl (yields_load_row (by rfl) 37 _ rfl (w.heap.size + 1) 37 (wdV B) _ rfl (fun w hw => hw.2) Tryz.underlying37 rfl (by kernel_rfl)) h0 ?_
 try simp only [Act.put, lay_out]
 refine wpAnyH_ready (rs := [5]) (by kernel_rfl) (by simp) (AllReadyH.cons rfl (fun K hK => ?_) AllReadyH.nil)
 rw [if_pos (by rfl)]
 go_simp
 go_at_call 47
 (with_reducible refine (HC1.out _ _ G0.out).mono ?_); rintro e y1 ⟨rfl, hz⟩
 have G1 := hid hz
 clear hz
 refine hK.out _ _ (⟨G1.out.bl 2 rfl, G1.out.bl 1 rfl⟩) (fun h1x => ?_)
 clear hK K
 try simp only [Act.put, lay_out]
 refine wpAnyH_ready (rs := [6]) (by kernel_rfl) (by simp) (AllReadyH.cons rfl (fun K hK => ?_) AllReadyH.nil)
 rw [if_pos (by rfl)]
 go_simp
 go_at_call 46
 (with_reducible refine (HC2.out _ _ G1.out).mono ?_); rintro e y2 ⟨rfl, hz⟩
 have G2 := hid hz
 clear hz
 refine hK.out _ _ (⟨G2.out.bl 2 rfl, G2.out.bl 1 rfl⟩) (fun h2x => ?_)
 clear hK K
 try simp only [Act.put, lay_out]
 refine wpAnyH_ready (rs := [7]) (by kernel_rfl) (by simp) (AllReadyH.cons rfl (fun K hK => ?_) AllReadyH.nil)
 rw [if_pos (by rfl)]
 refine wp_store_row 37 _ _ rfl (w.heap.size + 2) (wdV R9) rfl rfl 37 _ (G2.out.bl 0 rfl) (by kernel_rfl) rfl (by kernel_rfl) ?_
 have G3 := hid (G2.out.rowI hM 0 rfl (wdV R9))
 generalize y2.setRow (w.heap.size + 2) (wdV R9) = y3 at *
 refine hK.out _ _ (⟨G3.out.bl 2 rfl, G3.out.bl 1 rfl⟩) (fun h3x => ?_)
 clear hK K
 try simp only [Act.put, lay_out]
 refine wpAnyH_done (by kernel_rfl) ?_ _
 refine NoPanic.normal ?_
 clear h0 h1x h2x h3x
 try simp only [Act.put, lay_out]
 go_wp2
 exact bodyPost_ret (results_cell_row (by rfl) _ _ (w.heap.size + 2) 37 (wdV R9) (0, 0) _ rfl (G3.out.bl 0 rfl) Tryz.underlying37 rfl (by kernel_rfl)) rfl ⟨rfl, G3.out.fin.1.up HLOW.out, G3.out.fin.2⟩
set_option maxHeartbeats 6400000 in
theorem qless {Pm : World → Nat → Ms → (Nat → Prop) → Prop} (hM : Mach Pm) {lo : Nat} {X : Nat → Prop} {W w : World} {b bd k : Nat} {S S2 : Ms} (K : Int) (A B : Nat → Int) (h : Bz Pm lo X W w b bd S S2) (hp : Pv w) (hl : gpair < lo) (hq : Bq k S) (hk : k + 70 ≤ 100000) (hn : S.n = 2 ∨ S.n = 3) (hK : I64 K) (hA : Wb A) (hB : Wb B) :
  Calls Tryz.prog 15 #[.pointer (some ⟨b, 0, none⟩), .int .i64 K, .agg (wdV A), .agg (wdV B)] w fun e w' => e = .returned (.agg (wdV (blR S (isDom K) A B))) ∧ Bz Pm lo X W w' b bd (blS S (isDom K) A B) S2 ∧ ∀ k, X k → w'.heap[k]? = w.heap[k]? := by
 have HC1 : Hid (∀ (bs : List (Nat × Obj)) (w' : World), Gy Pm lo X w w w' b bd S S2 bs → Calls Tryz.prog 50 #[.pointer (some ⟨b, 0, none⟩), .agg (wdV A)] w' fun e w2 => e = .returned (.agg (wdV (notR S A))) ∧ Gy Pm lo X w w w2 b bd (notS S A) S2 bs) := hid (fun bs w' h' => h'.lift (fun _ _ hz => qnot hM (shI hM) A hz hq (by omega) hn hA))
 have HC2 : Hid (∀ (bs : List (Nat × Obj)) (w' : World), Gy Pm lo X w w w' b bd (notS S A) S2 bs → Calls Tryz.prog 13 #[.pointer (some ⟨b, 0, none⟩), .int .i64 K, .agg (wdV (notR S A)), .agg (wdV B)] w' fun e w2 => e = .returned (.agg (wdV (blR S (isDom K) A B))) ∧ Gy Pm lo X w w w2 b bd (blS S (isDom K) A B) S2 bs) := hid (fun bs w' h' => h'.lift (fun _ _ hz => qand hM K (notR S A) B hz (Pv.bz hp hl h'.z) hl (notS_bq hq hA) (by omega) (by rw [(notS_ext S A).n]; exact hn) hK (notR_wb hq (by omega) hA) hB))
 have HLOW : Hid (Below lo W w) := hid h.low
 obtain ⟨w1, hw1⟩ : ∃ w1, (((w).alloc (.cells (wdV A) 37)).alloc (.cells (wdV B) 37)).alloc (.cells #[.int .i64 0, .int .i64 0, .int .i64 0] 37) = w1 := ⟨_, rfl⟩
 have H1 : Hid (Gy Pm lo X w w w1 b bd S S2 [(w.heap.size + 2, Obj.cells #[.int .i64 0, .int .i64 0, .int .i64 0] 37 (0, 0)), (w.heap.size + 1, Obj.cells (wdV B) 37 (0, 0)), (w.heap.size, Obj.cells (wdV A) 37 (0, 0))]) := hid (by
  have := ((((Gy.start h.base).new hM (wdV A) 37).new hM (wdV B) 37).new hM #[.int .i64 0, .int .i64 0, .int .i64 0] 37)
  rw [hw1] at this
  simp only [sz_al] at this
  exact this)
 have HW := hid hw1
 clear hA hB hK h hq hk hn hp hl hw1
 generalize blS S (isDom K) A B = S9 at *
 generalize blR S (isDom K) A B = R9 at *
 generalize notS S A = T1 at *
 generalize notR S A = R1 at *
 go_enter Tryz.func15, Tryz.ntmps15
 go_upto_region 1 with fail
 rw [HW.out]
 have G0 := hid (H1.out.self hM ((Below.refl _ w1).drew))
 refine wp_region_noPanic ?_
 refine wp_region_held_drew (S := fun w' => w'.heap[w.heap.size]? = some (.cells (wdV A) 37 (0, 0)) ∧ w'.heap[w.heap.size + 1]? = some (.cells (wdV B) 37 (0, 0))) (by kernel_rfl) (⟨G0.out.bl 2 rfl, G0.out.bl 1 rfl⟩) (fun h0 => ?_)
 generalize w1.drew = y0 at *
 refine tK 0 (.pointer (some ⟨b, 0, none⟩)) rfl (.inl ⟨by rfl, fun w hw => by clear hw; go_simp⟩) h0 ?_
 try simp only [Act.put, lay_out]
 refine tK 1 (.int .i64 K) rfl (.inl ⟨by rfl, fun w hw => by clear hw; go_simp⟩) h0 ?_
 try simp only [Act.put, lay_out]
 refine tK 2 (.pointer (some ⟨b, 0, none⟩)) rfl (.inl ⟨by rfl, fun w hw => by clear hw; go_simp⟩) h0 ?_
 try simp only [Act.put, lay_out]
 refine tK 3 (.agg (wdV A)) rfl (yields_load_row (by rfl) 37 _ rfl (w.heap.size) 37 (wdV A) _ rfl (fun w hw => hw.1) Tryz.underlying37 rfl (by kernel_rfl)) h0 ?_
 try simp only [Act.put, lay_out]
 refine tK 5 (.agg (wdV B)) rfl (yields_load_row (by rfl) 37 _ rfl (w.heap.size + 1) 37 (wdV B) _ rfl (fun w hw => hw.2) Tryz.underlying37 rfl (by kernel_rfl)) h0 ?_
 try simp only [Act.put, lay_out]
 refine wpAnyH_ready (rs := [4]) (by kernel_rfl) (by simp) (AllReadyH.cons rfl (fun K hK => ?_) AllReadyH.nil)
 rw [if_pos (by rfl)]
 go_simp
 go_at_call 50
 (with_reducible refine (HC1.out _ _ G0.out).mono ?_); rintro e y1 ⟨rfl, hz⟩
 have G1 := hid hz
 clear hz
 refine hK.out _ _ (⟨G1.out.bl 2 rfl, G1.out.bl 1 rfl⟩) (fun h1x => ?_)
 clear hK K
 try simp only [Act.put, lay_out]
 refine wpAnyH_ready (rs := [6]) (by kernel_rfl) (by simp) (AllReadyH.cons rfl (fun K hK => ?_) AllReadyH.nil)
 rw [if_pos (by rfl)]
 go_simp
 go_at_call 13
 (with_reducible refine (HC2.out _ _ G1.out).mono ?_); rintro e y2 ⟨rfl, hz⟩
 have G2 := hid hz
 clear hz
 refine hK.out _ _ (⟨G2.out.bl 2 rfl, G2.out.bl 1 rfl⟩) (fun h2x => ?_)
 clear hK K
 try simp only [Act.put, lay_out]
 refine wpAnyH_ready (rs := [7]) (by kernel_rfl) (by simp) (AllReadyH.cons rfl (fun K hK => ?_) AllReadyH.nil)
 rw [if_pos (by rfl)]
 refine wp_store_row 37 _ _ rfl (w.heap.size + 2) (wdV R9) rfl rfl 37 _ (G2.out.bl 0 rfl) (by kernel_rfl) rfl (by kernel_rfl) ?_
 have G3 := hid (G2.out.rowI hM 0 rfl (wdV R9))
 generalize y2.setRow (w.heap.size + 2) (wdV R9) = y3 at *
 refine hK.out _ _ (⟨G3.out.bl 2 rfl, G3.out.bl 1 rfl⟩) (fun h3x => ?_)
 clear hK K
 try simp only [Act.put, lay_out]
 refine wpAnyH_done (by kernel_rfl) ?_ _
 refine NoPanic.normal ?_
 clear h0 h1x h2x h3x
 try simp only [Act.put, lay_out]
 go_wp2
 exact bodyPost_ret (results_cell_row (by rfl) _ _ (w.heap.size + 2) 37 (wdV R9) (0, 0) _ rfl (G3.out.bl 0 rfl) Tryz.underlying37 rfl (by kernel_rfl)) rfl ⟨rfl, G3.out.fin.1.up HLOW.out, G3.out.fin.2⟩
set_option maxHeartbeats 6400000 in
theorem qor {Pm : World → Nat → Ms → (Nat → Prop) → Prop} (hM : Mach Pm) {lo : Nat} {X : Nat → Prop} {W w : World} {b bd k : Nat} {S S2 : Ms} (K : Int) (A B : Nat → Int) (h : Bz Pm lo X W w b bd S S2) (hp : Pv w) (hl : gpair < lo) (hq : Bq k S) (hk : k + 120 ≤ 100000) (hn : S.n = 2 ∨ S.n = 3) (hK : I64 K) (hA : Wb A) (hB : Wb B) :
  Calls Tryz.prog 17 #[.pointer (some ⟨b, 0, none⟩), .int .i64 K, .agg (wdV A), .agg (wdV B)] w fun e w' => e = .returned (.agg (wdV (boR S (isDom K) A B))) ∧ Bz Pm lo X W w' b bd (boS S (isDom K) A B) S2 ∧ ∀ k, X k → w'.heap[k]? = w.heap[k]? := by
 obtain ⟨q1, q2, q3, q4⟩ := bo2_bq hq (by omega) hA hB
 obtain ⟨q5, q6⟩ := bo3_bq (dom := isDom K) hq (by omega) hA hB
 have HC1 : Hid (∀ (bs : List (Nat × Obj)) (w' : World), Gy Pm lo X w w w' b bd S S2 bs → Calls Tryz.prog 50 #[.pointer (some ⟨b, 0, none⟩), .agg (wdV A)] w' fun e w2 => e = .returned (.agg (wdV (notR S A))) ∧ Gy Pm lo X w w w2 b bd (notS S A) S2 bs) := hid (fun bs w' h' => h'.lift (fun _ _ hz => qnot hM (shI hM) A hz hq (by omega) hn hA))
 have HC2 : Hid (∀ (bs : List (Nat × Obj)) (w' : World), Gy Pm lo X w w w' b bd (notS S A) S2 bs → Calls Tryz.prog 50 #[.pointer (some ⟨b, 0, none⟩), .agg (wdV B)] w' fun e w2 => e = .returned (.agg (wdV (notR (notS S A) B))) ∧ Gy Pm lo X w w w2 b bd (boS2 S A B) S2 bs) := hid (fun bs w' h' => h'.lift (fun _ _ hz => qnot hM (shI hM) B hz q4 (by omega) (by rw [(notS_ext S A).n]; exact hn) hB))
 have HC3 : Hid (∀ (bs : List (Nat × Obj)) (w' : World), Gy Pm lo X w w w' b bd (boS2 S A B) S2 bs → Calls Tryz.prog 13 #[.pointer (some ⟨b, 0, none⟩), .int .i64 K, .agg (wdV (notR S A)), .agg (wdV (notR (notS S A) B))] w' fun e w2 => e = .returned (.agg (wdV (boR3 S (isDom K) A B))) ∧ Gy Pm lo X w w w2 b bd (boS3 S (isDom K) A B) S2 bs) := hid (fun bs w' h' => h'.lift (fun _ _ hz => qand hM K (notR S A) (notR (notS S A) B) hz (Pv.bz hp hl h'.z) hl q1 (by omega) (by rw [(boS2_ext S A B).n]; exact hn) hK q2 q3))
 have HC4 : Hid (∀ (bs : List (Nat × Obj)) (w' : World), Gy Pm lo X w w w' b bd (boS3 S (isDom K) A B) S2 bs → Calls Tryz.prog 50 #[.pointer (some ⟨b, 0, none⟩), .agg (wdV (boR3 S (isDom K) A B))] w' fun e w2 => e = .returned (.agg (wdV (boR S (isDom K) A B))) ∧ Gy Pm lo X w w w2 b bd (boS S (isDom K) A B) S2 bs) := hid (fun bs w' h' => h'.lift (fun _ _ hz => qnot hM (shI hM) (boR3 S (isDom K) A B) hz q5 (by omega) (by rw [(boS3_ext S (isDom K) A B).n]; exact hn) q6))
 have HLOW : Hid (Below lo W w) := hid h.low
 obtain ⟨w1, hw1⟩ : ∃ w1, (((w).alloc (.cells (wdV A) 37)).alloc (.cells (wdV B) 37)).alloc (.cells #[.int .i64 0, .int .i64 0, .int .i64 0] 37) = w1 := ⟨_, rfl⟩
 have H1 : Hid (Gy Pm lo X w w w1 b bd S S2 [(w.heap.size + 2, Obj.cells #[.int .i64 0, .int .i64 0, .int .i64 0] 37 (0, 0)), (w.heap.size + 1, Obj.cells (wdV B) 37 (0, 0)), (w.heap.size, Obj.cells (wdV A) 37 (0, 0))]) := hid (by
  have := ((((Gy.start h.base).new hM (wdV A) 37).new hM (wdV B) 37).new hM #[.int .i64 0, .int .i64 0, .int .i64 0] 37)
  rw [hw1] at this
  simp only [sz_al] at this
  exact this)
 have HW := hid hw1
 clear hA hB hK q1 q2 q3 q4 q5 q6 h hq hk hn hp hl hw1
 generalize boS S (isDom K) A B = S9 at *
 generalize boR S (isDom K) A B = R9 at *
 generalize boS3 S (isDom K) A B = T3 at *
 generalize boR3 S (isDom K) A B = R3 at *
 generalize boS2 S A B = T2 at *
 generalize notR (notS S A) B = R2 at *
 generalize notR S A = R1 at *
 generalize notS S A = T1 at *
 go_enter Tryz.func17, Tryz.ntmps17
 go_upto_region 1 with fail
 rw [HW.out]
 go_upto_region 2 with (first
  | (refine step_load_row rfl 37 _ rfl (w.heap.size) 37 (wdV A) _ rfl (H1.out.bl 2 rfl) Tryz.underlying37 rfl (by kernel_rfl) ?_)
  | (go_at_call 50; (with_reducible refine (HC1.out _ _ H1.out).mono ?_); rintro e w2 ⟨rfl, hb⟩; have H2 := hid hb; clear hb)
  | (refine step_store_row rfl 37 _ _ rfl (w.heap.size) 37 _ (wdV R1) rfl rfl (H2.out.bl 2 rfl) (by kernel_rfl) rfl (by kernel_rfl) ?_))
 have H3 := hid (H2.out.rowI hM 2 rfl (wdV R1))
 generalize w2.setRow (w.heap.size) (wdV R1) = w3 at *
 clear H2 H1
 go_upto_region 3 with (first
  | (refine step_load_row rfl 37 _ rfl (w.heap.size + 1) 37 (wdV B) _ rfl (H3.out.bl 1 rfl) Tryz.underlying37 rfl (by kernel_rfl) ?_)
  | (go_at_call 50; (with_reducible refine (HC2.out _ _ H3.out).mono ?_); rintro e w4 ⟨rfl, hb⟩; have H4 := hid hb; clear hb)
  | (refine step_store_row rfl 37 _ _ rfl (w.heap.size + 1) 37 _ (wdV R2) rfl rfl (H4.out.bl 1 rfl) (by kernel_rfl) rfl (by kernel_rfl) ?_))
 have H5 := hid (H4.out.rowI hM 1 rfl (wdV R2))
 generalize w4.setRow (w.heap.size + 1) (wdV R2) = w5 at *
 clear H4 H3
 go_wp2_with (first
  | (refine step_load_row rfl 37 _ rfl (w.heap.size) 37 (wdV R1) _ rfl (H5.out.bl 2 rfl) Tryz.underlying37 rfl (by kernel_rfl) ?_)
  | (refine step_load_row rfl 37 _ rfl (w.heap.size + 1) 37 (wdV R2) _ rfl (H5.out.bl 1 rfl) Tryz.underlying37 rfl (by kernel_rfl) ?_)
  | (go_at_call 13; (with_reducible refine (HC3.out _ _ H5.out).mono ?_); rintro e w6 ⟨rfl, hb⟩; have H6 := hid hb; clear hb)
  | (go_at_call 50; (with_reducible refine (HC4.out _ _ H6.out).mono ?_); rintro e w7 ⟨rfl, hb⟩; have H7 := hid hb; clear hb)
  | (refine step_store_row rfl 37 _ _ rfl (w.heap.size + 2) 37 _ (wdV R9) rfl rfl (H7.out.bl 0 rfl) (by kernel_rfl) rfl (by kernel_rfl) ?_))
 have H9 := hid (H7.out.rowI hM 0 rfl (wdV R9))
 exact bodyPost_ret (results_cell_row (by rfl) _ _ (w.heap.size + 2) 37 (wdV R9) (0, 0) _ rfl (H9.out.bl 0 rfl) Tryz.underlying37 rfl (by kernel_rfl)) rfl ⟨rfl, H9.out.fin.1.up HLOW.out, H9.out.fin.2⟩
end Go.Proofs.YthkijncnndoafaaGreatDoor
