import Derived.Test.YtpjgpiieminaoaaGreatDoorProg
import Derived.Test.YtpjgpiieminaoaaGreatDoorAcv
import Derived.Test.YtpjgpiieminaoaaGreatDoorWls
import Derived.Test.YtpjgpiieminaoaaGreatDoorShg
import Derived.Test.YtpjgpiieminaoaaGreatDoorWmb
import Derived.KernelRfl
/- Fresh: the document's functions, over its machine alone. -/
namespace Go.Proofs.YtpjgpiieminaoaaGreatDoor
open Go.RowKit
set_option maxRecDepth 100000
theorem sqS_n (S : Ms) (kd : Int) (op : Nat → (Nat → Int) → Op6) (m : Nat) : (sqS (S.beginS kd) op m).n = S.n := ((sq_ext _ op m).n).trans (beginS_n S kd).1
set_option maxHeartbeats 12800000 in
theorem dfull2 {lg : LoG} {F0 : Nat → Prop} {w0 w : World} {b k : Nat} {S : Ms} (A : Nat → Int) (h : Od lg F0 w0 w b S []) (hq : Bq k S) (hk : k + 20 ≤ 100000) (hn : S.n = 2) (hA : Wb A) :
    Calls Tryz.prog 32 #[.pointer (some ⟨b, 0, none⟩), .agg (wdV A)] w fun e w' => e = .returned (.agg (wdV (frR S false A))) ∧ Od lg F0 w0 w' b (frS S false A) [] := by
  have hB := hq.begins 2
  have hwf : ∀ j, j < 3 → ∀ r, Wb r → opwf (opF2 A j r) := fun j _ r hr => opF2_wf hA hr j
  have hSB : ∀ j, j ≤ 3 → Bq (k + j) (sqS (S.beginS 2) (opF2 A) j) ∧ Wb (sqR (S.beginS 2) (opF2 A) j) := fun j hj => sq_bq hB (fun i hi => hwf i (by omega)) (by omega)
  have HBG : Hid (∀ (bs : List (Nat × Obj)) (w' : World), Od lg F0 w0 w' b S bs → Calls Tryz.prog 62 #[.pointer (some ⟨b, 0, none⟩), .int .i64 2] w' fun e w2 => e = .returned (.tuple #[]) ∧ Od lg F0 w0 w2 b (sqS (S.beginS 2) (opF2 A) 0) bs) := hid (fun bs w' h' => h'.begins 2 hq (by omega))
  have HD0 : Hid (∀ (bs : List (Nat × Obj)) (w' : World), Od lg F0 w0 w' b (sqS (S.beginS 2) (opF2 A) 0) bs → Calls Tryz.prog 28 #[.pointer (some ⟨b, 0, none⟩), .agg (opCs ⟨1, -1, -1, -1, -1, 0⟩), .int .u64 0] w' fun e w2 => e = .returned (.int .i64 (sqr (S.beginS 2) (opF2 A) 0)) ∧ Od lg F0 w0 w2 b (sqS (S.beginS 2) (opF2 A) 1) bs) := hid (fun bs w' h' => by
    have e : sqO (S.beginS 2) (opF2 A) 0 = ⟨1, -1, -1, -1, -1, 0⟩ := by
      unfold sqO
      generalize sqR (S.beginS 2) (opF2 A) 0 = r
      rfl
    skip
    have h2 := h'.do0 (sqO (S.beginS 2) (opF2 A) 0) (hSB 0 (by omega)).1 (by omega) (hwf 0 (by omega) _ (hSB 0 (by omega)).2)
    rw [← e, show sqS (S.beginS 2) (opF2 A) 1 = (sqS (S.beginS 2) (opF2 A) 0).doS (sqO (S.beginS 2) (opF2 A) 0) 0 from sqS_next _ _ _]
    unfold sqr
    exact h2)
  have HD1 : Hid (∀ (bs : List (Nat × Obj)) (w' : World), Od lg F0 w0 w' b (sqS (S.beginS 2) (opF2 A) 1) bs → Calls Tryz.prog 28 #[.pointer (some ⟨b, 0, none⟩), .agg (opCs ⟨5, 0, (A 0), sqr (S.beginS 2) (opF2 A) (0), -1, 0⟩), .int .u64 0] w' fun e w2 => e = .returned (.int .i64 (sqr (S.beginS 2) (opF2 A) 1)) ∧ Od lg F0 w0 w2 b (sqS (S.beginS 2) (opF2 A) 2) bs) := hid (fun bs w' h' => by
    have e : sqO (S.beginS 2) (opF2 A) 1 = ⟨5, 0, (A 0), sqR (S.beginS 2) (opF2 A) 1 0, -1, 0⟩ := by
      unfold sqO
      generalize sqR (S.beginS 2) (opF2 A) 1 = r
      rfl
    rw [sqR_at _ _ (by omega : 0 < 1)] at e
    have h2 := h'.do0 (sqO (S.beginS 2) (opF2 A) 1) (hSB 1 (by omega)).1 (by omega) (hwf 1 (by omega) _ (hSB 1 (by omega)).2)
    rw [← e, show sqS (S.beginS 2) (opF2 A) 2 = (sqS (S.beginS 2) (opF2 A) 1).doS (sqO (S.beginS 2) (opF2 A) 1) 0 from sqS_next _ _ _]
    unfold sqr
    exact h2)
  have HD2 : Hid (∀ (bs : List (Nat × Obj)) (w' : World), Od lg F0 w0 w' b (sqS (S.beginS 2) (opF2 A) 2) bs → Calls Tryz.prog 28 #[.pointer (some ⟨b, 0, none⟩), .agg (opCs ⟨5, 1, (A 1), sqr (S.beginS 2) (opF2 A) (0), -1, 0⟩), .int .u64 0] w' fun e w2 => e = .returned (.int .i64 (sqr (S.beginS 2) (opF2 A) 2)) ∧ Od lg F0 w0 w2 b (sqS (S.beginS 2) (opF2 A) 3) bs) := hid (fun bs w' h' => by
    have e : sqO (S.beginS 2) (opF2 A) 2 = ⟨5, 1, (A 1), sqR (S.beginS 2) (opF2 A) 2 0, -1, 0⟩ := by
      unfold sqO
      generalize sqR (S.beginS 2) (opF2 A) 2 = r
      rfl
    rw [sqR_at _ _ (by omega : 0 < 2)] at e
    have h2 := h'.do0 (sqO (S.beginS 2) (opF2 A) 2) (hSB 2 (by omega)).1 (by omega) (hwf 2 (by omega) _ (hSB 2 (by omega)).2)
    rw [← e, show sqS (S.beginS 2) (opF2 A) 3 = (sqS (S.beginS 2) (opF2 A) 2).doS (sqO (S.beginS 2) (opF2 A) 2) 0 from sqS_next _ _ _]
    unfold sqr
    exact h2)
  have HEN : Hid (∀ (bs : List (Nat × Obj)) (w' : World), Od lg F0 w0 w' b (sqS (S.beginS 2) (opF2 A) 3) bs → Calls Tryz.prog 63 #[.pointer (some ⟨b, 0, none⟩)] w' fun e w2 => e = .returned (.tuple #[]) ∧ Od lg F0 w0 w2 b (frS S false A) bs) := hid (fun bs w' h' => by
    rw [show frS S false A = (sqS (S.beginS 2) (opF2 A) 3).endS from by unfold frS frO frM blkS; rw [if_neg (by omega), if_neg (by omega)]]
    exact h'.ends (hSB 3 (by omega)).1 (by omega))
  have HNN : Hid (∀ (j : Nat) (bs : List (Nat × Obj)) (w' : World), Od lg F0 w0 w' b (sqS (S.beginS 2) (opF2 A) j) bs → w'.cell? ⟨b, 0, none⟩ = some (.int .i64 2)) := hid (fun j bs w' h' => by have := h'.n; rw [sqS_n, hn] at this; exact this)
  have HN0 : Hid (∀ (bs : List (Nat × Obj)) (w' : World), Od lg F0 w0 w' b S bs → w'.cell? ⟨b, 0, none⟩ = some (.int .i64 2)) := hid (fun bs w' h' => by have := h'.n; rw [hn] at this; exact this)
  have HR : Hid (frR S false A = reg3 (sqr (S.beginS 2) (opF2 A) 1) (sqr (S.beginS 2) (opF2 A) 2) (-1)) := hid (by unfold frR; rw [if_neg (by omega)])
  obtain ⟨w1, hw1⟩ : ∃ w1, (w.alloc (.cells (wdV A) 37)).alloc (.cells #[.int .i64 0, .int .i64 0, .int .i64 0] 37) = w1 := ⟨_, rfl⟩
  have H1 : Hid (Od lg F0 w0 w1 b S [(w.heap.size + 1, Obj.cells #[.int .i64 0, .int .i64 0, .int .i64 0] 37 (0, 0)), (w.heap.size, Obj.cells (wdV A) 37 (0, 0))]) := hid (by
    have := (h.new (wdV A) 37).new #[.int .i64 0, .int .i64 0, .int .i64 0] 37
    rw [hw1] at this
    simp only [sz_al] at this
    exact this)
  have HW := hid hw1
  clear h hq hk hn hA hB hwf hSB hw1
  rw [HR.out]
  clear HR
  generalize frS S false A = S3 at *
  generalize sqr (S.beginS 2) (opF2 A) 0 = rg0 at *
  generalize sqr (S.beginS 2) (opF2 A) 1 = rg1 at *
  generalize sqr (S.beginS 2) (opF2 A) 2 = rg2 at *
  generalize S.beginS 2 = S2 at *
  go_enter Tryz.func32, Tryz.ntmps32
  go_upto_region 1 with fail
  rw [HW.out]
  go_upto_region 2 with (go_at_call 27; (with_reducible refine (none_any _).mono ?_); rintro e w2 ⟨rfl, hb⟩; have H2 := hid (H1.out.self hb); clear hb)
  have H3 := hid (H2.out.new (wdV none3) 37)
  obtain ⟨g5, hg5⟩ : ∃ g5, w2.heap.size = g5 := ⟨_, rfl⟩
  rw [hg5] at H3
  have H4 : Hid (Od lg F0 w0 (w2.alloc (.cells #[.int .i64 (none3 0), .int .i64 (none3 1), .int .i64 (none3 2)] 37)) b S [(g5, .cells #[.int .i64 (-1), .int .i64 (-1), .int .i64 (-1)] 37 (0, 0)), (w.heap.size + 1, Obj.cells #[.int .i64 0, .int .i64 0, .int .i64 0] 37 (0, 0)), (w.heap.size, Obj.cells (wdV A) 37 (0, 0))]) := H3
  generalize w2.alloc (.cells #[.int .i64 (none3 0), .int .i64 (none3 1), .int .i64 (none3 2)] 37) = w4 at *
  rw [hg5]
  clear hg5 H3 H2 H1
  go_upto_region 3 with (go_at_call 62; (with_reducible refine (HBG.out _ _ H4.out).mono ?_); rintro e v0 ⟨rfl, hb⟩; have G0 := hid hb; clear hb)
  have ca0 := row_c (i := 0) (u := .int .i64 (A 0)) (G0.out.bl 2 rfl) rfl
  have ca1 := row_c (i := 1) (u := .int .i64 (A 1)) (G0.out.bl 2 rfl) rfl
  have ca2 := row_c (i := 2) (u := .int .i64 (A 2)) (G0.out.bl 2 rfl) rfl
  have cb0 := row_c (i := 0) (u := .int .i64 (-1)) (G0.out.bl 0 rfl) rfl
  have fb0 := frozen_of_row v0 g5 0 _ _ (G0.out.bl 0 rfl)
  have cb1 := row_c (i := 1) (u := .int .i64 (-1)) (G0.out.bl 0 rfl) rfl
  have fb1 := frozen_of_row v0 g5 1 _ _ (G0.out.bl 0 rfl)
  have cb2 := row_c (i := 2) (u := .int .i64 (-1)) (G0.out.bl 0 rfl) rfl
  have fb2 := frozen_of_row v0 g5 2 _ _ (G0.out.bl 0 rfl)
  have cn := HNN.out 0 _ _ G0.out
  go_upto_region 4 with (first
    | (go_at_call 29; (with_reducible refine (dop0_any 1 (-1) (-1) (-1) _).mono ?_); rintro e y0 ⟨rfl, hb⟩; have Y0 := hid (G0.out.self hb); clear hb)
    | (go_at_call 28; (with_reducible refine (HD0.out _ _ Y0.out).mono ?_); rintro e v1 ⟨rfl, hb⟩; have G1 := hid hb; clear hb; clear ca0 ca1 ca2 cb0 cb1 cb2 fb0 fb1 fb2 cn; have ca0 := row_c (i := 0) (u := .int .i64 (A 0)) (G1.out.bl 2 rfl) rfl; have ca1 := row_c (i := 1) (u := .int .i64 (A 1)) (G1.out.bl 2 rfl) rfl; have ca2 := row_c (i := 2) (u := .int .i64 (A 2)) (G1.out.bl 2 rfl) rfl; have cb0 := row_c (i := 0) (u := .int .i64 (-1)) (G1.out.bl 0 rfl) rfl; have fb0 := frozen_of_row v1 g5 0 _ _ (G1.out.bl 0 rfl); have cb1 := row_c (i := 1) (u := .int .i64 (-1)) (G1.out.bl 0 rfl) rfl; have fb1 := frozen_of_row v1 g5 1 _ _ (G1.out.bl 0 rfl); have cb2 := row_c (i := 2) (u := .int .i64 (-1)) (G1.out.bl 0 rfl) rfl; have fb2 := frozen_of_row v1 g5 2 _ _ (G1.out.bl 0 rfl); have cn := HNN.out 1 _ _ G1.out))
  go_upto_region 8 with fail
  go_upto_region 9 with (first
    | (go_at_call 29; (with_reducible refine (dop0_any 5 0 (A 0) rg0 _).mono ?_); rintro e y1 ⟨rfl, hb⟩; have Y1 := hid (G1.out.self hb); clear hb)
    | (go_at_call 28; (with_reducible refine (HD1.out _ _ Y1.out).mono ?_); rintro e v2 ⟨rfl, hb⟩; have G2 := hid hb; clear hb; clear ca0 ca1 ca2 cb0 cb1 cb2 fb0 fb1 fb2 cn; have ca0 := row_c (i := 0) (u := .int .i64 (A 0)) (G2.out.bl 2 rfl) rfl; have ca1 := row_c (i := 1) (u := .int .i64 (A 1)) (G2.out.bl 2 rfl) rfl; have ca2 := row_c (i := 2) (u := .int .i64 (A 2)) (G2.out.bl 2 rfl) rfl; have cb0 := row_c (i := 0) (u := .int .i64 (-1)) (G2.out.bl 0 rfl) rfl; have fb0 := frozen_of_row v2 g5 0 _ _ (G2.out.bl 0 rfl); have cb1 := row_c (i := 1) (u := .int .i64 (-1)) (G2.out.bl 0 rfl) rfl; have fb1 := frozen_of_row v2 g5 1 _ _ (G2.out.bl 0 rfl); have cb2 := row_c (i := 2) (u := .int .i64 (-1)) (G2.out.bl 0 rfl) rfl; have fb2 := frozen_of_row v2 g5 2 _ _ (G2.out.bl 0 rfl); have cn := HNN.out 2 _ _ G2.out))
  have K2 : Hid (Od lg F0 w0 (v2.setCell ⟨g5, 0, none⟩ (.int .i64 rg1)) b (sqS S2 (opF2 A) 2) [(g5, .cells #[.int .i64 rg1, .int .i64 (-1), .int .i64 (-1)] 37 (0, 0)), (w.heap.size + 1, Obj.cells #[.int .i64 0, .int .i64 0, .int .i64 0] 37 (0, 0)), (w.heap.size, Obj.cells (wdV A) 37 (0, 0))]) := hid (G2.out.cell 0 (.int .i64 rg1))
  generalize v2.setCell ⟨g5, 0, none⟩ (.int .i64 rg1) = x2 at *
  clear ca0 ca1 ca2 cb0 cb1 cb2 fb0 fb1 fb2 cn
  have ca0 := row_c (i := 0) (u := .int .i64 (A 0)) (K2.out.bl 2 rfl) rfl
  have ca1 := row_c (i := 1) (u := .int .i64 (A 1)) (K2.out.bl 2 rfl) rfl
  have ca2 := row_c (i := 2) (u := .int .i64 (A 2)) (K2.out.bl 2 rfl) rfl
  have cb0 := row_c (i := 0) (u := .int .i64 rg1) (K2.out.bl 0 rfl) rfl
  have fb0 := frozen_of_row x2 g5 0 _ _ (K2.out.bl 0 rfl)
  have cb1 := row_c (i := 1) (u := .int .i64 (-1)) (K2.out.bl 0 rfl) rfl
  have fb1 := frozen_of_row x2 g5 1 _ _ (K2.out.bl 0 rfl)
  have cb2 := row_c (i := 2) (u := .int .i64 (-1)) (K2.out.bl 0 rfl) rfl
  have fb2 := frozen_of_row x2 g5 2 _ _ (K2.out.bl 0 rfl)
  have cn := HNN.out 2 _ _ K2.out
  go_upto_region 11 with fail
  go_upto_region 12 with (first
    | (go_at_call 29; (with_reducible refine (dop0_any 5 1 (A 1) rg0 _).mono ?_); rintro e y2 ⟨rfl, hb⟩; have Y2 := hid (K2.out.self hb); clear hb)
    | (go_at_call 28; (with_reducible refine (HD2.out _ _ Y2.out).mono ?_); rintro e v3 ⟨rfl, hb⟩; have G3 := hid hb; clear hb; clear ca0 ca1 ca2 cb0 cb1 cb2 fb0 fb1 fb2 cn; have ca0 := row_c (i := 0) (u := .int .i64 (A 0)) (G3.out.bl 2 rfl) rfl; have ca1 := row_c (i := 1) (u := .int .i64 (A 1)) (G3.out.bl 2 rfl) rfl; have ca2 := row_c (i := 2) (u := .int .i64 (A 2)) (G3.out.bl 2 rfl) rfl; have cb0 := row_c (i := 0) (u := .int .i64 rg1) (G3.out.bl 0 rfl) rfl; have fb0 := frozen_of_row v3 g5 0 _ _ (G3.out.bl 0 rfl); have cb1 := row_c (i := 1) (u := .int .i64 (-1)) (G3.out.bl 0 rfl) rfl; have fb1 := frozen_of_row v3 g5 1 _ _ (G3.out.bl 0 rfl); have cb2 := row_c (i := 2) (u := .int .i64 (-1)) (G3.out.bl 0 rfl) rfl; have fb2 := frozen_of_row v3 g5 2 _ _ (G3.out.bl 0 rfl); have cn := HNN.out 3 _ _ G3.out))
  have K3 : Hid (Od lg F0 w0 (v3.setCell ⟨g5, 1, none⟩ (.int .i64 rg2)) b (sqS S2 (opF2 A) 3) [(g5, .cells #[.int .i64 rg1, .int .i64 rg2, .int .i64 (-1)] 37 (0, 0)), (w.heap.size + 1, Obj.cells #[.int .i64 0, .int .i64 0, .int .i64 0] 37 (0, 0)), (w.heap.size, Obj.cells (wdV A) 37 (0, 0))]) := hid (G3.out.cell 1 (.int .i64 rg2))
  generalize v3.setCell ⟨g5, 1, none⟩ (.int .i64 rg2) = x3 at *
  clear ca0 ca1 ca2 cb0 cb1 cb2 fb0 fb1 fb2 cn
  have ca0 := row_c (i := 0) (u := .int .i64 (A 0)) (K3.out.bl 2 rfl) rfl
  have ca1 := row_c (i := 1) (u := .int .i64 (A 1)) (K3.out.bl 2 rfl) rfl
  have ca2 := row_c (i := 2) (u := .int .i64 (A 2)) (K3.out.bl 2 rfl) rfl
  have cb0 := row_c (i := 0) (u := .int .i64 rg1) (K3.out.bl 0 rfl) rfl
  have fb0 := frozen_of_row x3 g5 0 _ _ (K3.out.bl 0 rfl)
  have cb1 := row_c (i := 1) (u := .int .i64 rg2) (K3.out.bl 0 rfl) rfl
  have fb1 := frozen_of_row x3 g5 1 _ _ (K3.out.bl 0 rfl)
  have cb2 := row_c (i := 2) (u := .int .i64 (-1)) (K3.out.bl 0 rfl) rfl
  have fb2 := frozen_of_row x3 g5 2 _ _ (K3.out.bl 0 rfl)
  have cn := HNN.out 3 _ _ K3.out
  go_upto_region 16 with fail
  go_upto_region 17 with (go_at_call 63; (with_reducible refine (HEN.out _ _ K3.out).mono ?_); rintro e z1 ⟨rfl, hb⟩; have Z1 := hid hb; clear hb; clear ca0 ca1 ca2 cb0 cb1 cb2 fb0 fb1 fb2 cn)
  go_wp2_with (first
    | (refine step_load_row rfl 37 _ rfl g5 37 (#[.int .i64 rg1, .int .i64 rg2, .int .i64 (-1)]) _ rfl (Z1.out.bl 0 rfl) Tryz.underlying37 rfl (by kernel_rfl) ?_)
    | (refine step_store_row rfl 37 _ _ rfl (w.heap.size + 1) 37 _ (#[.int .i64 rg1, .int .i64 rg2, .int .i64 (-1)]) rfl rfl (Z1.out.bl 1 rfl) (by kernel_rfl) rfl (by kernel_rfl) ?_))
  have Z2 := hid (Z1.out.swap.row (#[.int .i64 rg1, .int .i64 rg2, .int .i64 (-1)]))
  exact bodyPost_ret (results_cell_row (by rfl) _ _ (w.heap.size + 1) 37 (#[.int .i64 rg1, .int .i64 rg2, .int .i64 (-1)]) (0, 0) _ rfl (Z2.out.bl 0 rfl) Tryz.underlying37 rfl (by kernel_rfl)) rfl ⟨rfl, Z2.out.drop.drop.drop⟩
set_option maxHeartbeats 12800000 in
theorem dfull3 {lg : LoG} {F0 : Nat → Prop} {w0 w : World} {b k : Nat} {S : Ms} (A : Nat → Int) (h : Od lg F0 w0 w b S []) (hq : Bq k S) (hk : k + 20 ≤ 100000) (hn : S.n = 3) (hA : Wb A) :
    Calls Tryz.prog 32 #[.pointer (some ⟨b, 0, none⟩), .agg (wdV A)] w fun e w' => e = .returned (.agg (wdV (frR S false A))) ∧ Od lg F0 w0 w' b (frS S false A) [] := by
  have hB := hq.begins 2
  have hwf : ∀ j, j < 9 → ∀ r, Wb r → opwf (opF3 A j r) := fun j _ r hr => opF3_wf hA hr j
  have hSB : ∀ j, j ≤ 9 → Bq (k + j) (sqS (S.beginS 2) (opF3 A) j) ∧ Wb (sqR (S.beginS 2) (opF3 A) j) := fun j hj => sq_bq hB (fun i hi => hwf i (by omega)) (by omega)
  have HBG : Hid (∀ (bs : List (Nat × Obj)) (w' : World), Od lg F0 w0 w' b S bs → Calls Tryz.prog 62 #[.pointer (some ⟨b, 0, none⟩), .int .i64 2] w' fun e w2 => e = .returned (.tuple #[]) ∧ Od lg F0 w0 w2 b (sqS (S.beginS 2) (opF3 A) 0) bs) := hid (fun bs w' h' => h'.begins 2 hq (by omega))
  have HD0 : Hid (∀ (bs : List (Nat × Obj)) (w' : World), Od lg F0 w0 w' b (sqS (S.beginS 2) (opF3 A) 0) bs → Calls Tryz.prog 28 #[.pointer (some ⟨b, 0, none⟩), .agg (opCs ⟨1, -1, -1, -1, -1, 0⟩), .int .u64 0] w' fun e w2 => e = .returned (.int .i64 (sqr (S.beginS 2) (opF3 A) 0)) ∧ Od lg F0 w0 w2 b (sqS (S.beginS 2) (opF3 A) 1) bs) := hid (fun bs w' h' => by
    have e : sqO (S.beginS 2) (opF3 A) 0 = ⟨1, -1, -1, -1, -1, 0⟩ := by
      unfold sqO
      generalize sqR (S.beginS 2) (opF3 A) 0 = r
      rfl
    skip
    have h2 := h'.do0 (sqO (S.beginS 2) (opF3 A) 0) (hSB 0 (by omega)).1 (by omega) (hwf 0 (by omega) _ (hSB 0 (by omega)).2)
    rw [← e, show sqS (S.beginS 2) (opF3 A) 1 = (sqS (S.beginS 2) (opF3 A) 0).doS (sqO (S.beginS 2) (opF3 A) 0) 0 from sqS_next _ _ _]
    unfold sqr
    exact h2)
  have HD1 : Hid (∀ (bs : List (Nat × Obj)) (w' : World), Od lg F0 w0 w' b (sqS (S.beginS 2) (opF3 A) 1) bs → Calls Tryz.prog 28 #[.pointer (some ⟨b, 0, none⟩), .agg (opCs ⟨1, -1, -1, -1, -1, 0⟩), .int .u64 0] w' fun e w2 => e = .returned (.int .i64 (sqr (S.beginS 2) (opF3 A) 1)) ∧ Od lg F0 w0 w2 b (sqS (S.beginS 2) (opF3 A) 2) bs) := hid (fun bs w' h' => by
    have e : sqO (S.beginS 2) (opF3 A) 1 = ⟨1, -1, -1, -1, -1, 0⟩ := by
      unfold sqO
      generalize sqR (S.beginS 2) (opF3 A) 1 = r
      rfl
    skip
    have h2 := h'.do0 (sqO (S.beginS 2) (opF3 A) 1) (hSB 1 (by omega)).1 (by omega) (hwf 1 (by omega) _ (hSB 1 (by omega)).2)
    rw [← e, show sqS (S.beginS 2) (opF3 A) 2 = (sqS (S.beginS 2) (opF3 A) 1).doS (sqO (S.beginS 2) (opF3 A) 1) 0 from sqS_next _ _ _]
    unfold sqr
    exact h2)
  have HD2 : Hid (∀ (bs : List (Nat × Obj)) (w' : World), Od lg F0 w0 w' b (sqS (S.beginS 2) (opF3 A) 2) bs → Calls Tryz.prog 28 #[.pointer (some ⟨b, 0, none⟩), .agg (opCs ⟨1, -1, -1, -1, -1, 0⟩), .int .u64 0] w' fun e w2 => e = .returned (.int .i64 (sqr (S.beginS 2) (opF3 A) 2)) ∧ Od lg F0 w0 w2 b (sqS (S.beginS 2) (opF3 A) 3) bs) := hid (fun bs w' h' => by
    have e : sqO (S.beginS 2) (opF3 A) 2 = ⟨1, -1, -1, -1, -1, 0⟩ := by
      unfold sqO
      generalize sqR (S.beginS 2) (opF3 A) 2 = r
      rfl
    skip
    have h2 := h'.do0 (sqO (S.beginS 2) (opF3 A) 2) (hSB 2 (by omega)).1 (by omega) (hwf 2 (by omega) _ (hSB 2 (by omega)).2)
    rw [← e, show sqS (S.beginS 2) (opF3 A) 3 = (sqS (S.beginS 2) (opF3 A) 2).doS (sqO (S.beginS 2) (opF3 A) 2) 0 from sqS_next _ _ _]
    unfold sqr
    exact h2)
  have HD3 : Hid (∀ (bs : List (Nat × Obj)) (w' : World), Od lg F0 w0 w' b (sqS (S.beginS 2) (opF3 A) 3) bs → Calls Tryz.prog 28 #[.pointer (some ⟨b, 0, none⟩), .agg (opCs ⟨5, 0, (A 0), sqr (S.beginS 2) (opF3 A) (0), -1, 0⟩), .int .u64 0] w' fun e w2 => e = .returned (.int .i64 (sqr (S.beginS 2) (opF3 A) 3)) ∧ Od lg F0 w0 w2 b (sqS (S.beginS 2) (opF3 A) 4) bs) := hid (fun bs w' h' => by
    have e : sqO (S.beginS 2) (opF3 A) 3 = ⟨5, 0, (A 0), sqR (S.beginS 2) (opF3 A) 3 0, -1, 0⟩ := by
      unfold sqO
      generalize sqR (S.beginS 2) (opF3 A) 3 = r
      rfl
    rw [sqR_at _ _ (by omega : 0 < 3)] at e
    have h2 := h'.do0 (sqO (S.beginS 2) (opF3 A) 3) (hSB 3 (by omega)).1 (by omega) (hwf 3 (by omega) _ (hSB 3 (by omega)).2)
    rw [← e, show sqS (S.beginS 2) (opF3 A) 4 = (sqS (S.beginS 2) (opF3 A) 3).doS (sqO (S.beginS 2) (opF3 A) 3) 0 from sqS_next _ _ _]
    unfold sqr
    exact h2)
  have HD4 : Hid (∀ (bs : List (Nat × Obj)) (w' : World), Od lg F0 w0 w' b (sqS (S.beginS 2) (opF3 A) 4) bs → Calls Tryz.prog 28 #[.pointer (some ⟨b, 0, none⟩), .agg (opCs ⟨5, 0, sqr (S.beginS 2) (opF3 A) (3), sqr (S.beginS 2) (opF3 A) (1), -1, 0⟩), .int .u64 0] w' fun e w2 => e = .returned (.int .i64 (sqr (S.beginS 2) (opF3 A) 4)) ∧ Od lg F0 w0 w2 b (sqS (S.beginS 2) (opF3 A) 5) bs) := hid (fun bs w' h' => by
    have e : sqO (S.beginS 2) (opF3 A) 4 = ⟨5, 0, sqR (S.beginS 2) (opF3 A) 4 3, sqR (S.beginS 2) (opF3 A) 4 1, -1, 0⟩ := by
      unfold sqO
      generalize sqR (S.beginS 2) (opF3 A) 4 = r
      rfl
    rw [sqR_at _ _ (by omega : 3 < 4), sqR_at _ _ (by omega : 1 < 4)] at e
    have h2 := h'.do0 (sqO (S.beginS 2) (opF3 A) 4) (hSB 4 (by omega)).1 (by omega) (hwf 4 (by omega) _ (hSB 4 (by omega)).2)
    rw [← e, show sqS (S.beginS 2) (opF3 A) 5 = (sqS (S.beginS 2) (opF3 A) 4).doS (sqO (S.beginS 2) (opF3 A) 4) 0 from sqS_next _ _ _]
    unfold sqr
    exact h2)
  have HD5 : Hid (∀ (bs : List (Nat × Obj)) (w' : World), Od lg F0 w0 w' b (sqS (S.beginS 2) (opF3 A) 5) bs → Calls Tryz.prog 28 #[.pointer (some ⟨b, 0, none⟩), .agg (opCs ⟨5, 1, (A 1), sqr (S.beginS 2) (opF3 A) (0), -1, 0⟩), .int .u64 0] w' fun e w2 => e = .returned (.int .i64 (sqr (S.beginS 2) (opF3 A) 5)) ∧ Od lg F0 w0 w2 b (sqS (S.beginS 2) (opF3 A) 6) bs) := hid (fun bs w' h' => by
    have e : sqO (S.beginS 2) (opF3 A) 5 = ⟨5, 1, (A 1), sqR (S.beginS 2) (opF3 A) 5 0, -1, 0⟩ := by
      unfold sqO
      generalize sqR (S.beginS 2) (opF3 A) 5 = r
      rfl
    rw [sqR_at _ _ (by omega : 0 < 5)] at e
    have h2 := h'.do0 (sqO (S.beginS 2) (opF3 A) 5) (hSB 5 (by omega)).1 (by omega) (hwf 5 (by omega) _ (hSB 5 (by omega)).2)
    rw [← e, show sqS (S.beginS 2) (opF3 A) 6 = (sqS (S.beginS 2) (opF3 A) 5).doS (sqO (S.beginS 2) (opF3 A) 5) 0 from sqS_next _ _ _]
    unfold sqr
    exact h2)
  have HD6 : Hid (∀ (bs : List (Nat × Obj)) (w' : World), Od lg F0 w0 w' b (sqS (S.beginS 2) (opF3 A) 6) bs → Calls Tryz.prog 28 #[.pointer (some ⟨b, 0, none⟩), .agg (opCs ⟨5, 1, sqr (S.beginS 2) (opF3 A) (5), sqr (S.beginS 2) (opF3 A) (2), -1, 0⟩), .int .u64 0] w' fun e w2 => e = .returned (.int .i64 (sqr (S.beginS 2) (opF3 A) 6)) ∧ Od lg F0 w0 w2 b (sqS (S.beginS 2) (opF3 A) 7) bs) := hid (fun bs w' h' => by
    have e : sqO (S.beginS 2) (opF3 A) 6 = ⟨5, 1, sqR (S.beginS 2) (opF3 A) 6 5, sqR (S.beginS 2) (opF3 A) 6 2, -1, 0⟩ := by
      unfold sqO
      generalize sqR (S.beginS 2) (opF3 A) 6 = r
      rfl
    rw [sqR_at _ _ (by omega : 5 < 6), sqR_at _ _ (by omega : 2 < 6)] at e
    have h2 := h'.do0 (sqO (S.beginS 2) (opF3 A) 6) (hSB 6 (by omega)).1 (by omega) (hwf 6 (by omega) _ (hSB 6 (by omega)).2)
    rw [← e, show sqS (S.beginS 2) (opF3 A) 7 = (sqS (S.beginS 2) (opF3 A) 6).doS (sqO (S.beginS 2) (opF3 A) 6) 0 from sqS_next _ _ _]
    unfold sqr
    exact h2)
  have HD7 : Hid (∀ (bs : List (Nat × Obj)) (w' : World), Od lg F0 w0 w' b (sqS (S.beginS 2) (opF3 A) 7) bs → Calls Tryz.prog 28 #[.pointer (some ⟨b, 0, none⟩), .agg (opCs ⟨5, 2, (A 2), sqr (S.beginS 2) (opF3 A) (1), -1, 0⟩), .int .u64 0] w' fun e w2 => e = .returned (.int .i64 (sqr (S.beginS 2) (opF3 A) 7)) ∧ Od lg F0 w0 w2 b (sqS (S.beginS 2) (opF3 A) 8) bs) := hid (fun bs w' h' => by
    have e : sqO (S.beginS 2) (opF3 A) 7 = ⟨5, 2, (A 2), sqR (S.beginS 2) (opF3 A) 7 1, -1, 0⟩ := by
      unfold sqO
      generalize sqR (S.beginS 2) (opF3 A) 7 = r
      rfl
    rw [sqR_at _ _ (by omega : 1 < 7)] at e
    have h2 := h'.do0 (sqO (S.beginS 2) (opF3 A) 7) (hSB 7 (by omega)).1 (by omega) (hwf 7 (by omega) _ (hSB 7 (by omega)).2)
    rw [← e, show sqS (S.beginS 2) (opF3 A) 8 = (sqS (S.beginS 2) (opF3 A) 7).doS (sqO (S.beginS 2) (opF3 A) 7) 0 from sqS_next _ _ _]
    unfold sqr
    exact h2)
  have HD8 : Hid (∀ (bs : List (Nat × Obj)) (w' : World), Od lg F0 w0 w' b (sqS (S.beginS 2) (opF3 A) 8) bs → Calls Tryz.prog 28 #[.pointer (some ⟨b, 0, none⟩), .agg (opCs ⟨5, 2, sqr (S.beginS 2) (opF3 A) (7), sqr (S.beginS 2) (opF3 A) (2), -1, 0⟩), .int .u64 0] w' fun e w2 => e = .returned (.int .i64 (sqr (S.beginS 2) (opF3 A) 8)) ∧ Od lg F0 w0 w2 b (sqS (S.beginS 2) (opF3 A) 9) bs) := hid (fun bs w' h' => by
    have e : sqO (S.beginS 2) (opF3 A) 8 = ⟨5, 2, sqR (S.beginS 2) (opF3 A) 8 7, sqR (S.beginS 2) (opF3 A) 8 2, -1, 0⟩ := by
      unfold sqO
      generalize sqR (S.beginS 2) (opF3 A) 8 = r
      rfl
    rw [sqR_at _ _ (by omega : 7 < 8), sqR_at _ _ (by omega : 2 < 8)] at e
    have h2 := h'.do0 (sqO (S.beginS 2) (opF3 A) 8) (hSB 8 (by omega)).1 (by omega) (hwf 8 (by omega) _ (hSB 8 (by omega)).2)
    rw [← e, show sqS (S.beginS 2) (opF3 A) 9 = (sqS (S.beginS 2) (opF3 A) 8).doS (sqO (S.beginS 2) (opF3 A) 8) 0 from sqS_next _ _ _]
    unfold sqr
    exact h2)
  have HEN : Hid (∀ (bs : List (Nat × Obj)) (w' : World), Od lg F0 w0 w' b (sqS (S.beginS 2) (opF3 A) 9) bs → Calls Tryz.prog 63 #[.pointer (some ⟨b, 0, none⟩)] w' fun e w2 => e = .returned (.tuple #[]) ∧ Od lg F0 w0 w2 b (frS S false A) bs) := hid (fun bs w' h' => by
    rw [show frS S false A = (sqS (S.beginS 2) (opF3 A) 9).endS from by unfold frS frO frM blkS; rw [if_pos hn, if_pos hn, if_neg (by decide), if_neg (by decide)]]
    exact h'.ends (hSB 9 (by omega)).1 (by omega))
  have HNN : Hid (∀ (j : Nat) (bs : List (Nat × Obj)) (w' : World), Od lg F0 w0 w' b (sqS (S.beginS 2) (opF3 A) j) bs → w'.cell? ⟨b, 0, none⟩ = some (.int .i64 3)) := hid (fun j bs w' h' => by have := h'.n; rw [sqS_n, hn] at this; exact this)
  have HN0 : Hid (∀ (bs : List (Nat × Obj)) (w' : World), Od lg F0 w0 w' b S bs → w'.cell? ⟨b, 0, none⟩ = some (.int .i64 3)) := hid (fun bs w' h' => by have := h'.n; rw [hn] at this; exact this)
  have HR : Hid (frR S false A = reg3 (sqr (S.beginS 2) (opF3 A) 4) (sqr (S.beginS 2) (opF3 A) 6) (sqr (S.beginS 2) (opF3 A) 8)) := hid (by unfold frR; rw [if_pos hn, if_neg (by decide)])
  obtain ⟨w1, hw1⟩ : ∃ w1, (w.alloc (.cells (wdV A) 37)).alloc (.cells #[.int .i64 0, .int .i64 0, .int .i64 0] 37) = w1 := ⟨_, rfl⟩
  have H1 : Hid (Od lg F0 w0 w1 b S [(w.heap.size + 1, Obj.cells #[.int .i64 0, .int .i64 0, .int .i64 0] 37 (0, 0)), (w.heap.size, Obj.cells (wdV A) 37 (0, 0))]) := hid (by
    have := (h.new (wdV A) 37).new #[.int .i64 0, .int .i64 0, .int .i64 0] 37
    rw [hw1] at this
    simp only [sz_al] at this
    exact this)
  have HW := hid hw1
  clear h hq hk hn hA hB hwf hSB hw1
  rw [HR.out]
  clear HR
  generalize frS S false A = S3 at *
  generalize sqr (S.beginS 2) (opF3 A) 0 = rg0 at *
  generalize sqr (S.beginS 2) (opF3 A) 1 = rg1 at *
  generalize sqr (S.beginS 2) (opF3 A) 2 = rg2 at *
  generalize sqr (S.beginS 2) (opF3 A) 3 = rg3 at *
  generalize sqr (S.beginS 2) (opF3 A) 4 = rg4 at *
  generalize sqr (S.beginS 2) (opF3 A) 5 = rg5 at *
  generalize sqr (S.beginS 2) (opF3 A) 6 = rg6 at *
  generalize sqr (S.beginS 2) (opF3 A) 7 = rg7 at *
  generalize sqr (S.beginS 2) (opF3 A) 8 = rg8 at *
  generalize S.beginS 2 = S2 at *
  go_enter Tryz.func32, Tryz.ntmps32
  go_upto_region 1 with fail
  rw [HW.out]
  go_upto_region 2 with (go_at_call 27; (with_reducible refine (none_any _).mono ?_); rintro e w2 ⟨rfl, hb⟩; have H2 := hid (H1.out.self hb); clear hb)
  have H3 := hid (H2.out.new (wdV none3) 37)
  obtain ⟨g5, hg5⟩ : ∃ g5, w2.heap.size = g5 := ⟨_, rfl⟩
  rw [hg5] at H3
  have H4 : Hid (Od lg F0 w0 (w2.alloc (.cells #[.int .i64 (none3 0), .int .i64 (none3 1), .int .i64 (none3 2)] 37)) b S [(g5, .cells #[.int .i64 (-1), .int .i64 (-1), .int .i64 (-1)] 37 (0, 0)), (w.heap.size + 1, Obj.cells #[.int .i64 0, .int .i64 0, .int .i64 0] 37 (0, 0)), (w.heap.size, Obj.cells (wdV A) 37 (0, 0))]) := H3
  generalize w2.alloc (.cells #[.int .i64 (none3 0), .int .i64 (none3 1), .int .i64 (none3 2)] 37) = w4 at *
  rw [hg5]
  clear hg5 H3 H2 H1
  go_upto_region 3 with (go_at_call 62; (with_reducible refine (HBG.out _ _ H4.out).mono ?_); rintro e v0 ⟨rfl, hb⟩; have G0 := hid hb; clear hb)
  have ca0 := row_c (i := 0) (u := .int .i64 (A 0)) (G0.out.bl 2 rfl) rfl
  have ca1 := row_c (i := 1) (u := .int .i64 (A 1)) (G0.out.bl 2 rfl) rfl
  have ca2 := row_c (i := 2) (u := .int .i64 (A 2)) (G0.out.bl 2 rfl) rfl
  have cb0 := row_c (i := 0) (u := .int .i64 (-1)) (G0.out.bl 0 rfl) rfl
  have fb0 := frozen_of_row v0 g5 0 _ _ (G0.out.bl 0 rfl)
  have cb1 := row_c (i := 1) (u := .int .i64 (-1)) (G0.out.bl 0 rfl) rfl
  have fb1 := frozen_of_row v0 g5 1 _ _ (G0.out.bl 0 rfl)
  have cb2 := row_c (i := 2) (u := .int .i64 (-1)) (G0.out.bl 0 rfl) rfl
  have fb2 := frozen_of_row v0 g5 2 _ _ (G0.out.bl 0 rfl)
  have cn := HNN.out 0 _ _ G0.out
  go_upto_region 4 with (first
    | (go_at_call 29; (with_reducible refine (dop0_any 1 (-1) (-1) (-1) _).mono ?_); rintro e y0 ⟨rfl, hb⟩; have Y0 := hid (G0.out.self hb); clear hb)
    | (go_at_call 28; (with_reducible refine (HD0.out _ _ Y0.out).mono ?_); rintro e v1 ⟨rfl, hb⟩; have G1 := hid hb; clear hb; clear ca0 ca1 ca2 cb0 cb1 cb2 fb0 fb1 fb2 cn; have ca0 := row_c (i := 0) (u := .int .i64 (A 0)) (G1.out.bl 2 rfl) rfl; have ca1 := row_c (i := 1) (u := .int .i64 (A 1)) (G1.out.bl 2 rfl) rfl; have ca2 := row_c (i := 2) (u := .int .i64 (A 2)) (G1.out.bl 2 rfl) rfl; have cb0 := row_c (i := 0) (u := .int .i64 (-1)) (G1.out.bl 0 rfl) rfl; have fb0 := frozen_of_row v1 g5 0 _ _ (G1.out.bl 0 rfl); have cb1 := row_c (i := 1) (u := .int .i64 (-1)) (G1.out.bl 0 rfl) rfl; have fb1 := frozen_of_row v1 g5 1 _ _ (G1.out.bl 0 rfl); have cb2 := row_c (i := 2) (u := .int .i64 (-1)) (G1.out.bl 0 rfl) rfl; have fb2 := frozen_of_row v1 g5 2 _ _ (G1.out.bl 0 rfl); have cn := HNN.out 1 _ _ G1.out))
  go_upto_region 6 with fail
  go_upto_region 7 with (first
    | (go_at_call 29; (with_reducible refine (dop0_any 1 (-1) (-1) (-1) _).mono ?_); rintro e y1 ⟨rfl, hb⟩; have Y1 := hid (G1.out.self hb); clear hb)
    | (go_at_call 28; (with_reducible refine (HD1.out _ _ Y1.out).mono ?_); rintro e v2 ⟨rfl, hb⟩; have G2 := hid hb; clear hb; clear ca0 ca1 ca2 cb0 cb1 cb2 fb0 fb1 fb2 cn; have ca0 := row_c (i := 0) (u := .int .i64 (A 0)) (G2.out.bl 2 rfl) rfl; have ca1 := row_c (i := 1) (u := .int .i64 (A 1)) (G2.out.bl 2 rfl) rfl; have ca2 := row_c (i := 2) (u := .int .i64 (A 2)) (G2.out.bl 2 rfl) rfl; have cb0 := row_c (i := 0) (u := .int .i64 (-1)) (G2.out.bl 0 rfl) rfl; have fb0 := frozen_of_row v2 g5 0 _ _ (G2.out.bl 0 rfl); have cb1 := row_c (i := 1) (u := .int .i64 (-1)) (G2.out.bl 0 rfl) rfl; have fb1 := frozen_of_row v2 g5 1 _ _ (G2.out.bl 0 rfl); have cb2 := row_c (i := 2) (u := .int .i64 (-1)) (G2.out.bl 0 rfl) rfl; have fb2 := frozen_of_row v2 g5 2 _ _ (G2.out.bl 0 rfl); have cn := HNN.out 2 _ _ G2.out))
  go_upto_region 8 with (first
    | (go_at_call 29; (with_reducible refine (dop0_any 1 (-1) (-1) (-1) _).mono ?_); rintro e y2 ⟨rfl, hb⟩; have Y2 := hid (G2.out.self hb); clear hb)
    | (go_at_call 28; (with_reducible refine (HD2.out _ _ Y2.out).mono ?_); rintro e v3 ⟨rfl, hb⟩; have G3 := hid hb; clear hb; clear ca0 ca1 ca2 cb0 cb1 cb2 fb0 fb1 fb2 cn; have ca0 := row_c (i := 0) (u := .int .i64 (A 0)) (G3.out.bl 2 rfl) rfl; have ca1 := row_c (i := 1) (u := .int .i64 (A 1)) (G3.out.bl 2 rfl) rfl; have ca2 := row_c (i := 2) (u := .int .i64 (A 2)) (G3.out.bl 2 rfl) rfl; have cb0 := row_c (i := 0) (u := .int .i64 (-1)) (G3.out.bl 0 rfl) rfl; have fb0 := frozen_of_row v3 g5 0 _ _ (G3.out.bl 0 rfl); have cb1 := row_c (i := 1) (u := .int .i64 (-1)) (G3.out.bl 0 rfl) rfl; have fb1 := frozen_of_row v3 g5 1 _ _ (G3.out.bl 0 rfl); have cb2 := row_c (i := 2) (u := .int .i64 (-1)) (G3.out.bl 0 rfl) rfl; have fb2 := frozen_of_row v3 g5 2 _ _ (G3.out.bl 0 rfl); have cn := HNN.out 3 _ _ G3.out))
  go_upto_region 9 with (first
    | (go_at_call 29; (with_reducible refine (dop0_any 5 0 (A 0) rg0 _).mono ?_); rintro e y3 ⟨rfl, hb⟩; have Y3 := hid (G3.out.self hb); clear hb)
    | (go_at_call 28; (with_reducible refine (HD3.out _ _ Y3.out).mono ?_); rintro e v4 ⟨rfl, hb⟩; have G4 := hid hb; clear hb; clear ca0 ca1 ca2 cb0 cb1 cb2 fb0 fb1 fb2 cn; have ca0 := row_c (i := 0) (u := .int .i64 (A 0)) (G4.out.bl 2 rfl) rfl; have ca1 := row_c (i := 1) (u := .int .i64 (A 1)) (G4.out.bl 2 rfl) rfl; have ca2 := row_c (i := 2) (u := .int .i64 (A 2)) (G4.out.bl 2 rfl) rfl; have cb0 := row_c (i := 0) (u := .int .i64 (-1)) (G4.out.bl 0 rfl) rfl; have fb0 := frozen_of_row v4 g5 0 _ _ (G4.out.bl 0 rfl); have cb1 := row_c (i := 1) (u := .int .i64 (-1)) (G4.out.bl 0 rfl) rfl; have fb1 := frozen_of_row v4 g5 1 _ _ (G4.out.bl 0 rfl); have cb2 := row_c (i := 2) (u := .int .i64 (-1)) (G4.out.bl 0 rfl) rfl; have fb2 := frozen_of_row v4 g5 2 _ _ (G4.out.bl 0 rfl); have cn := HNN.out 4 _ _ G4.out))
  have K4 : Hid (Od lg F0 w0 (v4.setCell ⟨g5, 0, none⟩ (.int .i64 rg3)) b (sqS S2 (opF3 A) 4) [(g5, .cells #[.int .i64 rg3, .int .i64 (-1), .int .i64 (-1)] 37 (0, 0)), (w.heap.size + 1, Obj.cells #[.int .i64 0, .int .i64 0, .int .i64 0] 37 (0, 0)), (w.heap.size, Obj.cells (wdV A) 37 (0, 0))]) := hid (G4.out.cell 0 (.int .i64 rg3))
  generalize v4.setCell ⟨g5, 0, none⟩ (.int .i64 rg3) = x4 at *
  clear ca0 ca1 ca2 cb0 cb1 cb2 fb0 fb1 fb2 cn
  have ca0 := row_c (i := 0) (u := .int .i64 (A 0)) (K4.out.bl 2 rfl) rfl
  have ca1 := row_c (i := 1) (u := .int .i64 (A 1)) (K4.out.bl 2 rfl) rfl
  have ca2 := row_c (i := 2) (u := .int .i64 (A 2)) (K4.out.bl 2 rfl) rfl
  have cb0 := row_c (i := 0) (u := .int .i64 rg3) (K4.out.bl 0 rfl) rfl
  have fb0 := frozen_of_row x4 g5 0 _ _ (K4.out.bl 0 rfl)
  have cb1 := row_c (i := 1) (u := .int .i64 (-1)) (K4.out.bl 0 rfl) rfl
  have fb1 := frozen_of_row x4 g5 1 _ _ (K4.out.bl 0 rfl)
  have cb2 := row_c (i := 2) (u := .int .i64 (-1)) (K4.out.bl 0 rfl) rfl
  have fb2 := frozen_of_row x4 g5 2 _ _ (K4.out.bl 0 rfl)
  have cn := HNN.out 4 _ _ K4.out
  go_upto_region 10 with fail
  go_upto_region 11 with (first
    | (go_at_call 29; (with_reducible refine (dop0_any 5 0 rg3 rg1 _).mono ?_); rintro e y4 ⟨rfl, hb⟩; have Y4 := hid (K4.out.self hb); clear hb)
    | (go_at_call 28; (with_reducible refine (HD4.out _ _ Y4.out).mono ?_); rintro e v5 ⟨rfl, hb⟩; have G5 := hid hb; clear hb; clear ca0 ca1 ca2 cb0 cb1 cb2 fb0 fb1 fb2 cn; have ca0 := row_c (i := 0) (u := .int .i64 (A 0)) (G5.out.bl 2 rfl) rfl; have ca1 := row_c (i := 1) (u := .int .i64 (A 1)) (G5.out.bl 2 rfl) rfl; have ca2 := row_c (i := 2) (u := .int .i64 (A 2)) (G5.out.bl 2 rfl) rfl; have cb0 := row_c (i := 0) (u := .int .i64 rg3) (G5.out.bl 0 rfl) rfl; have fb0 := frozen_of_row v5 g5 0 _ _ (G5.out.bl 0 rfl); have cb1 := row_c (i := 1) (u := .int .i64 (-1)) (G5.out.bl 0 rfl) rfl; have fb1 := frozen_of_row v5 g5 1 _ _ (G5.out.bl 0 rfl); have cb2 := row_c (i := 2) (u := .int .i64 (-1)) (G5.out.bl 0 rfl) rfl; have fb2 := frozen_of_row v5 g5 2 _ _ (G5.out.bl 0 rfl); have cn := HNN.out 5 _ _ G5.out))
  have K5 : Hid (Od lg F0 w0 (v5.setCell ⟨g5, 0, none⟩ (.int .i64 rg4)) b (sqS S2 (opF3 A) 5) [(g5, .cells #[.int .i64 rg4, .int .i64 (-1), .int .i64 (-1)] 37 (0, 0)), (w.heap.size + 1, Obj.cells #[.int .i64 0, .int .i64 0, .int .i64 0] 37 (0, 0)), (w.heap.size, Obj.cells (wdV A) 37 (0, 0))]) := hid (G5.out.cell 0 (.int .i64 rg4))
  generalize v5.setCell ⟨g5, 0, none⟩ (.int .i64 rg4) = x5 at *
  clear ca0 ca1 ca2 cb0 cb1 cb2 fb0 fb1 fb2 cn
  have ca0 := row_c (i := 0) (u := .int .i64 (A 0)) (K5.out.bl 2 rfl) rfl
  have ca1 := row_c (i := 1) (u := .int .i64 (A 1)) (K5.out.bl 2 rfl) rfl
  have ca2 := row_c (i := 2) (u := .int .i64 (A 2)) (K5.out.bl 2 rfl) rfl
  have cb0 := row_c (i := 0) (u := .int .i64 rg4) (K5.out.bl 0 rfl) rfl
  have fb0 := frozen_of_row x5 g5 0 _ _ (K5.out.bl 0 rfl)
  have cb1 := row_c (i := 1) (u := .int .i64 (-1)) (K5.out.bl 0 rfl) rfl
  have fb1 := frozen_of_row x5 g5 1 _ _ (K5.out.bl 0 rfl)
  have cb2 := row_c (i := 2) (u := .int .i64 (-1)) (K5.out.bl 0 rfl) rfl
  have fb2 := frozen_of_row x5 g5 2 _ _ (K5.out.bl 0 rfl)
  have cn := HNN.out 5 _ _ K5.out
  go_upto_region 12 with (first
    | (go_at_call 29; (with_reducible refine (dop0_any 5 1 (A 1) rg0 _).mono ?_); rintro e y5 ⟨rfl, hb⟩; have Y5 := hid (K5.out.self hb); clear hb)
    | (go_at_call 28; (with_reducible refine (HD5.out _ _ Y5.out).mono ?_); rintro e v6 ⟨rfl, hb⟩; have G6 := hid hb; clear hb; clear ca0 ca1 ca2 cb0 cb1 cb2 fb0 fb1 fb2 cn; have ca0 := row_c (i := 0) (u := .int .i64 (A 0)) (G6.out.bl 2 rfl) rfl; have ca1 := row_c (i := 1) (u := .int .i64 (A 1)) (G6.out.bl 2 rfl) rfl; have ca2 := row_c (i := 2) (u := .int .i64 (A 2)) (G6.out.bl 2 rfl) rfl; have cb0 := row_c (i := 0) (u := .int .i64 rg4) (G6.out.bl 0 rfl) rfl; have fb0 := frozen_of_row v6 g5 0 _ _ (G6.out.bl 0 rfl); have cb1 := row_c (i := 1) (u := .int .i64 (-1)) (G6.out.bl 0 rfl) rfl; have fb1 := frozen_of_row v6 g5 1 _ _ (G6.out.bl 0 rfl); have cb2 := row_c (i := 2) (u := .int .i64 (-1)) (G6.out.bl 0 rfl) rfl; have fb2 := frozen_of_row v6 g5 2 _ _ (G6.out.bl 0 rfl); have cn := HNN.out 6 _ _ G6.out))
  have K6 : Hid (Od lg F0 w0 (v6.setCell ⟨g5, 1, none⟩ (.int .i64 rg5)) b (sqS S2 (opF3 A) 6) [(g5, .cells #[.int .i64 rg4, .int .i64 rg5, .int .i64 (-1)] 37 (0, 0)), (w.heap.size + 1, Obj.cells #[.int .i64 0, .int .i64 0, .int .i64 0] 37 (0, 0)), (w.heap.size, Obj.cells (wdV A) 37 (0, 0))]) := hid (G6.out.cell 1 (.int .i64 rg5))
  generalize v6.setCell ⟨g5, 1, none⟩ (.int .i64 rg5) = x6 at *
  clear ca0 ca1 ca2 cb0 cb1 cb2 fb0 fb1 fb2 cn
  have ca0 := row_c (i := 0) (u := .int .i64 (A 0)) (K6.out.bl 2 rfl) rfl
  have ca1 := row_c (i := 1) (u := .int .i64 (A 1)) (K6.out.bl 2 rfl) rfl
  have ca2 := row_c (i := 2) (u := .int .i64 (A 2)) (K6.out.bl 2 rfl) rfl
  have cb0 := row_c (i := 0) (u := .int .i64 rg4) (K6.out.bl 0 rfl) rfl
  have fb0 := frozen_of_row x6 g5 0 _ _ (K6.out.bl 0 rfl)
  have cb1 := row_c (i := 1) (u := .int .i64 rg5) (K6.out.bl 0 rfl) rfl
  have fb1 := frozen_of_row x6 g5 1 _ _ (K6.out.bl 0 rfl)
  have cb2 := row_c (i := 2) (u := .int .i64 (-1)) (K6.out.bl 0 rfl) rfl
  have fb2 := frozen_of_row x6 g5 2 _ _ (K6.out.bl 0 rfl)
  have cn := HNN.out 6 _ _ K6.out
  go_upto_region 13 with fail
  go_upto_region 14 with (first
    | (go_at_call 29; (with_reducible refine (dop0_any 5 1 rg5 rg2 _).mono ?_); rintro e y6 ⟨rfl, hb⟩; have Y6 := hid (K6.out.self hb); clear hb)
    | (go_at_call 28; (with_reducible refine (HD6.out _ _ Y6.out).mono ?_); rintro e v7 ⟨rfl, hb⟩; have G7 := hid hb; clear hb; clear ca0 ca1 ca2 cb0 cb1 cb2 fb0 fb1 fb2 cn; have ca0 := row_c (i := 0) (u := .int .i64 (A 0)) (G7.out.bl 2 rfl) rfl; have ca1 := row_c (i := 1) (u := .int .i64 (A 1)) (G7.out.bl 2 rfl) rfl; have ca2 := row_c (i := 2) (u := .int .i64 (A 2)) (G7.out.bl 2 rfl) rfl; have cb0 := row_c (i := 0) (u := .int .i64 rg4) (G7.out.bl 0 rfl) rfl; have fb0 := frozen_of_row v7 g5 0 _ _ (G7.out.bl 0 rfl); have cb1 := row_c (i := 1) (u := .int .i64 rg5) (G7.out.bl 0 rfl) rfl; have fb1 := frozen_of_row v7 g5 1 _ _ (G7.out.bl 0 rfl); have cb2 := row_c (i := 2) (u := .int .i64 (-1)) (G7.out.bl 0 rfl) rfl; have fb2 := frozen_of_row v7 g5 2 _ _ (G7.out.bl 0 rfl); have cn := HNN.out 7 _ _ G7.out))
  have K7 : Hid (Od lg F0 w0 (v7.setCell ⟨g5, 1, none⟩ (.int .i64 rg6)) b (sqS S2 (opF3 A) 7) [(g5, .cells #[.int .i64 rg4, .int .i64 rg6, .int .i64 (-1)] 37 (0, 0)), (w.heap.size + 1, Obj.cells #[.int .i64 0, .int .i64 0, .int .i64 0] 37 (0, 0)), (w.heap.size, Obj.cells (wdV A) 37 (0, 0))]) := hid (G7.out.cell 1 (.int .i64 rg6))
  generalize v7.setCell ⟨g5, 1, none⟩ (.int .i64 rg6) = x7 at *
  clear ca0 ca1 ca2 cb0 cb1 cb2 fb0 fb1 fb2 cn
  have ca0 := row_c (i := 0) (u := .int .i64 (A 0)) (K7.out.bl 2 rfl) rfl
  have ca1 := row_c (i := 1) (u := .int .i64 (A 1)) (K7.out.bl 2 rfl) rfl
  have ca2 := row_c (i := 2) (u := .int .i64 (A 2)) (K7.out.bl 2 rfl) rfl
  have cb0 := row_c (i := 0) (u := .int .i64 rg4) (K7.out.bl 0 rfl) rfl
  have fb0 := frozen_of_row x7 g5 0 _ _ (K7.out.bl 0 rfl)
  have cb1 := row_c (i := 1) (u := .int .i64 rg6) (K7.out.bl 0 rfl) rfl
  have fb1 := frozen_of_row x7 g5 1 _ _ (K7.out.bl 0 rfl)
  have cb2 := row_c (i := 2) (u := .int .i64 (-1)) (K7.out.bl 0 rfl) rfl
  have fb2 := frozen_of_row x7 g5 2 _ _ (K7.out.bl 0 rfl)
  have cn := HNN.out 7 _ _ K7.out
  go_upto_region 15 with (first
    | (go_at_call 29; (with_reducible refine (dop0_any 5 2 (A 2) rg1 _).mono ?_); rintro e y7 ⟨rfl, hb⟩; have Y7 := hid (K7.out.self hb); clear hb)
    | (go_at_call 28; (with_reducible refine (HD7.out _ _ Y7.out).mono ?_); rintro e v8 ⟨rfl, hb⟩; have G8 := hid hb; clear hb; clear ca0 ca1 ca2 cb0 cb1 cb2 fb0 fb1 fb2 cn; have ca0 := row_c (i := 0) (u := .int .i64 (A 0)) (G8.out.bl 2 rfl) rfl; have ca1 := row_c (i := 1) (u := .int .i64 (A 1)) (G8.out.bl 2 rfl) rfl; have ca2 := row_c (i := 2) (u := .int .i64 (A 2)) (G8.out.bl 2 rfl) rfl; have cb0 := row_c (i := 0) (u := .int .i64 rg4) (G8.out.bl 0 rfl) rfl; have fb0 := frozen_of_row v8 g5 0 _ _ (G8.out.bl 0 rfl); have cb1 := row_c (i := 1) (u := .int .i64 rg6) (G8.out.bl 0 rfl) rfl; have fb1 := frozen_of_row v8 g5 1 _ _ (G8.out.bl 0 rfl); have cb2 := row_c (i := 2) (u := .int .i64 (-1)) (G8.out.bl 0 rfl) rfl; have fb2 := frozen_of_row v8 g5 2 _ _ (G8.out.bl 0 rfl); have cn := HNN.out 8 _ _ G8.out))
  have K8 : Hid (Od lg F0 w0 (v8.setCell ⟨g5, 2, none⟩ (.int .i64 rg7)) b (sqS S2 (opF3 A) 8) [(g5, .cells #[.int .i64 rg4, .int .i64 rg6, .int .i64 rg7] 37 (0, 0)), (w.heap.size + 1, Obj.cells #[.int .i64 0, .int .i64 0, .int .i64 0] 37 (0, 0)), (w.heap.size, Obj.cells (wdV A) 37 (0, 0))]) := hid (G8.out.cell 2 (.int .i64 rg7))
  generalize v8.setCell ⟨g5, 2, none⟩ (.int .i64 rg7) = x8 at *
  clear ca0 ca1 ca2 cb0 cb1 cb2 fb0 fb1 fb2 cn
  have ca0 := row_c (i := 0) (u := .int .i64 (A 0)) (K8.out.bl 2 rfl) rfl
  have ca1 := row_c (i := 1) (u := .int .i64 (A 1)) (K8.out.bl 2 rfl) rfl
  have ca2 := row_c (i := 2) (u := .int .i64 (A 2)) (K8.out.bl 2 rfl) rfl
  have cb0 := row_c (i := 0) (u := .int .i64 rg4) (K8.out.bl 0 rfl) rfl
  have fb0 := frozen_of_row x8 g5 0 _ _ (K8.out.bl 0 rfl)
  have cb1 := row_c (i := 1) (u := .int .i64 rg6) (K8.out.bl 0 rfl) rfl
  have fb1 := frozen_of_row x8 g5 1 _ _ (K8.out.bl 0 rfl)
  have cb2 := row_c (i := 2) (u := .int .i64 rg7) (K8.out.bl 0 rfl) rfl
  have fb2 := frozen_of_row x8 g5 2 _ _ (K8.out.bl 0 rfl)
  have cn := HNN.out 8 _ _ K8.out
  go_upto_region 16 with (first
    | (go_at_call 29; (with_reducible refine (dop0_any 5 2 rg7 rg2 _).mono ?_); rintro e y8 ⟨rfl, hb⟩; have Y8 := hid (K8.out.self hb); clear hb)
    | (go_at_call 28; (with_reducible refine (HD8.out _ _ Y8.out).mono ?_); rintro e v9 ⟨rfl, hb⟩; have G9 := hid hb; clear hb; clear ca0 ca1 ca2 cb0 cb1 cb2 fb0 fb1 fb2 cn; have ca0 := row_c (i := 0) (u := .int .i64 (A 0)) (G9.out.bl 2 rfl) rfl; have ca1 := row_c (i := 1) (u := .int .i64 (A 1)) (G9.out.bl 2 rfl) rfl; have ca2 := row_c (i := 2) (u := .int .i64 (A 2)) (G9.out.bl 2 rfl) rfl; have cb0 := row_c (i := 0) (u := .int .i64 rg4) (G9.out.bl 0 rfl) rfl; have fb0 := frozen_of_row v9 g5 0 _ _ (G9.out.bl 0 rfl); have cb1 := row_c (i := 1) (u := .int .i64 rg6) (G9.out.bl 0 rfl) rfl; have fb1 := frozen_of_row v9 g5 1 _ _ (G9.out.bl 0 rfl); have cb2 := row_c (i := 2) (u := .int .i64 rg7) (G9.out.bl 0 rfl) rfl; have fb2 := frozen_of_row v9 g5 2 _ _ (G9.out.bl 0 rfl); have cn := HNN.out 9 _ _ G9.out))
  have K9 : Hid (Od lg F0 w0 (v9.setCell ⟨g5, 2, none⟩ (.int .i64 rg8)) b (sqS S2 (opF3 A) 9) [(g5, .cells #[.int .i64 rg4, .int .i64 rg6, .int .i64 rg8] 37 (0, 0)), (w.heap.size + 1, Obj.cells #[.int .i64 0, .int .i64 0, .int .i64 0] 37 (0, 0)), (w.heap.size, Obj.cells (wdV A) 37 (0, 0))]) := hid (G9.out.cell 2 (.int .i64 rg8))
  generalize v9.setCell ⟨g5, 2, none⟩ (.int .i64 rg8) = x9 at *
  clear ca0 ca1 ca2 cb0 cb1 cb2 fb0 fb1 fb2 cn
  have ca0 := row_c (i := 0) (u := .int .i64 (A 0)) (K9.out.bl 2 rfl) rfl
  have ca1 := row_c (i := 1) (u := .int .i64 (A 1)) (K9.out.bl 2 rfl) rfl
  have ca2 := row_c (i := 2) (u := .int .i64 (A 2)) (K9.out.bl 2 rfl) rfl
  have cb0 := row_c (i := 0) (u := .int .i64 rg4) (K9.out.bl 0 rfl) rfl
  have fb0 := frozen_of_row x9 g5 0 _ _ (K9.out.bl 0 rfl)
  have cb1 := row_c (i := 1) (u := .int .i64 rg6) (K9.out.bl 0 rfl) rfl
  have fb1 := frozen_of_row x9 g5 1 _ _ (K9.out.bl 0 rfl)
  have cb2 := row_c (i := 2) (u := .int .i64 rg8) (K9.out.bl 0 rfl) rfl
  have fb2 := frozen_of_row x9 g5 2 _ _ (K9.out.bl 0 rfl)
  have cn := HNN.out 9 _ _ K9.out
  go_upto_region 17 with (go_at_call 63; (with_reducible refine (HEN.out _ _ K9.out).mono ?_); rintro e z1 ⟨rfl, hb⟩; have Z1 := hid hb; clear hb; clear ca0 ca1 ca2 cb0 cb1 cb2 fb0 fb1 fb2 cn)
  go_wp2_with (first
    | (refine step_load_row rfl 37 _ rfl g5 37 (#[.int .i64 rg4, .int .i64 rg6, .int .i64 rg8]) _ rfl (Z1.out.bl 0 rfl) Tryz.underlying37 rfl (by kernel_rfl) ?_)
    | (refine step_store_row rfl 37 _ _ rfl (w.heap.size + 1) 37 _ (#[.int .i64 rg4, .int .i64 rg6, .int .i64 rg8]) rfl rfl (Z1.out.bl 1 rfl) (by kernel_rfl) rfl (by kernel_rfl) ?_))
  have Z2 := hid (Z1.out.swap.row (#[.int .i64 rg4, .int .i64 rg6, .int .i64 rg8]))
  exact bodyPost_ret (results_cell_row (by rfl) _ _ (w.heap.size + 1) 37 (#[.int .i64 rg4, .int .i64 rg6, .int .i64 rg8]) (0, 0) _ rfl (Z2.out.bl 0 rfl) Tryz.underlying37 rfl (by kernel_rfl)) rfl ⟨rfl, Z2.out.drop.drop.drop⟩
theorem dfull_any {lg : LoG} {F0 : Nat → Prop} {w0 w : World} {b k : Nat} {S : Ms} (A : Nat → Int) (h : Od lg F0 w0 w b S []) (hq : Bq k S) (hk : k + 20 ≤ 100000) (hn : S.n = 2 ∨ S.n = 3) (hA : Wb A) :
    Calls Tryz.prog 32 #[.pointer (some ⟨b, 0, none⟩), .agg (wdV A)] w fun e w' => e = .returned (.agg (wdV (frR S false A))) ∧ Od lg F0 w0 w' b (frS S false A) [] := hn.elim (fun e => dfull2 A h hq hk e hA) (fun e => dfull3 A h hq hk e hA)
end Go.Proofs.YtpjgpiieminaoaaGreatDoor

/- Share: the program's functions of words, over any machine: the functions that are handed on. -/
namespace Go.Proofs.YtpjgpiieminaoaaGreatDoor
open Go.RowKit
set_option maxRecDepth 100000
theorem Ow.mem {Pm : World → Nat → Ms → (Nat → Prop) → Prop} {F0 : Nat → Prop} {w0 w : World} {b : Nat} {S : Ms} {bs : List (Nat × Obj)} (h : Ow Pm F0 w0 w b S bs) {n : Nat} {u : Obj} (hq : (n, u) ∈ bs) : w.heap[n]? = some u := (h.bx _ hq).2
set_option maxHeartbeats 1600000 in
theorem clo_pub {Pm : World → Nat → Ms → (Nat → Prop) → Prop} (hM : Mach Pm) {F0 : Nat → Prop} {w0 w : World} {b k : Nat} {S : Ms} {bs : List (Nat × Obj)} (p1 p2 p3 c j : Nat) (h : Ow Pm F0 w0 w b S bs) (h1 : (p1, Obj.cells #[.func (.func 26) #[.pointer (some ⟨b, 0, none⟩)] #[]] 62 (0, 0)) ∈ bs) (h2 : (p2, Obj.cells #[.int .u64 (c : Int)] 22 (0, 0)) ∈ bs) (h3 : (p3, Obj.cells #[.pointer (some ⟨b, 0, none⟩)] 27 (0, 0)) ∈ bs) (hq : Bq k S) (hk : k ≤ 1000000) (hc : c < 2 ^ 64) (hj : j ≤ 100) :
    Calls Tryz.prog 51 #[.int .i64 (j : Int), .pointer (some ⟨p1, 0, none⟩), .pointer (some ⟨p2, 0, none⟩), .pointer (some ⟨p3, 0, none⟩)] w fun e w2 => e = .returned (.int .i64 (S.doR (opCst 3 c j))) ∧ Ow Pm F0 w0 w2 b (S.doS (opCst 3 c j) 0) bs := by
  have c1 := row_c (i := 0) (u := .func (.func 26) #[.pointer (some ⟨b, 0, none⟩)] #[]) (h.mem h1) rfl
  have c2 := row_c (i := 0) (u := .int .u64 (c : Int)) (h.mem h2) rfl
  have c3 := row_c (i := 0) (u := .pointer (some ⟨b, 0, none⟩)) (h.mem h3) rfl
  by_cases h0 : 0 < j
  · have e : opCst 3 c j = ⟨3, (j : Int), -1, -1, -1, 0⟩ := by unfold opCst; rw [if_neg (by omega)]
    have hwf : opwf ⟨3, (j : Int), -1, -1, -1, 0⟩ := ⟨i64c 3 (by decide) (by decide), by show _ ≤ (j : Int) ∧ (j : Int) ≤ _; omega, I64.m1, I64.m1, I64.m1, by show 0 < _; omega⟩
    rw [e]
    have HC : Hid (Calls Tryz.prog 26 #[.pointer (some ⟨b, 0, none⟩), .int .i64 (j : Int), .int .u64 0] w fun e w2 => e = .returned (.int .i64 (S.doR ⟨3, (j : Int), -1, -1, -1, 0⟩)) ∧ Ow Pm F0 w0 w2 b (S.doS ⟨3, (j : Int), -1, -1, -1, 0⟩ 0) bs) := hid (h.lift hM (fun F hF => hM.const_ b k S F (j : Int) 0 w hF hq hk hwf))
    have q0 : ((j : Int) == 0) = false := by simp; omega
    clear h h1 h2 h3 hq hk hc hj e hwf
    generalize S.doR ⟨3, (j : Int), -1, -1, -1, 0⟩ = r at *
    generalize S.doS ⟨3, (j : Int), -1, -1, -1, 0⟩ 0 = S1 at *
    go_enter Tryz.func51, Tryz.ntmps51
    go_wp2_with (go_at_call 26; (with_reducible refine HC.out.mono ?_); rintro e w2 ⟨rfl, hp⟩; have HP := hid hp; clear hp c1 c2 c3)
    go_ret
    exact ⟨rfl, HP.out⟩
  · obtain rfl : j = 0 := by omega
    have e : opCst 3 c 0 = ⟨3, 0, -1, -1, -1, c⟩ := if_pos rfl
    have hwf : opwf ⟨3, 0, -1, -1, -1, c⟩ := ⟨i64c 3 (by decide) (by decide), i64c 0 (by decide) (by decide), I64.m1, I64.m1, I64.m1, by show c < _; omega⟩
    rw [e]
    have HC : Hid (Calls Tryz.prog 26 #[.pointer (some ⟨b, 0, none⟩), .int .i64 0, .int .u64 (c : Int)] w fun e w2 => e = .returned (.int .i64 (S.doR ⟨3, 0, -1, -1, -1, c⟩)) ∧ Ow Pm F0 w0 w2 b (S.doS ⟨3, 0, -1, -1, -1, c⟩ 0) bs) := hid (h.lift hM (fun F hF => hM.const_ b k S F 0 c w hF hq hk hwf))
    clear h h1 h2 h3 hq hk hc hj h0 e hwf
    generalize S.doR ⟨3, 0, -1, -1, -1, c⟩ = r at *
    generalize S.doS ⟨3, 0, -1, -1, -1, c⟩ 0 = S1 at *
    go_enter Tryz.func51, Tryz.ntmps51
    go_wp2_with (go_at_call 26; (with_reducible refine HC.out.mono ?_); rintro e w2 ⟨rfl, hp⟩; have HP := hid hp; clear hp c1 c2 c3)
    go_ret
    exact ⟨rfl, HP.out⟩
set_option maxHeartbeats 1600000 in
theorem clo_one {Pm : World → Nat → Ms → (Nat → Prop) → Prop} (hM : Mach Pm) {F0 : Nat → Prop} {w0 w : World} {b k : Nat} {S : Ms} {bs : List (Nat × Obj)} (p1 p2 p3 p4 j : Nat) (K : Int) (A : Nat → Int) (c : Nat) (h : Ow Pm F0 w0 w b S bs) (h1 : (p1, Obj.cells #[.pointer (some ⟨b, 0, none⟩)] 27 (0, 0)) ∈ bs) (h2 : (p2, Obj.cells #[.int .i64 K] 3 (0, 0)) ∈ bs) (h3 : (p3, Obj.cells (wdV A) 37 (0, 0)) ∈ bs) (h4 : (p4, Obj.cells #[.int .u64 (c : Int)] 22 (0, 0)) ∈ bs) (hq : Bq k S) (hk : k ≤ 1000000) (hK : I64 K) (hA : Wb A) (hc : c < 2 ^ 64) (hj : j < 3) :
    Calls Tryz.prog 82 #[.int .i64 (j : Int), .pointer (some ⟨p1, 0, none⟩), .pointer (some ⟨p2, 0, none⟩), .pointer (some ⟨p3, 0, none⟩), .pointer (some ⟨p4, 0, none⟩)] w fun e w2 => e = .returned (.int .i64 (S.doR (opOne K A c j))) ∧ Ow Pm F0 w0 w2 b (S.doS (opOne K A c j) 0) bs := by
  have HC : Hid (∀ w', Ow Pm F0 w0 w' b S bs → Calls Tryz.prog 72 #[.pointer (some ⟨b, 0, none⟩), .int .i64 K, .int .i64 (j : Int), .int .i64 (A j), .int .u64 (c : Int)] w' fun e w2 => e = .returned (.int .i64 (S.doR (opOne K A c j))) ∧ Ow Pm F0 w0 w2 b (S.doS (opOne K A c j) 0) bs) := hid (fun w' h' => h'.lift hM (fun F hF => hM.one b k S F K (j : Int) (A j) c w' hF hq hk (opOne_wf hK hA hc (by omega))))
  have M1 := hid h1
  have M2 := hid h2
  have M3 := hid h3
  have M4 := hid h4
  have HJ := hid hj
  have j0 : (0 : Int) ≤ (j : Int) := by omega
  have j1 : (j : Int) < 3 := by omega
  have G0 := hid (h.self hM ((Below.refl _ w).drew))
  generalize S.doR (opOne K A c j) = r at *
  generalize S.doS (opOne K A c j) 0 = S1 at *
  clear h h1 h2 h3 h4 hq hk hA hc hK hj
  go_enter Tryz.func82, Tryz.ntmps82
  go_wp2_with fail
  refine wp_region_noPanic ?_
  refine wp_region_held_drew (S := fun w' => w'.cell? ⟨p1, 0, none⟩ = some (.pointer (some ⟨b, 0, none⟩)) ∧ w'.cell? ⟨p2, 0, none⟩ = some (.int .i64 K) ∧ w'.cell? ⟨p3, j, none⟩ = some (.int .i64 (A j)) ∧ w'.cell? ⟨p4, 0, none⟩ = some (.int .u64 (c : Int))) (by kernel_rfl) (⟨row_c (i := 0) (G0.out.mem M1.out) rfl, row_c (i := 0) (G0.out.mem M2.out) rfl, row_c (i := j) (G0.out.mem M3.out) (wdV_at A j HJ.out), row_c (i := 0) (G0.out.mem M4.out) rfl⟩) (fun h0 => ?_)
  generalize w.drew = y1 at *
  refine wpAnyH_take (i := 0) (v := .pointer (some ⟨b, 0, none⟩)) rfl (by kernel_rfl) (by kernel_rfl) (by kernel_rfl) (fun _ _ _ h => h) (.inl ⟨by rfl, fun w' hw => by have hc := hw.1; clear hw; go_simp⟩) h0 ?_
  try simp only [Act.put, lay_out]
  refine wpAnyH_take (i := 1) (v := .int .i64 K) rfl (by kernel_rfl) (by kernel_rfl) (by kernel_rfl) (fun _ _ _ h => h) (.inl ⟨by rfl, fun w' hw => by have hc := hw.2.1; clear hw; go_simp⟩) h0 ?_
  try simp only [Act.put, lay_out]
  refine wpAnyH_take (i := 2) (v := .int .i64 (j : Int)) rfl (by kernel_rfl) (by kernel_rfl) (by kernel_rfl) (fun _ _ _ h => h) (.inl ⟨by rfl, fun w hw => by clear hw; go_simp⟩) h0 ?_
  try simp only [Act.put, lay_out]
  refine wpAnyH_take (i := 3) (v := .int .i64 (j : Int)) rfl (by kernel_rfl) (by kernel_rfl) (by kernel_rfl) (fun _ _ _ h => h) (.inl ⟨by rfl, fun w hw => by clear hw; go_simp⟩) h0 ?_
  try simp only [Act.put, lay_out]
  refine wpAnyH_take (i := 4) (v := .pointer (some ⟨p3, 0, none⟩)) rfl (by kernel_rfl) (by kernel_rfl) (by kernel_rfl) (fun _ _ _ h => h) (.inl ⟨by rfl, fun w hw => by clear hw; go_simp⟩) h0 ?_
  try simp only [Act.put, lay_out]
  refine wpAnyH_take (i := 5) (v := .pointer (some ⟨p3, j, none⟩)) rfl (by kernel_rfl) (by kernel_rfl) (by kernel_rfl) (fun _ _ _ h => h) (.inl ⟨by rfl, fun w hw => by clear hw; go_simp⟩) h0 ?_
  try simp only [Act.put, lay_out]
  refine wpAnyH_take (i := 6) (v := .int .i64 (A j)) rfl (by kernel_rfl) (by kernel_rfl) (by kernel_rfl) (fun _ _ _ h => h) (.inl ⟨by rfl, fun w' hw => by have hc := hw.2.2.1; clear hw; go_simp⟩) h0 ?_
  try simp only [Act.put, lay_out]
  refine wpAnyH_take (i := 7) (v := .int .u64 (c : Int)) rfl (by kernel_rfl) (by kernel_rfl) (by kernel_rfl) (fun _ _ _ h => h) (.inl ⟨by rfl, fun w' hw => by have hc := hw.2.2.2; clear hw; go_simp⟩) h0 ?_
  try simp only [Act.put, lay_out]
  refine wpAnyH_ready (rs := [8]) (by kernel_rfl) (by simp) (AllReadyH.cons rfl (fun K hK => ?_) AllReadyH.nil)
  rw [if_pos (by rfl)]
  go_simp
  go_at_call 72
  (with_reducible refine (HC.out _ G0.out).mono ?_); rintro e w2 ⟨rfl, hp⟩
  have HP := hid hp
  clear hp
  refine hK.out _ _ (⟨row_c (i := 0) (HP.out.mem M1.out) rfl, row_c (i := 0) (HP.out.mem M2.out) rfl, row_c (i := j) (HP.out.mem M3.out) (wdV_at A j HJ.out), row_c (i := 0) (HP.out.mem M4.out) rfl⟩) (fun h1x => ?_)
  clear hK K
  try simp only [Act.put, lay_out]
  refine wpAnyH_take (i := 9) (v := .int .i64 r) rfl (by kernel_rfl) (by kernel_rfl) (by kernel_rfl) (fun _ _ _ h => h) (.inl ⟨by rfl, fun w hw => by clear hw; go_simp⟩) h1x ?_
  try simp only [Act.put, lay_out]
  refine wpAnyH_done (by kernel_rfl) ?_ _
  refine NoPanic.normal ?_
  clear h0 h1x
  try simp only [Act.put, lay_out]
  go_wp2
  go_ret
  exact ⟨rfl, HP.out⟩
end Go.Proofs.YtpjgpiieminaoaaGreatDoor

/- Share: the program's functions of words, over any machine: the interface is met. -/
namespace Go.Proofs.YtpjgpiieminaoaaGreatDoor
open Go.RowKit
set_option maxRecDepth 100000
set_option maxHeartbeats 3200000 in
theorem salone_pub_any {Pm : World → Nat → Ms → (Nat → Prop) → Prop} (hM : Mach Pm) (b k : Nat) (S : Ms) (F : Nat → Prop) (c : Nat) (w : World) (hm : Pm w b S F) (hq : Bq k S) (hk : k + 10 ≤ 100000) (hn : S.n = 2 ∨ S.n = 3) (hc : c < 2 ^ 64) :
    Calls Tryz.prog 25 #[.pointer (some ⟨b, 0, none⟩), .func (.func 26) #[.pointer (some ⟨b, 0, none⟩)] #[], .int .u64 (c : Int)] w fun e w' => e = .returned (.agg (wdV (cstR S 3 c))) ∧ PmR Pm b (cstS S 3 c) F w w' := by
  have hsb := sh_bd hn
  obtain ⟨w1, hw1⟩ : ∃ w1, ((((w.alloc (.cells #[.pointer (some ⟨b, 0, none⟩)] 27)).alloc (.cells #[.func (.func 26) #[.pointer (some ⟨b, 0, none⟩)] #[]] 62)).alloc (.cells #[.int .u64 (c : Int)] 22)).alloc (.cells #[.int .i64 0, .int .i64 0, .int .i64 0] 37)) = w1 := ⟨_, rfl⟩
  have H1 : Hid (Ow Pm F w w1 b S [(w.heap.size + 1 + 1 + 1, Obj.cells #[.int .i64 0, .int .i64 0, .int .i64 0] 37 (0, 0)), (w.heap.size + 1 + 1, Obj.cells #[.int .u64 (c : Int)] 22 (0, 0)), (w.heap.size + 1, Obj.cells #[.func (.func 26) #[.pointer (some ⟨b, 0, none⟩)] #[]] 62 (0, 0)), (w.heap.size, Obj.cells #[.pointer (some ⟨b, 0, none⟩)] 27 (0, 0))]) := hid (by
    have := ((((Ow.start hm).new hM #[.pointer (some ⟨b, 0, none⟩)] 27).new hM #[.func (.func 26) #[.pointer (some ⟨b, 0, none⟩)] #[]] 62).new hM #[.int .u64 (c : Int)] 22).new hM #[.int .i64 0, .int .i64 0, .int .i64 0] 37
    rw [hw1] at this
    simp only [sz_al] at this
    exact this)
  have HSQ : Hid (∀ j, j ≤ 3 → Bq (k + j) (eaS S (opCst 3 c) 0 j)) := hid (fun j hj => eaS_bq hq 0 j (fun i hi => by rw [Nat.zero_add]; exact opCst_wf (i64k 3 (by decide) (by decide)) hc (by omega)))
  have HE := hid (each_alone hM (w.heap.size + 1) (w.heap.size + 1 + 1) (w.heap.size) S.sh k (eaS S (opCst 3 c) 0) (eaR S (opCst 3 c) 0 none3) (fun j => (eaS S (opCst 3 c) 0 j).doR ((opCst 3 c) j)) H1.out (by omega) hq (by omega) (by show S.n = _; unfold Ms.sh; omega) rfl (fun j _ => eaR_0 _ _ _ _)
    (fun j bs' w' hj hs h' => by rw [eaS_0]; exact clo_pub hM _ _ _ c j h' (hs _ (by simp)) (hs _ (by simp)) (hs _ (by simp)) (HSQ.out j (by omega)) (by omega) hc (by omega)))
  have c1 := row_c (i := 0) (u := .pointer (some ⟨b, 0, none⟩)) (H1.out.bl 3 rfl) rfl
  have HW := hid hw1
  have e1 : eaR S (opCst 3 c) 0 none3 S.sh = cstR S 3 c := rfl
  have e2 : eaS S (opCst 3 c) 0 S.sh = cstS S 3 c := rfl
  rw [e1, e2] at HE
  clear hm hq hk hn hw1 e1 e2 HSQ hsb
  generalize cstR S 3 c = R at *
  generalize cstS S 3 c = S1 at *
  go_enter Tryz.func25, Tryz.ntmps25
  go_upto_region 1 with fail
  rw [HW.out]
  go_wp2_with (first
    | (go_at_call 50; (with_reducible refine HE.out.mono ?_); rintro e w2 ⟨rfl, h2⟩; have H2 := hid h2; clear h2 c1)
    | (refine step_store_row rfl 37 _ _ rfl (w.heap.size + 1 + 1 + 1) 37 _ (wdV R) rfl rfl (H2.out.bl 0 rfl) (by kernel_rfl) rfl (by kernel_rfl) ?_))
  have H3 := hid (H2.out.row hM (wdV R))
  exact bodyPost_ret (results_cell_row (by rfl) _ _ (w.heap.size + 1 + 1 + 1) 37 (wdV R) (0, 0) _ rfl (H3.out.bl 0 rfl) Tryz.underlying37 rfl (by kernel_rfl)) rfl ⟨rfl, H3.out.fin⟩
set_option maxHeartbeats 3200000 in
theorem spub_any {Pm : World → Nat → Ms → (Nat → Prop) → Prop} (hM : Mach Pm) (b k : Nat) (S : Ms) (F : Nat → Prop) (c : Nat) (w : World) (hm : Pm w b S F) (hq : Bq k S) (hk : k + 10 ≤ 100000) (hn : S.n = 2 ∨ S.n = 3) (hc : c < 2 ^ 64) :
    Calls Tryz.prog 7 #[.pointer (some ⟨b, 0, none⟩), .int .u64 (c : Int)] w fun e w' => e = .returned (.agg (wdV (cstR S 3 c))) ∧ PmR Pm b (cstS S 3 c) F w w' := by
  obtain ⟨w1, hw1⟩ : ∃ w1, w.alloc (.cells #[.int .i64 0, .int .i64 0, .int .i64 0] 37) = w1 := ⟨_, rfl⟩
  have H1 : Hid (Ow Pm F w w1 b S [(w.heap.size, Obj.cells #[.int .i64 0, .int .i64 0, .int .i64 0] 37 (0, 0))]) := hid (by
    have := (Ow.start hm).new hM #[.int .i64 0, .int .i64 0, .int .i64 0] 37
    rw [hw1] at this
    exact this)
  have HE := hid (H1.out.lift hM (fun F' hF => salone_pub_any hM b k S F' c w1 hF hq hk hn hc))
  have HW := hid hw1
  have hmf : ∀ (fn : Fn) (first cap : Array Value) (w : World), (Instr.makeFunc fn first cap).run Tryz.prog w = .ok (.func fn first cap) w := fun _ _ _ _ => rfl
  clear hm hq hk hn hw1 hc
  generalize cstR S 3 c = R at *
  generalize cstS S 3 c = S1 at *
  go_enter Tryz.func7, Tryz.ntmps7
  go_upto_region 1 with fail
  rw [HW.out]
  go_wp2_with (first
    | (go_at_call 25; (with_reducible refine HE.out.mono ?_); rintro e w2 ⟨rfl, h2⟩; have H2 := hid h2; clear h2)
    | (refine step_store_row rfl 37 _ _ rfl w.heap.size 37 _ (wdV R) rfl rfl (H2.out.bl 0 rfl) (by kernel_rfl) rfl (by kernel_rfl) ?_))
  have H3 := hid (H2.out.row hM (wdV R))
  exact bodyPost_ret (results_cell_row (by rfl) _ _ w.heap.size 37 (wdV R) (0, 0) _ rfl (H3.out.bl 0 rfl) Tryz.underlying37 rfl (by kernel_rfl)) rfl ⟨rfl, H3.out.fin⟩
set_option maxHeartbeats 3200000 in
theorem sone_any {Pm : World → Nat → Ms → (Nat → Prop) → Prop} (hM : Mach Pm) (b k : Nat) (S : Ms) (F : Nat → Prop) (K : Int) (A : Nat → Int) (c : Nat) (w : World) (hm : Pm w b S F) (hq : Bq k S) (hk : k + 10 ≤ 100000) (hn : S.n = 2 ∨ S.n = 3) (hK : I64 K) (hA : Wb A) (hc : c < 2 ^ 64) :
    Calls Tryz.prog 64 #[.pointer (some ⟨b, 0, none⟩), .int .i64 K, .agg (wdV A), .int .u64 (c : Int)] w fun e w' => e = .returned (.agg (wdV (oneR S K A c))) ∧ PmR Pm b (oneS S K A c) F w w' := by
  have hsb := sh_bd hn
  obtain ⟨w1, hw1⟩ : ∃ w1, (((((w.alloc (.cells #[.pointer (some ⟨b, 0, none⟩)] 27)).alloc (.cells #[.int .i64 K] 3)).alloc (.cells (wdV A) 37)).alloc (.cells #[.int .u64 (c : Int)] 22)).alloc (.cells #[.int .i64 0, .int .i64 0, .int .i64 0] 37)) = w1 := ⟨_, rfl⟩
  have H1 : Hid (Ow Pm F w w1 b S [(w.heap.size + 1 + 1 + 1 + 1, Obj.cells #[.int .i64 0, .int .i64 0, .int .i64 0] 37 (0, 0)), (w.heap.size + 1 + 1 + 1, Obj.cells #[.int .u64 (c : Int)] 22 (0, 0)), (w.heap.size + 1 + 1, Obj.cells (wdV A) 37 (0, 0)), (w.heap.size + 1, Obj.cells #[.int .i64 K] 3 (0, 0)), (w.heap.size, Obj.cells #[.pointer (some ⟨b, 0, none⟩)] 27 (0, 0))]) := hid (by
    have := (((((Ow.start hm).new hM #[.pointer (some ⟨b, 0, none⟩)] 27).new hM #[.int .i64 K] 3).new hM (wdV A) 37).new hM #[.int .u64 (c : Int)] 22).new hM #[.int .i64 0, .int .i64 0, .int .i64 0] 37
    rw [hw1] at this
    simp only [sz_al] at this
    exact this)
  have HSQ : Hid (∀ j, j ≤ 3 → Bq (k + j) (eaS S (opOne K A c) 0 j)) := hid (fun j hj => eaS_bq hq 0 j (fun i hi => by rw [Nat.zero_add]; exact opOne_wf hK hA hc (by omega)))
  have HE := hid (each_one hM (w.heap.size) (w.heap.size + 1) (w.heap.size + 1 + 1) (w.heap.size + 1 + 1 + 1) S.sh k (eaS S (opOne K A c) 0) (eaR S (opOne K A c) 0 none3) (fun j => (eaS S (opOne K A c) 0 j).doR ((opOne K A c) j)) H1.out (by omega) hq (by omega) (by show S.n = _; unfold Ms.sh; omega) rfl (fun j _ => eaR_0 _ _ _ _)
    (fun j bs' w' hj hs h' => by rw [eaS_0]; exact clo_one hM _ _ _ _ j K A c h' (hs _ (by simp)) (hs _ (by simp)) (hs _ (by simp)) (hs _ (by simp)) (HSQ.out j (by omega)) (by omega) hK hA hc (by omega)))
  have c1 := row_c (i := 0) (u := .pointer (some ⟨b, 0, none⟩)) (H1.out.bl 4 rfl) rfl
  have HW := hid hw1
  have e1 : eaR S (opOne K A c) 0 none3 S.sh = oneR S K A c := rfl
  have e2 : eaS S (opOne K A c) 0 S.sh = oneS S K A c := rfl
  rw [e1, e2] at HE
  clear hm hq hk hn hw1 e1 e2 HSQ hsb
  generalize oneR S K A c = R at *
  generalize oneS S K A c = S1 at *
  go_enter Tryz.func64, Tryz.ntmps64
  go_upto_region 1 with fail
  rw [HW.out]
  go_wp2_with (first
    | (go_at_call 50; (with_reducible refine HE.out.mono ?_); rintro e w2 ⟨rfl, h2⟩; have H2 := hid h2; clear h2 c1)
    | (refine step_store_row rfl 37 _ _ rfl (w.heap.size + 1 + 1 + 1 + 1) 37 _ (wdV R) rfl rfl (H2.out.bl 0 rfl) (by kernel_rfl) rfl (by kernel_rfl) ?_))
  have H3 := hid (H2.out.row hM (wdV R))
  exact bodyPost_ret (results_cell_row (by rfl) _ _ (w.heap.size + 1 + 1 + 1 + 1) 37 (wdV R) (0, 0) _ rfl (H3.out.bl 0 rfl) Tryz.underlying37 rfl (by kernel_rfl)) rfl ⟨rfl, H3.out.fin⟩
/-- The program's functions of words meet the interface. -/
theorem shI {Pm : World → Nat → Ms → (Nat → Prop) → Prop} (hM : Mach Pm) : ShI Pm where
  pub b k S F c w := spub_any hM b k S F c w
  one b k S F K A c w := sone_any hM b k S F K A c w
end Go.Proofs.YtpjgpiieminaoaaGreatDoor

/- Fresh: both machines in one world; a law's beginning; the example. -/
namespace Go.Proofs.YtpjgpiieminaoaaGreatDoor
open Go.RowKit
set_option maxRecDepth 100000
theorem rdraws_any (n : Int) (w : World) : Calls Tryz.prog 6 #[.int .i64 n] w fun e w' => e = .returned (.int .i64 (frD n)) ∧ w' = w := by
  unfold frD
  by_cases h2 : n = 2
  · subst h2
    go_enter Tryz.func6, Tryz.ntmps6
    go_wp2
    go_ret
    exact ⟨rfl, rfl⟩
  · by_cases h3 : n = 3
    · subst h3
      go_enter Tryz.func6, Tryz.ntmps6
      go_wp2
      go_ret
      exact ⟨rfl, rfl⟩
    · rw [if_neg h2, if_neg h3]
      have q2 : ((n : Int) == 2) = false := by simpa using h2
      have q3 : ((n : Int) == 3) = false := by simpa using h3
      clear h2 h3
      go_enter Tryz.func6, Tryz.ntmps6
      go_wp2
      go_ret
      exact ⟨rfl, rfl⟩
theorem step_load_row_want {P : Program} {w : World} {ops : Array Oper} {rest : List Oper} {o : Oper} {a : Act} {Q : Exit → Act → World → Prop} (hgw : Region.wanted o (yielded ops a.tmps) = true) (ty : TypeId) (x : Operand) (ho : o.op = .load ty x)
    (b : Nat) (t : TypeId) (cs : Array Value) (d : TypeDesc) (hx : a.eval x = .pointer (some ⟨b, 0, none⟩)) (hA : w.heap[b]? = some (.cells cs t (0, 0))) (hu : P.underlying ty = some d) (hag : (match d with | .struct _ | .array _ _ => true | _ => false) = true) (hi : (P.info? ty).map (·.size) = some cs.size)
    (k : wpList P ops Q rest (a.put o.dst (.agg cs)) w) : wpList P ops Q (o :: rest) a w :=
  wpList_step fun K hK => by
    rw [if_pos hgw]
    unfold Oper.wp execOp
    simp only [ho, hx, Instr.loadAt, Instr.sureAddr, Sem.run_bind, Sem.run_pure, Result.andThen_ok, run_loadVar_row w b t ty cs (0, 0) d hA hu hag hi]
    exact hK _ _ k
theorem Pv.bz {Pm : World → Nat → Ms → (Nat → Prop) → Prop} {lo : Nat} {X : Nat → Prop} {W w : World} {p b : Nat} {S1 S2 : Ms} (h : Pv W) (hl : gpair < lo) (hz : Bz Pm lo X W w p b S1 S2) : Pv w := h.stays hz.low.size (hz.low.block _ hl)
section
variable {Pm : World → Nat → Ms → (Nat → Prop) → Prop} (hM : Mach Pm) {lo : Nat} {X : Nat → Prop} {W w : World} {b bd k : Nat} {S S2 : Ms}
include hM
theorem qfull (A : Nat → Int) (h : Bz Pm lo X W w b bd S S2) (hp : Pv w) (hl : gpair < lo) (hq : Bq k S) (hk : k + 20 ≤ 100000) (hn : S.n = 2 ∨ S.n = 3) (hA : Wb A) :
    Calls Tryz.prog 30 #[.pointer (some ⟨b, 0, none⟩), .agg (wdV A)] w fun e w' => e = .returned (.agg (wdV (frR S false A))) ∧ Bz Pm lo X W w' b bd (frS S false A) S2 ∧ ∀ k, X k → w'.heap[k]? = w.heap[k]? := by
  obtain ⟨F, G, ov, bv, vv, tv, h1, h2, h3, h4, h5, h6, h7⟩ := h
  exact (ffull_any hM b k S F A w h1 hp (fun e => by have := (h3 _ e).1; omega) hq hk hn hA).mono fun e w' hr => ⟨hr.1, Bz.prog hM h1 h2 h3 h4 h5 h6 h7 hr.2⟩
theorem yfull (A : Nat → Int) (h : Bz Pm lo X W w b bd S2 S) (hq : Bq k S) (hk : k + 20 ≤ 100000) (hn : S.n = 2 ∨ S.n = 3) (hA : Wb A) :
    Calls Tryz.prog 32 #[.pointer (some ⟨bd, 0, none⟩), .agg (wdV A)] w fun e w' => e = .returned (.agg (wdV (frR S false A))) ∧ Bz Pm lo X W w' b bd S2 (frS S false A) ∧ ∀ k, X k → w'.heap[k]? = w.heap[k]? :=
  Bz.docs hM h (fun _ _ h0 => dfull_any A h0 hq hk hn hA)
end
end Go.Proofs.YtpjgpiieminaoaaGreatDoor

/- General: two words, multiplied bit by bit: ops one behind the other; what each is, and what they stand for. No program is named. -/
namespace Go.Proofs.YtpjgpiieminaoaaGreatDoor

theorem Blk.and {S : Ms} {kd : Int} {op : Nat → (Nat → Int) → Op6} {m j : Nat} (B : Blk S kd op m) (hj : j < m) {d a b : Int} (h : op j (exR S.L j) = ⟨7, d, a, b, -1, 0⟩) :
    (blkS S kd op m).v (S.L + j) = wordAt (blkS S kd op m).v (blkS S kd op m).L a &&& wordAt (blkS S kd op m).v (blkS S kd op m).L b := by
  have := B.word j hj
  rw [h] at this
  exact this.trans (ev7 _ _ _ _ _)
/-! ### as loops make them -/
section
variable (dS : Ms → Op6 → Ms) (dR : Ms → Op6 → Int)
end
/-- Bounds, and the number of shares. -/
def Bn (k : Nat) (n : Int) (S : Ms) : Prop := Bq k S ∧ S.n = n
theorem Bn.does {k : Nat} {n : Int} {S : Ms} (h : Bn k n S) {o : Op6} (ho : opwf o) : Bn (k + 1) n (dS0 S o) := ⟨h.1.does ho (by decide), (doS_n _ _ _).trans h.2⟩
theorem Bn.mono {k k' : Nat} {n : Int} {S : Ms} (h : Bn k n S) (hk : k ≤ k') : Bn k' n S := ⟨h.1.mono hk, h.2⟩
theorem Bn.reg {k : Nat} {n : Int} {S : Ms} (h : Bn k n S) (hk : k ≤ 1000000) (o : Op6) : I64 (dR0 S o) := doR_bd h.1 hk o
end Go.Proofs.YtpjgpiieminaoaaGreatDoor

/- General: what two words both have, and what is made of it: states, registers, bounds, and what they stand for. No program is named. -/
namespace Go.Proofs.YtpjgpiieminaoaaGreatDoor

/-- A machine whose words may be told. -/
structure Wt (S : Ms) : Prop where
  skip : S.skip = 0
  dry : S.dry = false
  n : S.n = 2 ∨ S.n = 3
theorem Wt.ext {S S' : Ms} (h : Wt S) (x : Ext S S') : Wt S' := ⟨x.skip.trans h.skip, x.dry.trans h.dry, by rw [x.n]; exact h.n⟩
/-- A word stands for x. -/
structure Sf (S : Ms) (A : Nat → Int) (x : Nat) : Prop where
  gw : Gw S A
  vl : vlN S.v S.L A = x
theorem Sf.ext {S S' : Ms} {A : Nat → Int} {x : Nat} (h : Sf S A x) (k : Ext S S') : Sf S' A x := ⟨h.gw.ext k, (vl_ext k (fun i hi => h.gw.lt i hi)).trans h.vl⟩
theorem Sf.lt {S : Ms} {A : Nat → Int} {x k : Nat} (h : Sf S A x) (hq : Bq k S) : x < 2 ^ 64 := h.vl ▸ vlP_lt hq.v A 3
theorem blk_e {S : Ms} {kd : Int} {op : Nat → (Nat → Int) → Op6} {m : Nat} (h : (blkS S kd op m).e = 0) : S.e = 0 := (beginS_e (sq_e (endS_e h).1 0 (Nat.zero_le _))).1
/-! ### what there was -/
theorem cs_sf {S : Ms} {c : Nat} (W : Wt S) (h : (cstS S 3 c).e = 0) : Sf (cstS S 3 c) (cstR S 3 c) c ∧ S.e = 0 := by
  obtain ⟨h1, h2⟩ := cst_vl h W.skip W.n (.inl rfl)
  exact ⟨⟨h2, h1⟩, eaS_e h 0 (Nat.zero_le _)⟩
theorem oneR_wb {k : Nat} {S : Ms} (h : Bq k S) (hk : k + 10 ≤ 1000000) (hn : S.n = 2 ∨ S.n = 3) {K : Int} (hK : I64 K) {A : Nat → Int} (hA : Wb A) {c : Nat} (hc : c < 2 ^ 64) : Wb (oneR S K A c) := by
  have := sh_bd hn
  exact eaR_wb h 0 none3_wb _ (fun j hj => opOne_wf hK hA hc (by omega)) (by omega)
theorem cstR_wb {k : Nat} {S : Ms} (h : Bq k S) (hk : k + 10 ≤ 1000000) (hn : S.n = 2 ∨ S.n = 3) {K : Int} (hK : I64 K) {c : Nat} (hc : c < 2 ^ 64) : Wb (cstR S K c) := by
  have := sh_bd hn
  exact eaR_wb h 0 none3_wb _ (fun j hj => opCst_wf hK hc (by omega)) (by omega)
theorem oneS_ext (S : Ms) (K : Int) (A : Nat → Int) (c : Nat) : Ext S (oneS S K A c) := eaS_ext _ _ _ _
theorem cstS_ext (S : Ms) (K : Int) (c : Nat) : Ext S (cstS S K c) := eaS_ext _ _ _ _
/-! ### And -/
section
variable {S : Ms} {k : Nat} {dom : Bool} {A B : Nat → Int} {x y : Nat}
/-! ### Less -/
/-! ### Or -/
/-! ### Any -/
/-! ### Fold -/
theorem on_e {S : Ms} {K : Int} {A : Nat → Int} {c : Nat} (h : (oneS S K A c).e = 0) : S.e = 0 := eaS_e h 0 (Nat.zero_le _)
/-! ### Pick, Alike -/
end
end Go.Proofs.YtpjgpiieminaoaaGreatDoor
