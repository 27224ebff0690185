import Derived.Test.YtinihebnajaejaaDoorProg
import Derived.Test.YtinihebnajaejaaDoorMgao
import Derived.Test.YtinihebnajaejaaDoorMgag
import Derived.Test.YtinihebnajaejaaDoorMgai
/- Fresh: the document's functions, over its machine alone. -/
namespace Go.Proofs.YtinihebnajaejaaDoor
open Go.RowKit
set_option maxRecDepth 100000
/-- A call that is told of the machine alone, with boxes beside it. -/
theorem Od.liftN {lg : LoG} {F0 : Nat → Prop} {w0 w : World} {b : Nat} {S S' : Ms} {bs : List (Nat × Obj)} (h : Od lg F0 w0 w b S bs) {f : FuncId} {args : Array Value} {E : Ending → Prop}
    (hc : ∀ lg F0 w0, Od lg F0 w0 w b S [] → Calls Tryd.prog f args w fun e w' => E e ∧ Od lg F0 w0 w' b S' []) : Calls Tryd.prog f args w fun e w' => E e ∧ Od lg F0 w0 w' b S' bs := by
  have hg : ∀ k, lg.G k → k < w.heap.size := fun k hk => Nat.lt_of_lt_of_le (h.g k hk) h.tch.size
  refine h.lift (fun ov bv vv tv hd => ?_)
  exact (hc lg _ w (Od.start hd hg)).mono fun _ _ hr => ⟨hr.1, hr.2.fin⟩
theorem sqS_n (S : Ms) (kd : Int) (op : Nat → (Nat → Int) → Op6) (m : Nat) : (sqS (S.beginS kd) op m).n = S.n := ((sq_ext _ op m).n).trans (beginS_n S kd).1
set_option maxHeartbeats 12800000 in
theorem dfull2 {lg : LoG} {F0 : Nat → Prop} {w0 w : World} {b k : Nat} {S : Ms} (A : Nat → Int) (h : Od lg F0 w0 w b S []) (hq : Bq k S) (hk : k + 20 ≤ 100000) (hn : S.n = 2) (hA : Wb A) :
    Calls Tryd.prog 13 #[.pointer (some ⟨b, 0, none⟩), .agg (wdV A)] w fun e w' => e = .returned (.agg (wdV (frR S false A))) ∧ Od lg F0 w0 w' b (frS S false A) [] := by
  have hB := hq.begins 2
  have hwf : ∀ j, j < 3 → ∀ r, Wb r → opwf (opF2 A j r) := fun j _ r hr => opF2_wf hA hr j
  have hSB : ∀ j, j ≤ 3 → Bq (k + j) (sqS (S.beginS 2) (opF2 A) j) ∧ Wb (sqR (S.beginS 2) (opF2 A) j) := fun j hj => sq_bq hB (fun i hi => hwf i (by omega)) (by omega)
  have HBG : Hid (∀ (bs : List (Nat × Obj)) (w' : World), Od lg F0 w0 w' b S bs → Calls Tryd.prog 32 #[.pointer (some ⟨b, 0, none⟩), .int .i64 2] w' fun e w2 => e = .returned (.tuple #[]) ∧ Od lg F0 w0 w2 b (sqS (S.beginS 2) (opF2 A) 0) bs) := hid (fun bs w' h' => h'.begins 2 hq (by omega))
  have HD0 : Hid (∀ (bs : List (Nat × Obj)) (w' : World), Od lg F0 w0 w' b (sqS (S.beginS 2) (opF2 A) 0) bs → Calls Tryd.prog 33 #[.pointer (some ⟨b, 0, none⟩), .agg (opCs ⟨1, -1, -1, -1, -1, 0⟩), .int .u64 0] w' fun e w2 => e = .returned (.int .i64 (sqr (S.beginS 2) (opF2 A) 0)) ∧ Od lg F0 w0 w2 b (sqS (S.beginS 2) (opF2 A) 1) bs) := hid (fun bs w' h' => by
    have e : sqO (S.beginS 2) (opF2 A) 0 = ⟨1, -1, -1, -1, -1, 0⟩ := by
      unfold sqO
      generalize sqR (S.beginS 2) (opF2 A) 0 = r
      rfl
    skip
    have h2 := h'.do0 (sqO (S.beginS 2) (opF2 A) 0) (hSB 0 (by omega)).1 (by omega) (hwf 0 (by omega) _ (hSB 0 (by omega)).2)
    rw [← e, show sqS (S.beginS 2) (opF2 A) 1 = (sqS (S.beginS 2) (opF2 A) 0).doS (sqO (S.beginS 2) (opF2 A) 0) 0 from sqS_next _ _ _]
    unfold sqr
    exact h2)
  have HD1 : Hid (∀ (bs : List (Nat × Obj)) (w' : World), Od lg F0 w0 w' b (sqS (S.beginS 2) (opF2 A) 1) bs → Calls Tryd.prog 33 #[.pointer (some ⟨b, 0, none⟩), .agg (opCs ⟨5, 0, (A 0), sqr (S.beginS 2) (opF2 A) (0), -1, 0⟩), .int .u64 0] w' fun e w2 => e = .returned (.int .i64 (sqr (S.beginS 2) (opF2 A) 1)) ∧ Od lg F0 w0 w2 b (sqS (S.beginS 2) (opF2 A) 2) bs) := hid (fun bs w' h' => by
    have e : sqO (S.beginS 2) (opF2 A) 1 = ⟨5, 0, (A 0), sqR (S.beginS 2) (opF2 A) 1 0, -1, 0⟩ := by
      unfold sqO
      generalize sqR (S.beginS 2) (opF2 A) 1 = r
      rfl
    rw [sqR_at _ _ (by omega : 0 < 1)] at e
    have h2 := h'.do0 (sqO (S.beginS 2) (opF2 A) 1) (hSB 1 (by omega)).1 (by omega) (hwf 1 (by omega) _ (hSB 1 (by omega)).2)
    rw [← e, show sqS (S.beginS 2) (opF2 A) 2 = (sqS (S.beginS 2) (opF2 A) 1).doS (sqO (S.beginS 2) (opF2 A) 1) 0 from sqS_next _ _ _]
    unfold sqr
    exact h2)
  have HD2 : Hid (∀ (bs : List (Nat × Obj)) (w' : World), Od lg F0 w0 w' b (sqS (S.beginS 2) (opF2 A) 2) bs → Calls Tryd.prog 33 #[.pointer (some ⟨b, 0, none⟩), .agg (opCs ⟨5, 1, (A 1), sqr (S.beginS 2) (opF2 A) (0), -1, 0⟩), .int .u64 0] w' fun e w2 => e = .returned (.int .i64 (sqr (S.beginS 2) (opF2 A) 2)) ∧ Od lg F0 w0 w2 b (sqS (S.beginS 2) (opF2 A) 3) bs) := hid (fun bs w' h' => by
    have e : sqO (S.beginS 2) (opF2 A) 2 = ⟨5, 1, (A 1), sqR (S.beginS 2) (opF2 A) 2 0, -1, 0⟩ := by
      unfold sqO
      generalize sqR (S.beginS 2) (opF2 A) 2 = r
      rfl
    rw [sqR_at _ _ (by omega : 0 < 2)] at e
    have h2 := h'.do0 (sqO (S.beginS 2) (opF2 A) 2) (hSB 2 (by omega)).1 (by omega) (hwf 2 (by omega) _ (hSB 2 (by omega)).2)
    rw [← e, show sqS (S.beginS 2) (opF2 A) 3 = (sqS (S.beginS 2) (opF2 A) 2).doS (sqO (S.beginS 2) (opF2 A) 2) 0 from sqS_next _ _ _]
    unfold sqr
    exact h2)
  have HEN : Hid (∀ (bs : List (Nat × Obj)) (w' : World), Od lg F0 w0 w' b (sqS (S.beginS 2) (opF2 A) 3) bs → Calls Tryd.prog 35 #[.pointer (some ⟨b, 0, none⟩)] w' fun e w2 => e = .returned (.tuple #[]) ∧ Od lg F0 w0 w2 b (frS S false A) bs) := hid (fun bs w' h' => by
    rw [show frS S false A = (sqS (S.beginS 2) (opF2 A) 3).endS from by unfold frS frO frM blkS; rw [if_neg (by omega), if_neg (by omega)]]
    exact h'.ends (hSB 3 (by omega)).1 (by omega))
  have HNN : Hid (∀ (j : Nat) (bs : List (Nat × Obj)) (w' : World), Od lg F0 w0 w' b (sqS (S.beginS 2) (opF2 A) j) bs → w'.cell? ⟨b, 0, none⟩ = some (.int .i64 2)) := hid (fun j bs w' h' => by have := h'.n; rw [sqS_n, hn] at this; exact this)
  have HN0 : Hid (∀ (bs : List (Nat × Obj)) (w' : World), Od lg F0 w0 w' b S bs → w'.cell? ⟨b, 0, none⟩ = some (.int .i64 2)) := hid (fun bs w' h' => by have := h'.n; rw [hn] at this; exact this)
  have HR : Hid (frR S false A = reg3 (sqr (S.beginS 2) (opF2 A) 1) (sqr (S.beginS 2) (opF2 A) 2) (-1)) := hid (by unfold frR; rw [if_neg (by omega)])
  obtain ⟨w1, hw1⟩ : ∃ w1, (w.alloc (.cells (wdV A) 34)).alloc (.cells #[.int .i64 0, .int .i64 0, .int .i64 0] 34) = w1 := ⟨_, rfl⟩
  have H1 : Hid (Od lg F0 w0 w1 b S [(w.heap.size + 1, Obj.cells #[.int .i64 0, .int .i64 0, .int .i64 0] 34 (0, 0)), (w.heap.size, Obj.cells (wdV A) 34 (0, 0))]) := hid (by
    have := (h.new (wdV A) 34).new #[.int .i64 0, .int .i64 0, .int .i64 0] 34
    rw [hw1] at this
    simp only [sz_al] at this
    exact this)
  have HW := hid hw1
  clear h hq hk hn hA hB hwf hSB hw1
  rw [HR.out]
  clear HR
  generalize frS S false A = S3 at *
  generalize sqr (S.beginS 2) (opF2 A) 0 = rg0 at *
  generalize sqr (S.beginS 2) (opF2 A) 1 = rg1 at *
  generalize sqr (S.beginS 2) (opF2 A) 2 = rg2 at *
  generalize S.beginS 2 = S2 at *
  go_enter Tryd.func13, Tryd.ntmps13
  go_upto_region 1 with fail
  rw [HW.out]
  go_upto_region 2 with (go_at_call 31; (with_reducible refine (none_any _).mono ?_); rintro e w2 ⟨rfl, hb⟩; have H2 := hid (H1.out.self hb); clear hb)
  have H3 := hid (H2.out.new (wdV none3) 34)
  obtain ⟨g5, hg5⟩ : ∃ g5, w2.heap.size = g5 := ⟨_, rfl⟩
  rw [hg5] at H3
  have H4 : Hid (Od lg F0 w0 (w2.alloc (.cells #[.int .i64 (none3 0), .int .i64 (none3 1), .int .i64 (none3 2)] 34)) b S [(g5, .cells #[.int .i64 (-1), .int .i64 (-1), .int .i64 (-1)] 34 (0, 0)), (w.heap.size + 1, Obj.cells #[.int .i64 0, .int .i64 0, .int .i64 0] 34 (0, 0)), (w.heap.size, Obj.cells (wdV A) 34 (0, 0))]) := H3
  generalize w2.alloc (.cells #[.int .i64 (none3 0), .int .i64 (none3 1), .int .i64 (none3 2)] 34) = w4 at *
  rw [hg5]
  clear hg5 H3 H2 H1
  go_upto_region 3 with (go_at_call 32; (with_reducible refine (HBG.out _ _ H4.out).mono ?_); rintro e v0 ⟨rfl, hb⟩; have G0 := hid hb; clear hb)
  have ca0 := row_c (i := 0) (u := .int .i64 (A 0)) (G0.out.bl 2 rfl) rfl
  have ca1 := row_c (i := 1) (u := .int .i64 (A 1)) (G0.out.bl 2 rfl) rfl
  have ca2 := row_c (i := 2) (u := .int .i64 (A 2)) (G0.out.bl 2 rfl) rfl
  have cb0 := row_c (i := 0) (u := .int .i64 (-1)) (G0.out.bl 0 rfl) rfl
  have fb0 := frozen_of_row v0 g5 0 _ _ (G0.out.bl 0 rfl)
  have cb1 := row_c (i := 1) (u := .int .i64 (-1)) (G0.out.bl 0 rfl) rfl
  have fb1 := frozen_of_row v0 g5 1 _ _ (G0.out.bl 0 rfl)
  have cb2 := row_c (i := 2) (u := .int .i64 (-1)) (G0.out.bl 0 rfl) rfl
  have fb2 := frozen_of_row v0 g5 2 _ _ (G0.out.bl 0 rfl)
  have cn := HNN.out 0 _ _ G0.out
  go_upto_region 4 with (first
    | (go_at_call 34; (with_reducible refine (dop0_any 1 (-1) (-1) (-1) _).mono ?_); rintro e y0 ⟨rfl, hb⟩; have Y0 := hid (G0.out.self hb); clear hb)
    | (go_at_call 33; (with_reducible refine (HD0.out _ _ Y0.out).mono ?_); rintro e v1 ⟨rfl, hb⟩; have G1 := hid hb; clear hb; clear ca0 ca1 ca2 cb0 cb1 cb2 fb0 fb1 fb2 cn; have ca0 := row_c (i := 0) (u := .int .i64 (A 0)) (G1.out.bl 2 rfl) rfl; have ca1 := row_c (i := 1) (u := .int .i64 (A 1)) (G1.out.bl 2 rfl) rfl; have ca2 := row_c (i := 2) (u := .int .i64 (A 2)) (G1.out.bl 2 rfl) rfl; have cb0 := row_c (i := 0) (u := .int .i64 (-1)) (G1.out.bl 0 rfl) rfl; have fb0 := frozen_of_row v1 g5 0 _ _ (G1.out.bl 0 rfl); have cb1 := row_c (i := 1) (u := .int .i64 (-1)) (G1.out.bl 0 rfl) rfl; have fb1 := frozen_of_row v1 g5 1 _ _ (G1.out.bl 0 rfl); have cb2 := row_c (i := 2) (u := .int .i64 (-1)) (G1.out.bl 0 rfl) rfl; have fb2 := frozen_of_row v1 g5 2 _ _ (G1.out.bl 0 rfl); have cn := HNN.out 1 _ _ G1.out))
  go_upto_region 8 with fail
  go_upto_region 9 with (first
    | (go_at_call 34; (with_reducible refine (dop0_any 5 0 (A 0) rg0 _).mono ?_); rintro e y1 ⟨rfl, hb⟩; have Y1 := hid (G1.out.self hb); clear hb)
    | (go_at_call 33; (with_reducible refine (HD1.out _ _ Y1.out).mono ?_); rintro e v2 ⟨rfl, hb⟩; have G2 := hid hb; clear hb; clear ca0 ca1 ca2 cb0 cb1 cb2 fb0 fb1 fb2 cn; have ca0 := row_c (i := 0) (u := .int .i64 (A 0)) (G2.out.bl 2 rfl) rfl; have ca1 := row_c (i := 1) (u := .int .i64 (A 1)) (G2.out.bl 2 rfl) rfl; have ca2 := row_c (i := 2) (u := .int .i64 (A 2)) (G2.out.bl 2 rfl) rfl; have cb0 := row_c (i := 0) (u := .int .i64 (-1)) (G2.out.bl 0 rfl) rfl; have fb0 := frozen_of_row v2 g5 0 _ _ (G2.out.bl 0 rfl); have cb1 := row_c (i := 1) (u := .int .i64 (-1)) (G2.out.bl 0 rfl) rfl; have fb1 := frozen_of_row v2 g5 1 _ _ (G2.out.bl 0 rfl); have cb2 := row_c (i := 2) (u := .int .i64 (-1)) (G2.out.bl 0 rfl) rfl; have fb2 := frozen_of_row v2 g5 2 _ _ (G2.out.bl 0 rfl); have cn := HNN.out 2 _ _ G2.out))
  have K2 : Hid (Od lg F0 w0 (v2.setCell ⟨g5, 0, none⟩ (.int .i64 rg1)) b (sqS S2 (opF2 A) 2) [(g5, .cells #[.int .i64 rg1, .int .i64 (-1), .int .i64 (-1)] 34 (0, 0)), (w.heap.size + 1, Obj.cells #[.int .i64 0, .int .i64 0, .int .i64 0] 34 (0, 0)), (w.heap.size, Obj.cells (wdV A) 34 (0, 0))]) := hid (G2.out.cell 0 (.int .i64 rg1))
  generalize v2.setCell ⟨g5, 0, none⟩ (.int .i64 rg1) = x2 at *
  clear ca0 ca1 ca2 cb0 cb1 cb2 fb0 fb1 fb2 cn
  have ca0 := row_c (i := 0) (u := .int .i64 (A 0)) (K2.out.bl 2 rfl) rfl
  have ca1 := row_c (i := 1) (u := .int .i64 (A 1)) (K2.out.bl 2 rfl) rfl
  have ca2 := row_c (i := 2) (u := .int .i64 (A 2)) (K2.out.bl 2 rfl) rfl
  have cb0 := row_c (i := 0) (u := .int .i64 rg1) (K2.out.bl 0 rfl) rfl
  have fb0 := frozen_of_row x2 g5 0 _ _ (K2.out.bl 0 rfl)
  have cb1 := row_c (i := 1) (u := .int .i64 (-1)) (K2.out.bl 0 rfl) rfl
  have fb1 := frozen_of_row x2 g5 1 _ _ (K2.out.bl 0 rfl)
  have cb2 := row_c (i := 2) (u := .int .i64 (-1)) (K2.out.bl 0 rfl) rfl
  have fb2 := frozen_of_row x2 g5 2 _ _ (K2.out.bl 0 rfl)
  have cn := HNN.out 2 _ _ K2.out
  go_upto_region 11 with fail
  go_upto_region 12 with (first
    | (go_at_call 34; (with_reducible refine (dop0_any 5 1 (A 1) rg0 _).mono ?_); rintro e y2 ⟨rfl, hb⟩; have Y2 := hid (K2.out.self hb); clear hb)
    | (go_at_call 33; (with_reducible refine (HD2.out _ _ Y2.out).mono ?_); rintro e v3 ⟨rfl, hb⟩; have G3 := hid hb; clear hb; clear ca0 ca1 ca2 cb0 cb1 cb2 fb0 fb1 fb2 cn; have ca0 := row_c (i := 0) (u := .int .i64 (A 0)) (G3.out.bl 2 rfl) rfl; have ca1 := row_c (i := 1) (u := .int .i64 (A 1)) (G3.out.bl 2 rfl) rfl; have ca2 := row_c (i := 2) (u := .int .i64 (A 2)) (G3.out.bl 2 rfl) rfl; have cb0 := row_c (i := 0) (u := .int .i64 rg1) (G3.out.bl 0 rfl) rfl; have fb0 := frozen_of_row v3 g5 0 _ _ (G3.out.bl 0 rfl); have cb1 := row_c (i := 1) (u := .int .i64 (-1)) (G3.out.bl 0 rfl) rfl; have fb1 := frozen_of_row v3 g5 1 _ _ (G3.out.bl 0 rfl); have cb2 := row_c (i := 2) (u := .int .i64 (-1)) (G3.out.bl 0 rfl) rfl; have fb2 := frozen_of_row v3 g5 2 _ _ (G3.out.bl 0 rfl); have cn := HNN.out 3 _ _ G3.out))
  have K3 : Hid (Od lg F0 w0 (v3.setCell ⟨g5, 1, none⟩ (.int .i64 rg2)) b (sqS S2 (opF2 A) 3) [(g5, .cells #[.int .i64 rg1, .int .i64 rg2, .int .i64 (-1)] 34 (0, 0)), (w.heap.size + 1, Obj.cells #[.int .i64 0, .int .i64 0, .int .i64 0] 34 (0, 0)), (w.heap.size, Obj.cells (wdV A) 34 (0, 0))]) := hid (G3.out.cell 1 (.int .i64 rg2))
  generalize v3.setCell ⟨g5, 1, none⟩ (.int .i64 rg2) = x3 at *
  clear ca0 ca1 ca2 cb0 cb1 cb2 fb0 fb1 fb2 cn
  have ca0 := row_c (i := 0) (u := .int .i64 (A 0)) (K3.out.bl 2 rfl) rfl
  have ca1 := row_c (i := 1) (u := .int .i64 (A 1)) (K3.out.bl 2 rfl) rfl
  have ca2 := row_c (i := 2) (u := .int .i64 (A 2)) (K3.out.bl 2 rfl) rfl
  have cb0 := row_c (i := 0) (u := .int .i64 rg1) (K3.out.bl 0 rfl) rfl
  have fb0 := frozen_of_row x3 g5 0 _ _ (K3.out.bl 0 rfl)
  have cb1 := row_c (i := 1) (u := .int .i64 rg2) (K3.out.bl 0 rfl) rfl
  have fb1 := frozen_of_row x3 g5 1 _ _ (K3.out.bl 0 rfl)
  have cb2 := row_c (i := 2) (u := .int .i64 (-1)) (K3.out.bl 0 rfl) rfl
  have fb2 := frozen_of_row x3 g5 2 _ _ (K3.out.bl 0 rfl)
  have cn := HNN.out 3 _ _ K3.out
  go_upto_region 16 with fail
  go_upto_region 17 with (go_at_call 35; (with_reducible refine (HEN.out _ _ K3.out).mono ?_); rintro e z1 ⟨rfl, hb⟩; have Z1 := hid hb; clear hb; clear ca0 ca1 ca2 cb0 cb1 cb2 fb0 fb1 fb2 cn)
  go_wp2_with (first
    | (refine step_load_row rfl 34 _ rfl g5 34 (#[.int .i64 rg1, .int .i64 rg2, .int .i64 (-1)]) _ rfl (Z1.out.bl 0 rfl) Tryd.underlying34 rfl (by kernel_rfl) ?_)
    | (refine step_store_row rfl 34 _ _ rfl (w.heap.size + 1) 34 _ (#[.int .i64 rg1, .int .i64 rg2, .int .i64 (-1)]) rfl rfl (Z1.out.bl 1 rfl) (by kernel_rfl) rfl (by kernel_rfl) ?_))
  have Z2 := hid (Z1.out.swap.row (#[.int .i64 rg1, .int .i64 rg2, .int .i64 (-1)]))
  exact bodyPost_ret (results_cell_row (by rfl) _ _ (w.heap.size + 1) 34 (#[.int .i64 rg1, .int .i64 rg2, .int .i64 (-1)]) (0, 0) _ rfl (Z2.out.bl 0 rfl) Tryd.underlying34 rfl (by kernel_rfl)) rfl ⟨rfl, Z2.out.drop.drop.drop⟩
set_option maxHeartbeats 12800000 in
theorem dfull3 {lg : LoG} {F0 : Nat → Prop} {w0 w : World} {b k : Nat} {S : Ms} (A : Nat → Int) (h : Od lg F0 w0 w b S []) (hq : Bq k S) (hk : k + 20 ≤ 100000) (hn : S.n = 3) (hA : Wb A) :
    Calls Tryd.prog 13 #[.pointer (some ⟨b, 0, none⟩), .agg (wdV A)] w fun e w' => e = .returned (.agg (wdV (frR S false A))) ∧ Od lg F0 w0 w' b (frS S false A) [] := by
  have hB := hq.begins 2
  have hwf : ∀ j, j < 9 → ∀ r, Wb r → opwf (opF3 A j r) := fun j _ r hr => opF3_wf hA hr j
  have hSB : ∀ j, j ≤ 9 → Bq (k + j) (sqS (S.beginS 2) (opF3 A) j) ∧ Wb (sqR (S.beginS 2) (opF3 A) j) := fun j hj => sq_bq hB (fun i hi => hwf i (by omega)) (by omega)
  have HBG : Hid (∀ (bs : List (Nat × Obj)) (w' : World), Od lg F0 w0 w' b S bs → Calls Tryd.prog 32 #[.pointer (some ⟨b, 0, none⟩), .int .i64 2] w' fun e w2 => e = .returned (.tuple #[]) ∧ Od lg F0 w0 w2 b (sqS (S.beginS 2) (opF3 A) 0) bs) := hid (fun bs w' h' => h'.begins 2 hq (by omega))
  have HD0 : Hid (∀ (bs : List (Nat × Obj)) (w' : World), Od lg F0 w0 w' b (sqS (S.beginS 2) (opF3 A) 0) bs → Calls Tryd.prog 33 #[.pointer (some ⟨b, 0, none⟩), .agg (opCs ⟨1, -1, -1, -1, -1, 0⟩), .int .u64 0] w' fun e w2 => e = .returned (.int .i64 (sqr (S.beginS 2) (opF3 A) 0)) ∧ Od lg F0 w0 w2 b (sqS (S.beginS 2) (opF3 A) 1) bs) := hid (fun bs w' h' => by
    have e : sqO (S.beginS 2) (opF3 A) 0 = ⟨1, -1, -1, -1, -1, 0⟩ := by
      unfold sqO
      generalize sqR (S.beginS 2) (opF3 A) 0 = r
      rfl
    skip
    have h2 := h'.do0 (sqO (S.beginS 2) (opF3 A) 0) (hSB 0 (by omega)).1 (by omega) (hwf 0 (by omega) _ (hSB 0 (by omega)).2)
    rw [← e, show sqS (S.beginS 2) (opF3 A) 1 = (sqS (S.beginS 2) (opF3 A) 0).doS (sqO (S.beginS 2) (opF3 A) 0) 0 from sqS_next _ _ _]
    unfold sqr
    exact h2)
  have HD1 : Hid (∀ (bs : List (Nat × Obj)) (w' : World), Od lg F0 w0 w' b (sqS (S.beginS 2) (opF3 A) 1) bs → Calls Tryd.prog 33 #[.pointer (some ⟨b, 0, none⟩), .agg (opCs ⟨1, -1, -1, -1, -1, 0⟩), .int .u64 0] w' fun e w2 => e = .returned (.int .i64 (sqr (S.beginS 2) (opF3 A) 1)) ∧ Od lg F0 w0 w2 b (sqS (S.beginS 2) (opF3 A) 2) bs) := hid (fun bs w' h' => by
    have e : sqO (S.beginS 2) (opF3 A) 1 = ⟨1, -1, -1, -1, -1, 0⟩ := by
      unfold sqO
      generalize sqR (S.beginS 2) (opF3 A) 1 = r
      rfl
    skip
    have h2 := h'.do0 (sqO (S.beginS 2) (opF3 A) 1) (hSB 1 (by omega)).1 (by omega) (hwf 1 (by omega) _ (hSB 1 (by omega)).2)
    rw [← e, show sqS (S.beginS 2) (opF3 A) 2 = (sqS (S.beginS 2) (opF3 A) 1).doS (sqO (S.beginS 2) (opF3 A) 1) 0 from sqS_next _ _ _]
    unfold sqr
    exact h2)
  have HD2 : Hid (∀ (bs : List (Nat × Obj)) (w' : World), Od lg F0 w0 w' b (sqS (S.beginS 2) (opF3 A) 2) bs → Calls Tryd.prog 33 #[.pointer (some ⟨b, 0, none⟩), .agg (opCs ⟨1, -1, -1, -1, -1, 0⟩), .int .u64 0] w' fun e w2 => e = .returned (.int .i64 (sqr (S.beginS 2) (opF3 A) 2)) ∧ Od lg F0 w0 w2 b (sqS (S.beginS 2) (opF3 A) 3) bs) := hid (fun bs w' h' => by
    have e : sqO (S.beginS 2) (opF3 A) 2 = ⟨1, -1, -1, -1, -1, 0⟩ := by
      unfold sqO
      generalize sqR (S.beginS 2) (opF3 A) 2 = r
      rfl
    skip
    have h2 := h'.do0 (sqO (S.beginS 2) (opF3 A) 2) (hSB 2 (by omega)).1 (by omega) (hwf 2 (by omega) _ (hSB 2 (by omega)).2)
    rw [← e, show sqS (S.beginS 2) (opF3 A) 3 = (sqS (S.beginS 2) (opF3 A) 2).doS (sqO (S.beginS 2) (opF3 A) 2) 0 from sqS_next _ _ _]
    unfold sqr
    exact h2)
  have HD3 : Hid (∀ (bs : List (Nat × Obj)) (w' : World), Od lg F0 w0 w' b (sqS (S.beginS 2) (opF3 A) 3) bs → Calls Tryd.prog 33 #[.pointer (some ⟨b, 0, none⟩), .agg (opCs ⟨5, 0, (A 0), sqr (S.beginS 2) (opF3 A) (0), -1, 0⟩), .int .u64 0] w' fun e w2 => e = .returned (.int .i64 (sqr (S.beginS 2) (opF3 A) 3)) ∧ Od lg F0 w0 w2 b (sqS (S.beginS 2) (opF3 A) 4) bs) := hid (fun bs w' h' => by
    have e : sqO (S.beginS 2) (opF3 A) 3 = ⟨5, 0, (A 0), sqR (S.beginS 2) (opF3 A) 3 0, -1, 0⟩ := by
      unfold sqO
      generalize sqR (S.beginS 2) (opF3 A) 3 = r
      rfl
    rw [sqR_at _ _ (by omega : 0 < 3)] at e
    have h2 := h'.do0 (sqO (S.beginS 2) (opF3 A) 3) (hSB 3 (by omega)).1 (by omega) (hwf 3 (by omega) _ (hSB 3 (by omega)).2)
    rw [← e, show sqS (S.beginS 2) (opF3 A) 4 = (sqS (S.beginS 2) (opF3 A) 3).doS (sqO (S.beginS 2) (opF3 A) 3) 0 from sqS_next _ _ _]
    unfold sqr
    exact h2)
  have HD4 : Hid (∀ (bs : List (Nat × Obj)) (w' : World), Od lg F0 w0 w' b (sqS (S.beginS 2) (opF3 A) 4) bs → Calls Tryd.prog 33 #[.pointer (some ⟨b, 0, none⟩), .agg (opCs ⟨5, 0, sqr (S.beginS 2) (opF3 A) (3), sqr (S.beginS 2) (opF3 A) (1), -1, 0⟩), .int .u64 0] w' fun e w2 => e = .returned (.int .i64 (sqr (S.beginS 2) (opF3 A) 4)) ∧ Od lg F0 w0 w2 b (sqS (S.beginS 2) (opF3 A) 5) bs) := hid (fun bs w' h' => by
    have e : sqO (S.beginS 2) (opF3 A) 4 = ⟨5, 0, sqR (S.beginS 2) (opF3 A) 4 3, sqR (S.beginS 2) (opF3 A) 4 1, -1, 0⟩ := by
      unfold sqO
      generalize sqR (S.beginS 2) (opF3 A) 4 = r
      rfl
    rw [sqR_at _ _ (by omega : 3 < 4), sqR_at _ _ (by omega : 1 < 4)] at e
    have h2 := h'.do0 (sqO (S.beginS 2) (opF3 A) 4) (hSB 4 (by omega)).1 (by omega) (hwf 4 (by omega) _ (hSB 4 (by omega)).2)
    rw [← e, show sqS (S.beginS 2) (opF3 A) 5 = (sqS (S.beginS 2) (opF3 A) 4).doS (sqO (S.beginS 2) (opF3 A) 4) 0 from sqS_next _ _ _]
    unfold sqr
    exact h2)
  have HD5 : Hid (∀ (bs : List (Nat × Obj)) (w' : World), Od lg F0 w0 w' b (sqS (S.beginS 2) (opF3 A) 5) bs → Calls Tryd.prog 33 #[.pointer (some ⟨b, 0, none⟩), .agg (opCs ⟨5, 1, (A 1), sqr (S.beginS 2) (opF3 A) (0), -1, 0⟩), .int .u64 0] w' fun e w2 => e = .returned (.int .i64 (sqr (S.beginS 2) (opF3 A) 5)) ∧ Od lg F0 w0 w2 b (sqS (S.beginS 2) (opF3 A) 6) bs) := hid (fun bs w' h' => by
    have e : sqO (S.beginS 2) (opF3 A) 5 = ⟨5, 1, (A 1), sqR (S.beginS 2) (opF3 A) 5 0, -1, 0⟩ := by
      unfold sqO
      generalize sqR (S.beginS 2) (opF3 A) 5 = r
      rfl
    rw [sqR_at _ _ (by omega : 0 < 5)] at e
    have h2 := h'.do0 (sqO (S.beginS 2) (opF3 A) 5) (hSB 5 (by omega)).1 (by omega) (hwf 5 (by omega) _ (hSB 5 (by omega)).2)
    rw [← e, show sqS (S.beginS 2) (opF3 A) 6 = (sqS (S.beginS 2) (opF3 A) 5).doS (sqO (S.beginS 2) (opF3 A) 5) 0 from sqS_next _ _ _]
    unfold sqr
    exact h2)
  have HD6 : Hid (∀ (bs : List (Nat × Obj)) (w' : World), Od lg F0 w0 w' b (sqS (S.beginS 2) (opF3 A) 6) bs → Calls Tryd.prog 33 #[.pointer (some ⟨b, 0, none⟩), .agg (opCs ⟨5, 1, sqr (S.beginS 2) (opF3 A) (5), sqr (S.beginS 2) (opF3 A) (2), -1, 0⟩), .int .u64 0] w' fun e w2 => e = .returned (.int .i64 (sqr (S.beginS 2) (opF3 A) 6)) ∧ Od lg F0 w0 w2 b (sqS (S.beginS 2) (opF3 A) 7) bs) := hid (fun bs w' h' => by
    have e : sqO (S.beginS 2) (opF3 A) 6 = ⟨5, 1, sqR (S.beginS 2) (opF3 A) 6 5, sqR (S.beginS 2) (opF3 A) 6 2, -1, 0⟩ := by
      unfold sqO
      generalize sqR (S.beginS 2) (opF3 A) 6 = r
      rfl
    rw [sqR_at _ _ (by omega : 5 < 6), sqR_at _ _ (by omega : 2 < 6)] at e
    have h2 := h'.do0 (sqO (S.beginS 2) (opF3 A) 6) (hSB 6 (by omega)).1 (by omega) (hwf 6 (by omega) _ (hSB 6 (by omega)).2)
    rw [← e, show sqS (S.beginS 2) (opF3 A) 7 = (sqS (S.beginS 2) (opF3 A) 6).doS (sqO (S.beginS 2) (opF3 A) 6) 0 from sqS_next _ _ _]
    unfold sqr
    exact h2)
  have HD7 : Hid (∀ (bs : List (Nat × Obj)) (w' : World), Od lg F0 w0 w' b (sqS (S.beginS 2) (opF3 A) 7) bs → Calls Tryd.prog 33 #[.pointer (some ⟨b, 0, none⟩), .agg (opCs ⟨5, 2, (A 2), sqr (S.beginS 2) (opF3 A) (1), -1, 0⟩), .int .u64 0] w' fun e w2 => e = .returned (.int .i64 (sqr (S.beginS 2) (opF3 A) 7)) ∧ Od lg F0 w0 w2 b (sqS (S.beginS 2) (opF3 A) 8) bs) := hid (fun bs w' h' => by
    have e : sqO (S.beginS 2) (opF3 A) 7 = ⟨5, 2, (A 2), sqR (S.beginS 2) (opF3 A) 7 1, -1, 0⟩ := by
      unfold sqO
      generalize sqR (S.beginS 2) (opF3 A) 7 = r
      rfl
    rw [sqR_at _ _ (by omega : 1 < 7)] at e
    have h2 := h'.do0 (sqO (S.beginS 2) (opF3 A) 7) (hSB 7 (by omega)).1 (by omega) (hwf 7 (by omega) _ (hSB 7 (by omega)).2)
    rw [← e, show sqS (S.beginS 2) (opF3 A) 8 = (sqS (S.beginS 2) (opF3 A) 7).doS (sqO (S.beginS 2) (opF3 A) 7) 0 from sqS_next _ _ _]
    unfold sqr
    exact h2)
  have HD8 : Hid (∀ (bs : List (Nat × Obj)) (w' : World), Od lg F0 w0 w' b (sqS (S.beginS 2) (opF3 A) 8) bs → Calls Tryd.prog 33 #[.pointer (some ⟨b, 0, none⟩), .agg (opCs ⟨5, 2, sqr (S.beginS 2) (opF3 A) (7), sqr (S.beginS 2) (opF3 A) (2), -1, 0⟩), .int .u64 0] w' fun e w2 => e = .returned (.int .i64 (sqr (S.beginS 2) (opF3 A) 8)) ∧ Od lg F0 w0 w2 b (sqS (S.beginS 2) (opF3 A) 9) bs) := hid (fun bs w' h' => by
    have e : sqO (S.beginS 2) (opF3 A) 8 = ⟨5, 2, sqR (S.beginS 2) (opF3 A) 8 7, sqR (S.beginS 2) (opF3 A) 8 2, -1, 0⟩ := by
      unfold sqO
      generalize sqR (S.beginS 2) (opF3 A) 8 = r
      rfl
    rw [sqR_at _ _ (by omega : 7 < 8), sqR_at _ _ (by omega : 2 < 8)] at e
    have h2 := h'.do0 (sqO (S.beginS 2) (opF3 A) 8) (hSB 8 (by omega)).1 (by omega) (hwf 8 (by omega) _ (hSB 8 (by omega)).2)
    rw [← e, show sqS (S.beginS 2) (opF3 A) 9 = (sqS (S.beginS 2) (opF3 A) 8).doS (sqO (S.beginS 2) (opF3 A) 8) 0 from sqS_next _ _ _]
    unfold sqr
    exact h2)
  have HEN : Hid (∀ (bs : List (Nat × Obj)) (w' : World), Od lg F0 w0 w' b (sqS (S.beginS 2) (opF3 A) 9) bs → Calls Tryd.prog 35 #[.pointer (some ⟨b, 0, none⟩)] w' fun e w2 => e = .returned (.tuple #[]) ∧ Od lg F0 w0 w2 b (frS S false A) bs) := hid (fun bs w' h' => by
    rw [show frS S false A = (sqS (S.beginS 2) (opF3 A) 9).endS from by unfold frS frO frM blkS; rw [if_pos hn, if_pos hn, if_neg (by decide), if_neg (by decide)]]
    exact h'.ends (hSB 9 (by omega)).1 (by omega))
  have HNN : Hid (∀ (j : Nat) (bs : List (Nat × Obj)) (w' : World), Od lg F0 w0 w' b (sqS (S.beginS 2) (opF3 A) j) bs → w'.cell? ⟨b, 0, none⟩ = some (.int .i64 3)) := hid (fun j bs w' h' => by have := h'.n; rw [sqS_n, hn] at this; exact this)
  have HN0 : Hid (∀ (bs : List (Nat × Obj)) (w' : World), Od lg F0 w0 w' b S bs → w'.cell? ⟨b, 0, none⟩ = some (.int .i64 3)) := hid (fun bs w' h' => by have := h'.n; rw [hn] at this; exact this)
  have HR : Hid (frR S false A = reg3 (sqr (S.beginS 2) (opF3 A) 4) (sqr (S.beginS 2) (opF3 A) 6) (sqr (S.beginS 2) (opF3 A) 8)) := hid (by unfold frR; rw [if_pos hn, if_neg (by decide)])
  obtain ⟨w1, hw1⟩ : ∃ w1, (w.alloc (.cells (wdV A) 34)).alloc (.cells #[.int .i64 0, .int .i64 0, .int .i64 0] 34) = w1 := ⟨_, rfl⟩
  have H1 : Hid (Od lg F0 w0 w1 b S [(w.heap.size + 1, Obj.cells #[.int .i64 0, .int .i64 0, .int .i64 0] 34 (0, 0)), (w.heap.size, Obj.cells (wdV A) 34 (0, 0))]) := hid (by
    have := (h.new (wdV A) 34).new #[.int .i64 0, .int .i64 0, .int .i64 0] 34
    rw [hw1] at this
    simp only [sz_al] at this
    exact this)
  have HW := hid hw1
  clear h hq hk hn hA hB hwf hSB hw1
  rw [HR.out]
  clear HR
  generalize frS S false A = S3 at *
  generalize sqr (S.beginS 2) (opF3 A) 0 = rg0 at *
  generalize sqr (S.beginS 2) (opF3 A) 1 = rg1 at *
  generalize sqr (S.beginS 2) (opF3 A) 2 = rg2 at *
  generalize sqr (S.beginS 2) (opF3 A) 3 = rg3 at *
  generalize sqr (S.beginS 2) (opF3 A) 4 = rg4 at *
  generalize sqr (S.beginS 2) (opF3 A) 5 = rg5 at *
  generalize sqr (S.beginS 2) (opF3 A) 6 = rg6 at *
  generalize sqr (S.beginS 2) (opF3 A) 7 = rg7 at *
  generalize sqr (S.beginS 2) (opF3 A) 8 = rg8 at *
  generalize S.beginS 2 = S2 at *
  go_enter Tryd.func13, Tryd.ntmps13
  go_upto_region 1 with fail
  rw [HW.out]
  go_upto_region 2 with (go_at_call 31; (with_reducible refine (none_any _).mono ?_); rintro e w2 ⟨rfl, hb⟩; have H2 := hid (H1.out.self hb); clear hb)
  have H3 := hid (H2.out.new (wdV none3) 34)
  obtain ⟨g5, hg5⟩ : ∃ g5, w2.heap.size = g5 := ⟨_, rfl⟩
  rw [hg5] at H3
  have H4 : Hid (Od lg F0 w0 (w2.alloc (.cells #[.int .i64 (none3 0), .int .i64 (none3 1), .int .i64 (none3 2)] 34)) b S [(g5, .cells #[.int .i64 (-1), .int .i64 (-1), .int .i64 (-1)] 34 (0, 0)), (w.heap.size + 1, Obj.cells #[.int .i64 0, .int .i64 0, .int .i64 0] 34 (0, 0)), (w.heap.size, Obj.cells (wdV A) 34 (0, 0))]) := H3
  generalize w2.alloc (.cells #[.int .i64 (none3 0), .int .i64 (none3 1), .int .i64 (none3 2)] 34) = w4 at *
  rw [hg5]
  clear hg5 H3 H2 H1
  go_upto_region 3 with (go_at_call 32; (with_reducible refine (HBG.out _ _ H4.out).mono ?_); rintro e v0 ⟨rfl, hb⟩; have G0 := hid hb; clear hb)
  have ca0 := row_c (i := 0) (u := .int .i64 (A 0)) (G0.out.bl 2 rfl) rfl
  have ca1 := row_c (i := 1) (u := .int .i64 (A 1)) (G0.out.bl 2 rfl) rfl
  have ca2 := row_c (i := 2) (u := .int .i64 (A 2)) (G0.out.bl 2 rfl) rfl
  have cb0 := row_c (i := 0) (u := .int .i64 (-1)) (G0.out.bl 0 rfl) rfl
  have fb0 := frozen_of_row v0 g5 0 _ _ (G0.out.bl 0 rfl)
  have cb1 := row_c (i := 1) (u := .int .i64 (-1)) (G0.out.bl 0 rfl) rfl
  have fb1 := frozen_of_row v0 g5 1 _ _ (G0.out.bl 0 rfl)
  have cb2 := row_c (i := 2) (u := .int .i64 (-1)) (G0.out.bl 0 rfl) rfl
  have fb2 := frozen_of_row v0 g5 2 _ _ (G0.out.bl 0 rfl)
  have cn := HNN.out 0 _ _ G0.out
  go_upto_region 4 with (first
    | (go_at_call 34; (with_reducible refine (dop0_any 1 (-1) (-1) (-1) _).mono ?_); rintro e y0 ⟨rfl, hb⟩; have Y0 := hid (G0.out.self hb); clear hb)
    | (go_at_call 33; (with_reducible refine (HD0.out _ _ Y0.out).mono ?_); rintro e v1 ⟨rfl, hb⟩; have G1 := hid hb; clear hb; clear ca0 ca1 ca2 cb0 cb1 cb2 fb0 fb1 fb2 cn; have ca0 := row_c (i := 0) (u := .int .i64 (A 0)) (G1.out.bl 2 rfl) rfl; have ca1 := row_c (i := 1) (u := .int .i64 (A 1)) (G1.out.bl 2 rfl) rfl; have ca2 := row_c (i := 2) (u := .int .i64 (A 2)) (G1.out.bl 2 rfl) rfl; have cb0 := row_c (i := 0) (u := .int .i64 (-1)) (G1.out.bl 0 rfl) rfl; have fb0 := frozen_of_row v1 g5 0 _ _ (G1.out.bl 0 rfl); have cb1 := row_c (i := 1) (u := .int .i64 (-1)) (G1.out.bl 0 rfl) rfl; have fb1 := frozen_of_row v1 g5 1 _ _ (G1.out.bl 0 rfl); have cb2 := row_c (i := 2) (u := .int .i64 (-1)) (G1.out.bl 0 rfl) rfl; have fb2 := frozen_of_row v1 g5 2 _ _ (G1.out.bl 0 rfl); have cn := HNN.out 1 _ _ G1.out))
  go_upto_region 6 with fail
  go_upto_region 7 with (first
    | (go_at_call 34; (with_reducible refine (dop0_any 1 (-1) (-1) (-1) _).mono ?_); rintro e y1 ⟨rfl, hb⟩; have Y1 := hid (G1.out.self hb); clear hb)
    | (go_at_call 33; (with_reducible refine (HD1.out _ _ Y1.out).mono ?_); rintro e v2 ⟨rfl, hb⟩; have G2 := hid hb; clear hb; clear ca0 ca1 ca2 cb0 cb1 cb2 fb0 fb1 fb2 cn; have ca0 := row_c (i := 0) (u := .int .i64 (A 0)) (G2.out.bl 2 rfl) rfl; have ca1 := row_c (i := 1) (u := .int .i64 (A 1)) (G2.out.bl 2 rfl) rfl; have ca2 := row_c (i := 2) (u := .int .i64 (A 2)) (G2.out.bl 2 rfl) rfl; have cb0 := row_c (i := 0) (u := .int .i64 (-1)) (G2.out.bl 0 rfl) rfl; have fb0 := frozen_of_row v2 g5 0 _ _ (G2.out.bl 0 rfl); have cb1 := row_c (i := 1) (u := .int .i64 (-1)) (G2.out.bl 0 rfl) rfl; have fb1 := frozen_of_row v2 g5 1 _ _ (G2.out.bl 0 rfl); have cb2 := row_c (i := 2) (u := .int .i64 (-1)) (G2.out.bl 0 rfl) rfl; have fb2 := frozen_of_row v2 g5 2 _ _ (G2.out.bl 0 rfl); have cn := HNN.out 2 _ _ G2.out))
  go_upto_region 8 with (first
    | (go_at_call 34; (with_reducible refine (dop0_any 1 (-1) (-1) (-1) _).mono ?_); rintro e y2 ⟨rfl, hb⟩; have Y2 := hid (G2.out.self hb); clear hb)
    | (go_at_call 33; (with_reducible refine (HD2.out _ _ Y2.out).mono ?_); rintro e v3 ⟨rfl, hb⟩; have G3 := hid hb; clear hb; clear ca0 ca1 ca2 cb0 cb1 cb2 fb0 fb1 fb2 cn; have ca0 := row_c (i := 0) (u := .int .i64 (A 0)) (G3.out.bl 2 rfl) rfl; have ca1 := row_c (i := 1) (u := .int .i64 (A 1)) (G3.out.bl 2 rfl) rfl; have ca2 := row_c (i := 2) (u := .int .i64 (A 2)) (G3.out.bl 2 rfl) rfl; have cb0 := row_c (i := 0) (u := .int .i64 (-1)) (G3.out.bl 0 rfl) rfl; have fb0 := frozen_of_row v3 g5 0 _ _ (G3.out.bl 0 rfl); have cb1 := row_c (i := 1) (u := .int .i64 (-1)) (G3.out.bl 0 rfl) rfl; have fb1 := frozen_of_row v3 g5 1 _ _ (G3.out.bl 0 rfl); have cb2 := row_c (i := 2) (u := .int .i64 (-1)) (G3.out.bl 0 rfl) rfl; have fb2 := frozen_of_row v3 g5 2 _ _ (G3.out.bl 0 rfl); have cn := HNN.out 3 _ _ G3.out))
  go_upto_region 9 with (first
    | (go_at_call 34; (with_reducible refine (dop0_any 5 0 (A 0) rg0 _).mono ?_); rintro e y3 ⟨rfl, hb⟩; have Y3 := hid (G3.out.self hb); clear hb)
    | (go_at_call 33; (with_reducible refine (HD3.out _ _ Y3.out).mono ?_); rintro e v4 ⟨rfl, hb⟩; have G4 := hid hb; clear hb; clear ca0 ca1 ca2 cb0 cb1 cb2 fb0 fb1 fb2 cn; have ca0 := row_c (i := 0) (u := .int .i64 (A 0)) (G4.out.bl 2 rfl) rfl; have ca1 := row_c (i := 1) (u := .int .i64 (A 1)) (G4.out.bl 2 rfl) rfl; have ca2 := row_c (i := 2) (u := .int .i64 (A 2)) (G4.out.bl 2 rfl) rfl; have cb0 := row_c (i := 0) (u := .int .i64 (-1)) (G4.out.bl 0 rfl) rfl; have fb0 := frozen_of_row v4 g5 0 _ _ (G4.out.bl 0 rfl); have cb1 := row_c (i := 1) (u := .int .i64 (-1)) (G4.out.bl 0 rfl) rfl; have fb1 := frozen_of_row v4 g5 1 _ _ (G4.out.bl 0 rfl); have cb2 := row_c (i := 2) (u := .int .i64 (-1)) (G4.out.bl 0 rfl) rfl; have fb2 := frozen_of_row v4 g5 2 _ _ (G4.out.bl 0 rfl); have cn := HNN.out 4 _ _ G4.out))
  have K4 : Hid (Od lg F0 w0 (v4.setCell ⟨g5, 0, none⟩ (.int .i64 rg3)) b (sqS S2 (opF3 A) 4) [(g5, .cells #[.int .i64 rg3, .int .i64 (-1), .int .i64 (-1)] 34 (0, 0)), (w.heap.size + 1, Obj.cells #[.int .i64 0, .int .i64 0, .int .i64 0] 34 (0, 0)), (w.heap.size, Obj.cells (wdV A) 34 (0, 0))]) := hid (G4.out.cell 0 (.int .i64 rg3))
  generalize v4.setCell ⟨g5, 0, none⟩ (.int .i64 rg3) = x4 at *
  clear ca0 ca1 ca2 cb0 cb1 cb2 fb0 fb1 fb2 cn
  have ca0 := row_c (i := 0) (u := .int .i64 (A 0)) (K4.out.bl 2 rfl) rfl
  have ca1 := row_c (i := 1) (u := .int .i64 (A 1)) (K4.out.bl 2 rfl) rfl
  have ca2 := row_c (i := 2) (u := .int .i64 (A 2)) (K4.out.bl 2 rfl) rfl
  have cb0 := row_c (i := 0) (u := .int .i64 rg3) (K4.out.bl 0 rfl) rfl
  have fb0 := frozen_of_row x4 g5 0 _ _ (K4.out.bl 0 rfl)
  have cb1 := row_c (i := 1) (u := .int .i64 (-1)) (K4.out.bl 0 rfl) rfl
  have fb1 := frozen_of_row x4 g5 1 _ _ (K4.out.bl 0 rfl)
  have cb2 := row_c (i := 2) (u := .int .i64 (-1)) (K4.out.bl 0 rfl) rfl
  have fb2 := frozen_of_row x4 g5 2 _ _ (K4.out.bl 0 rfl)
  have cn := HNN.out 4 _ _ K4.out
  go_upto_region 10 with fail
  go_upto_region 11 with (first
    | (go_at_call 34; (with_reducible refine (dop0_any 5 0 rg3 rg1 _).mono ?_); rintro e y4 ⟨rfl, hb⟩; have Y4 := hid (K4.out.self hb); clear hb)
    | (go_at_call 33; (with_reducible refine (HD4.out _ _ Y4.out).mono ?_); rintro e v5 ⟨rfl, hb⟩; have G5 := hid hb; clear hb; clear ca0 ca1 ca2 cb0 cb1 cb2 fb0 fb1 fb2 cn; have ca0 := row_c (i := 0) (u := .int .i64 (A 0)) (G5.out.bl 2 rfl) rfl; have ca1 := row_c (i := 1) (u := .int .i64 (A 1)) (G5.out.bl 2 rfl) rfl; have ca2 := row_c (i := 2) (u := .int .i64 (A 2)) (G5.out.bl 2 rfl) rfl; have cb0 := row_c (i := 0) (u := .int .i64 rg3) (G5.out.bl 0 rfl) rfl; have fb0 := frozen_of_row v5 g5 0 _ _ (G5.out.bl 0 rfl); have cb1 := row_c (i := 1) (u := .int .i64 (-1)) (G5.out.bl 0 rfl) rfl; have fb1 := frozen_of_row v5 g5 1 _ _ (G5.out.bl 0 rfl); have cb2 := row_c (i := 2) (u := .int .i64 (-1)) (G5.out.bl 0 rfl) rfl; have fb2 := frozen_of_row v5 g5 2 _ _ (G5.out.bl 0 rfl); have cn := HNN.out 5 _ _ G5.out))
  have K5 : Hid (Od lg F0 w0 (v5.setCell ⟨g5, 0, none⟩ (.int .i64 rg4)) b (sqS S2 (opF3 A) 5) [(g5, .cells #[.int .i64 rg4, .int .i64 (-1), .int .i64 (-1)] 34 (0, 0)), (w.heap.size + 1, Obj.cells #[.int .i64 0, .int .i64 0, .int .i64 0] 34 (0, 0)), (w.heap.size, Obj.cells (wdV A) 34 (0, 0))]) := hid (G5.out.cell 0 (.int .i64 rg4))
  generalize v5.setCell ⟨g5, 0, none⟩ (.int .i64 rg4) = x5 at *
  clear ca0 ca1 ca2 cb0 cb1 cb2 fb0 fb1 fb2 cn
  have ca0 := row_c (i := 0) (u := .int .i64 (A 0)) (K5.out.bl 2 rfl) rfl
  have ca1 := row_c (i := 1) (u := .int .i64 (A 1)) (K5.out.bl 2 rfl) rfl
  have ca2 := row_c (i := 2) (u := .int .i64 (A 2)) (K5.out.bl 2 rfl) rfl
  have cb0 := row_c (i := 0) (u := .int .i64 rg4) (K5.out.bl 0 rfl) rfl
  have fb0 := frozen_of_row x5 g5 0 _ _ (K5.out.bl 0 rfl)
  have cb1 := row_c (i := 1) (u := .int .i64 (-1)) (K5.out.bl 0 rfl) rfl
  have fb1 := frozen_of_row x5 g5 1 _ _ (K5.out.bl 0 rfl)
  have cb2 := row_c (i := 2) (u := .int .i64 (-1)) (K5.out.bl 0 rfl) rfl
  have fb2 := frozen_of_row x5 g5 2 _ _ (K5.out.bl 0 rfl)
  have cn := HNN.out 5 _ _ K5.out
  go_upto_region 12 with (first
    | (go_at_call 34; (with_reducible refine (dop0_any 5 1 (A 1) rg0 _).mono ?_); rintro e y5 ⟨rfl, hb⟩; have Y5 := hid (K5.out.self hb); clear hb)
    | (go_at_call 33; (with_reducible refine (HD5.out _ _ Y5.out).mono ?_); rintro e v6 ⟨rfl, hb⟩; have G6 := hid hb; clear hb; clear ca0 ca1 ca2 cb0 cb1 cb2 fb0 fb1 fb2 cn; have ca0 := row_c (i := 0) (u := .int .i64 (A 0)) (G6.out.bl 2 rfl) rfl; have ca1 := row_c (i := 1) (u := .int .i64 (A 1)) (G6.out.bl 2 rfl) rfl; have ca2 := row_c (i := 2) (u := .int .i64 (A 2)) (G6.out.bl 2 rfl) rfl; have cb0 := row_c (i := 0) (u := .int .i64 rg4) (G6.out.bl 0 rfl) rfl; have fb0 := frozen_of_row v6 g5 0 _ _ (G6.out.bl 0 rfl); have cb1 := row_c (i := 1) (u := .int .i64 (-1)) (G6.out.bl 0 rfl) rfl; have fb1 := frozen_of_row v6 g5 1 _ _ (G6.out.bl 0 rfl); have cb2 := row_c (i := 2) (u := .int .i64 (-1)) (G6.out.bl 0 rfl) rfl; have fb2 := frozen_of_row v6 g5 2 _ _ (G6.out.bl 0 rfl); have cn := HNN.out 6 _ _ G6.out))
  have K6 : Hid (Od lg F0 w0 (v6.setCell ⟨g5, 1, none⟩ (.int .i64 rg5)) b (sqS S2 (opF3 A) 6) [(g5, .cells #[.int .i64 rg4, .int .i64 rg5, .int .i64 (-1)] 34 (0, 0)), (w.heap.size + 1, Obj.cells #[.int .i64 0, .int .i64 0, .int .i64 0] 34 (0, 0)), (w.heap.size, Obj.cells (wdV A) 34 (0, 0))]) := hid (G6.out.cell 1 (.int .i64 rg5))
  generalize v6.setCell ⟨g5, 1, none⟩ (.int .i64 rg5) = x6 at *
  clear ca0 ca1 ca2 cb0 cb1 cb2 fb0 fb1 fb2 cn
  have ca0 := row_c (i := 0) (u := .int .i64 (A 0)) (K6.out.bl 2 rfl) rfl
  have ca1 := row_c (i := 1) (u := .int .i64 (A 1)) (K6.out.bl 2 rfl) rfl
  have ca2 := row_c (i := 2) (u := .int .i64 (A 2)) (K6.out.bl 2 rfl) rfl
  have cb0 := row_c (i := 0) (u := .int .i64 rg4) (K6.out.bl 0 rfl) rfl
  have fb0 := frozen_of_row x6 g5 0 _ _ (K6.out.bl 0 rfl)
  have cb1 := row_c (i := 1) (u := .int .i64 rg5) (K6.out.bl 0 rfl) rfl
  have fb1 := frozen_of_row x6 g5 1 _ _ (K6.out.bl 0 rfl)
  have cb2 := row_c (i := 2) (u := .int .i64 (-1)) (K6.out.bl 0 rfl) rfl
  have fb2 := frozen_of_row x6 g5 2 _ _ (K6.out.bl 0 rfl)
  have cn := HNN.out 6 _ _ K6.out
  go_upto_region 13 with fail
  go_upto_region 14 with (first
    | (go_at_call 34; (with_reducible refine (dop0_any 5 1 rg5 rg2 _).mono ?_); rintro e y6 ⟨rfl, hb⟩; have Y6 := hid (K6.out.self hb); clear hb)
    | (go_at_call 33; (with_reducible refine (HD6.out _ _ Y6.out).mono ?_); rintro e v7 ⟨rfl, hb⟩; have G7 := hid hb; clear hb; clear ca0 ca1 ca2 cb0 cb1 cb2 fb0 fb1 fb2 cn; have ca0 := row_c (i := 0) (u := .int .i64 (A 0)) (G7.out.bl 2 rfl) rfl; have ca1 := row_c (i := 1) (u := .int .i64 (A 1)) (G7.out.bl 2 rfl) rfl; have ca2 := row_c (i := 2) (u := .int .i64 (A 2)) (G7.out.bl 2 rfl) rfl; have cb0 := row_c (i := 0) (u := .int .i64 rg4) (G7.out.bl 0 rfl) rfl; have fb0 := frozen_of_row v7 g5 0 _ _ (G7.out.bl 0 rfl); have cb1 := row_c (i := 1) (u := .int .i64 rg5) (G7.out.bl 0 rfl) rfl; have fb1 := frozen_of_row v7 g5 1 _ _ (G7.out.bl 0 rfl); have cb2 := row_c (i := 2) (u := .int .i64 (-1)) (G7.out.bl 0 rfl) rfl; have fb2 := frozen_of_row v7 g5 2 _ _ (G7.out.bl 0 rfl); have cn := HNN.out 7 _ _ G7.out))
  have K7 : Hid (Od lg F0 w0 (v7.setCell ⟨g5, 1, none⟩ (.int .i64 rg6)) b (sqS S2 (opF3 A) 7) [(g5, .cells #[.int .i64 rg4, .int .i64 rg6, .int .i64 (-1)] 34 (0, 0)), (w.heap.size + 1, Obj.cells #[.int .i64 0, .int .i64 0, .int .i64 0] 34 (0, 0)), (w.heap.size, Obj.cells (wdV A) 34 (0, 0))]) := hid (G7.out.cell 1 (.int .i64 rg6))
  generalize v7.setCell ⟨g5, 1, none⟩ (.int .i64 rg6) = x7 at *
  clear ca0 ca1 ca2 cb0 cb1 cb2 fb0 fb1 fb2 cn
  have ca0 := row_c (i := 0) (u := .int .i64 (A 0)) (K7.out.bl 2 rfl) rfl
  have ca1 := row_c (i := 1) (u := .int .i64 (A 1)) (K7.out.bl 2 rfl) rfl
  have ca2 := row_c (i := 2) (u := .int .i64 (A 2)) (K7.out.bl 2 rfl) rfl
  have cb0 := row_c (i := 0) (u := .int .i64 rg4) (K7.out.bl 0 rfl) rfl
  have fb0 := frozen_of_row x7 g5 0 _ _ (K7.out.bl 0 rfl)
  have cb1 := row_c (i := 1) (u := .int .i64 rg6) (K7.out.bl 0 rfl) rfl
  have fb1 := frozen_of_row x7 g5 1 _ _ (K7.out.bl 0 rfl)
  have cb2 := row_c (i := 2) (u := .int .i64 (-1)) (K7.out.bl 0 rfl) rfl
  have fb2 := frozen_of_row x7 g5 2 _ _ (K7.out.bl 0 rfl)
  have cn := HNN.out 7 _ _ K7.out
  go_upto_region 15 with (first
    | (go_at_call 34; (with_reducible refine (dop0_any 5 2 (A 2) rg1 _).mono ?_); rintro e y7 ⟨rfl, hb⟩; have Y7 := hid (K7.out.self hb); clear hb)
    | (go_at_call 33; (with_reducible refine (HD7.out _ _ Y7.out).mono ?_); rintro e v8 ⟨rfl, hb⟩; have G8 := hid hb; clear hb; clear ca0 ca1 ca2 cb0 cb1 cb2 fb0 fb1 fb2 cn; have ca0 := row_c (i := 0) (u := .int .i64 (A 0)) (G8.out.bl 2 rfl) rfl; have ca1 := row_c (i := 1) (u := .int .i64 (A 1)) (G8.out.bl 2 rfl) rfl; have ca2 := row_c (i := 2) (u := .int .i64 (A 2)) (G8.out.bl 2 rfl) rfl; have cb0 := row_c (i := 0) (u := .int .i64 rg4) (G8.out.bl 0 rfl) rfl; have fb0 := frozen_of_row v8 g5 0 _ _ (G8.out.bl 0 rfl); have cb1 := row_c (i := 1) (u := .int .i64 rg6) (G8.out.bl 0 rfl) rfl; have fb1 := frozen_of_row v8 g5 1 _ _ (G8.out.bl 0 rfl); have cb2 := row_c (i := 2) (u := .int .i64 (-1)) (G8.out.bl 0 rfl) rfl; have fb2 := frozen_of_row v8 g5 2 _ _ (G8.out.bl 0 rfl); have cn := HNN.out 8 _ _ G8.out))
  have K8 : Hid (Od lg F0 w0 (v8.setCell ⟨g5, 2, none⟩ (.int .i64 rg7)) b (sqS S2 (opF3 A) 8) [(g5, .cells #[.int .i64 rg4, .int .i64 rg6, .int .i64 rg7] 34 (0, 0)), (w.heap.size + 1, Obj.cells #[.int .i64 0, .int .i64 0, .int .i64 0] 34 (0, 0)), (w.heap.size, Obj.cells (wdV A) 34 (0, 0))]) := hid (G8.out.cell 2 (.int .i64 rg7))
  generalize v8.setCell ⟨g5, 2, none⟩ (.int .i64 rg7) = x8 at *
  clear ca0 ca1 ca2 cb0 cb1 cb2 fb0 fb1 fb2 cn
  have ca0 := row_c (i := 0) (u := .int .i64 (A 0)) (K8.out.bl 2 rfl) rfl
  have ca1 := row_c (i := 1) (u := .int .i64 (A 1)) (K8.out.bl 2 rfl) rfl
  have ca2 := row_c (i := 2) (u := .int .i64 (A 2)) (K8.out.bl 2 rfl) rfl
  have cb0 := row_c (i := 0) (u := .int .i64 rg4) (K8.out.bl 0 rfl) rfl
  have fb0 := frozen_of_row x8 g5 0 _ _ (K8.out.bl 0 rfl)
  have cb1 := row_c (i := 1) (u := .int .i64 rg6) (K8.out.bl 0 rfl) rfl
  have fb1 := frozen_of_row x8 g5 1 _ _ (K8.out.bl 0 rfl)
  have cb2 := row_c (i := 2) (u := .int .i64 rg7) (K8.out.bl 0 rfl) rfl
  have fb2 := frozen_of_row x8 g5 2 _ _ (K8.out.bl 0 rfl)
  have cn := HNN.out 8 _ _ K8.out
  go_upto_region 16 with (first
    | (go_at_call 34; (with_reducible refine (dop0_any 5 2 rg7 rg2 _).mono ?_); rintro e y8 ⟨rfl, hb⟩; have Y8 := hid (K8.out.self hb); clear hb)
    | (go_at_call 33; (with_reducible refine (HD8.out _ _ Y8.out).mono ?_); rintro e v9 ⟨rfl, hb⟩; have G9 := hid hb; clear hb; clear ca0 ca1 ca2 cb0 cb1 cb2 fb0 fb1 fb2 cn; have ca0 := row_c (i := 0) (u := .int .i64 (A 0)) (G9.out.bl 2 rfl) rfl; have ca1 := row_c (i := 1) (u := .int .i64 (A 1)) (G9.out.bl 2 rfl) rfl; have ca2 := row_c (i := 2) (u := .int .i64 (A 2)) (G9.out.bl 2 rfl) rfl; have cb0 := row_c (i := 0) (u := .int .i64 rg4) (G9.out.bl 0 rfl) rfl; have fb0 := frozen_of_row v9 g5 0 _ _ (G9.out.bl 0 rfl); have cb1 := row_c (i := 1) (u := .int .i64 rg6) (G9.out.bl 0 rfl) rfl; have fb1 := frozen_of_row v9 g5 1 _ _ (G9.out.bl 0 rfl); have cb2 := row_c (i := 2) (u := .int .i64 rg7) (G9.out.bl 0 rfl) rfl; have fb2 := frozen_of_row v9 g5 2 _ _ (G9.out.bl 0 rfl); have cn := HNN.out 9 _ _ G9.out))
  have K9 : Hid (Od lg F0 w0 (v9.setCell ⟨g5, 2, none⟩ (.int .i64 rg8)) b (sqS S2 (opF3 A) 9) [(g5, .cells #[.int .i64 rg4, .int .i64 rg6, .int .i64 rg8] 34 (0, 0)), (w.heap.size + 1, Obj.cells #[.int .i64 0, .int .i64 0, .int .i64 0] 34 (0, 0)), (w.heap.size, Obj.cells (wdV A) 34 (0, 0))]) := hid (G9.out.cell 2 (.int .i64 rg8))
  generalize v9.setCell ⟨g5, 2, none⟩ (.int .i64 rg8) = x9 at *
  clear ca0 ca1 ca2 cb0 cb1 cb2 fb0 fb1 fb2 cn
  have ca0 := row_c (i := 0) (u := .int .i64 (A 0)) (K9.out.bl 2 rfl) rfl
  have ca1 := row_c (i := 1) (u := .int .i64 (A 1)) (K9.out.bl 2 rfl) rfl
  have ca2 := row_c (i := 2) (u := .int .i64 (A 2)) (K9.out.bl 2 rfl) rfl
  have cb0 := row_c (i := 0) (u := .int .i64 rg4) (K9.out.bl 0 rfl) rfl
  have fb0 := frozen_of_row x9 g5 0 _ _ (K9.out.bl 0 rfl)
  have cb1 := row_c (i := 1) (u := .int .i64 rg6) (K9.out.bl 0 rfl) rfl
  have fb1 := frozen_of_row x9 g5 1 _ _ (K9.out.bl 0 rfl)
  have cb2 := row_c (i := 2) (u := .int .i64 rg8) (K9.out.bl 0 rfl) rfl
  have fb2 := frozen_of_row x9 g5 2 _ _ (K9.out.bl 0 rfl)
  have cn := HNN.out 9 _ _ K9.out
  go_upto_region 17 with (go_at_call 35; (with_reducible refine (HEN.out _ _ K9.out).mono ?_); rintro e z1 ⟨rfl, hb⟩; have Z1 := hid hb; clear hb; clear ca0 ca1 ca2 cb0 cb1 cb2 fb0 fb1 fb2 cn)
  go_wp2_with (first
    | (refine step_load_row rfl 34 _ rfl g5 34 (#[.int .i64 rg4, .int .i64 rg6, .int .i64 rg8]) _ rfl (Z1.out.bl 0 rfl) Tryd.underlying34 rfl (by kernel_rfl) ?_)
    | (refine step_store_row rfl 34 _ _ rfl (w.heap.size + 1) 34 _ (#[.int .i64 rg4, .int .i64 rg6, .int .i64 rg8]) rfl rfl (Z1.out.bl 1 rfl) (by kernel_rfl) rfl (by kernel_rfl) ?_))
  have Z2 := hid (Z1.out.swap.row (#[.int .i64 rg4, .int .i64 rg6, .int .i64 rg8]))
  exact bodyPost_ret (results_cell_row (by rfl) _ _ (w.heap.size + 1) 34 (#[.int .i64 rg4, .int .i64 rg6, .int .i64 rg8]) (0, 0) _ rfl (Z2.out.bl 0 rfl) Tryd.underlying34 rfl (by kernel_rfl)) rfl ⟨rfl, Z2.out.drop.drop.drop⟩
set_option maxHeartbeats 12800000 in
theorem dsimple3 {lg : LoG} {F0 : Nat → Prop} {w0 w : World} {b k : Nat} {S : Ms} (A : Nat → Int) (h : Od lg F0 w0 w b S []) (hq : Bq k S) (hk : k + 20 ≤ 100000) (hn : S.n = 3) (hA : Wb A) :
    Calls Tryd.prog 11 #[.pointer (some ⟨b, 0, none⟩), .agg (wdV A)] w fun e w' => e = .returned (.agg (wdV (frR S true A))) ∧ Od lg F0 w0 w' b (frS S true A) [] := by
  have hB := hq.begins 2
  have hwf : ∀ j, j < 6 → ∀ r, Wb r → opwf (opG3 A j r) := fun j _ r hr => opG3_wf hA hr j
  have hSB : ∀ j, j ≤ 6 → Bq (k + j) (sqS (S.beginS 2) (opG3 A) j) ∧ Wb (sqR (S.beginS 2) (opG3 A) j) := fun j hj => sq_bq hB (fun i hi => hwf i (by omega)) (by omega)
  have HBG : Hid (∀ (bs : List (Nat × Obj)) (w' : World), Od lg F0 w0 w' b S bs → Calls Tryd.prog 32 #[.pointer (some ⟨b, 0, none⟩), .int .i64 2] w' fun e w2 => e = .returned (.tuple #[]) ∧ Od lg F0 w0 w2 b (sqS (S.beginS 2) (opG3 A) 0) bs) := hid (fun bs w' h' => h'.begins 2 hq (by omega))
  have HD0 : Hid (∀ (bs : List (Nat × Obj)) (w' : World), Od lg F0 w0 w' b (sqS (S.beginS 2) (opG3 A) 0) bs → Calls Tryd.prog 33 #[.pointer (some ⟨b, 0, none⟩), .agg (opCs ⟨1, -1, -1, -1, -1, 0⟩), .int .u64 0] w' fun e w2 => e = .returned (.int .i64 (sqr (S.beginS 2) (opG3 A) 0)) ∧ Od lg F0 w0 w2 b (sqS (S.beginS 2) (opG3 A) 1) bs) := hid (fun bs w' h' => by
    have e : sqO (S.beginS 2) (opG3 A) 0 = ⟨1, -1, -1, -1, -1, 0⟩ := by
      unfold sqO
      generalize sqR (S.beginS 2) (opG3 A) 0 = r
      rfl
    skip
    have h2 := h'.do0 (sqO (S.beginS 2) (opG3 A) 0) (hSB 0 (by omega)).1 (by omega) (hwf 0 (by omega) _ (hSB 0 (by omega)).2)
    rw [← e, show sqS (S.beginS 2) (opG3 A) 1 = (sqS (S.beginS 2) (opG3 A) 0).doS (sqO (S.beginS 2) (opG3 A) 0) 0 from sqS_next _ _ _]
    unfold sqr
    exact h2)
  have HD1 : Hid (∀ (bs : List (Nat × Obj)) (w' : World), Od lg F0 w0 w' b (sqS (S.beginS 2) (opG3 A) 1) bs → Calls Tryd.prog 33 #[.pointer (some ⟨b, 0, none⟩), .agg (opCs ⟨1, -1, -1, -1, -1, 0⟩), .int .u64 0] w' fun e w2 => e = .returned (.int .i64 (sqr (S.beginS 2) (opG3 A) 1)) ∧ Od lg F0 w0 w2 b (sqS (S.beginS 2) (opG3 A) 2) bs) := hid (fun bs w' h' => by
    have e : sqO (S.beginS 2) (opG3 A) 1 = ⟨1, -1, -1, -1, -1, 0⟩ := by
      unfold sqO
      generalize sqR (S.beginS 2) (opG3 A) 1 = r
      rfl
    skip
    have h2 := h'.do0 (sqO (S.beginS 2) (opG3 A) 1) (hSB 1 (by omega)).1 (by omega) (hwf 1 (by omega) _ (hSB 1 (by omega)).2)
    rw [← e, show sqS (S.beginS 2) (opG3 A) 2 = (sqS (S.beginS 2) (opG3 A) 1).doS (sqO (S.beginS 2) (opG3 A) 1) 0 from sqS_next _ _ _]
    unfold sqr
    exact h2)
  have HD2 : Hid (∀ (bs : List (Nat × Obj)) (w' : World), Od lg F0 w0 w' b (sqS (S.beginS 2) (opG3 A) 2) bs → Calls Tryd.prog 33 #[.pointer (some ⟨b, 0, none⟩), .agg (opCs ⟨5, 0, (A 0), sqr (S.beginS 2) (opG3 A) (0), -1, 0⟩), .int .u64 0] w' fun e w2 => e = .returned (.int .i64 (sqr (S.beginS 2) (opG3 A) 2)) ∧ Od lg F0 w0 w2 b (sqS (S.beginS 2) (opG3 A) 3) bs) := hid (fun bs w' h' => by
    have e : sqO (S.beginS 2) (opG3 A) 2 = ⟨5, 0, (A 0), sqR (S.beginS 2) (opG3 A) 2 0, -1, 0⟩ := by
      unfold sqO
      generalize sqR (S.beginS 2) (opG3 A) 2 = r
      rfl
    rw [sqR_at _ _ (by omega : 0 < 2)] at e
    have h2 := h'.do0 (sqO (S.beginS 2) (opG3 A) 2) (hSB 2 (by omega)).1 (by omega) (hwf 2 (by omega) _ (hSB 2 (by omega)).2)
    rw [← e, show sqS (S.beginS 2) (opG3 A) 3 = (sqS (S.beginS 2) (opG3 A) 2).doS (sqO (S.beginS 2) (opG3 A) 2) 0 from sqS_next _ _ _]
    unfold sqr
    exact h2)
  have HD3 : Hid (∀ (bs : List (Nat × Obj)) (w' : World), Od lg F0 w0 w' b (sqS (S.beginS 2) (opG3 A) 3) bs → Calls Tryd.prog 33 #[.pointer (some ⟨b, 0, none⟩), .agg (opCs ⟨5, 0, sqr (S.beginS 2) (opG3 A) (2), sqr (S.beginS 2) (opG3 A) (1), -1, 0⟩), .int .u64 0] w' fun e w2 => e = .returned (.int .i64 (sqr (S.beginS 2) (opG3 A) 3)) ∧ Od lg F0 w0 w2 b (sqS (S.beginS 2) (opG3 A) 4) bs) := hid (fun bs w' h' => by
    have e : sqO (S.beginS 2) (opG3 A) 3 = ⟨5, 0, sqR (S.beginS 2) (opG3 A) 3 2, sqR (S.beginS 2) (opG3 A) 3 1, -1, 0⟩ := by
      unfold sqO
      generalize sqR (S.beginS 2) (opG3 A) 3 = r
      rfl
    rw [sqR_at _ _ (by omega : 2 < 3), sqR_at _ _ (by omega : 1 < 3)] at e
    have h2 := h'.do0 (sqO (S.beginS 2) (opG3 A) 3) (hSB 3 (by omega)).1 (by omega) (hwf 3 (by omega) _ (hSB 3 (by omega)).2)
    rw [← e, show sqS (S.beginS 2) (opG3 A) 4 = (sqS (S.beginS 2) (opG3 A) 3).doS (sqO (S.beginS 2) (opG3 A) 3) 0 from sqS_next _ _ _]
    unfold sqr
    exact h2)
  have HD4 : Hid (∀ (bs : List (Nat × Obj)) (w' : World), Od lg F0 w0 w' b (sqS (S.beginS 2) (opG3 A) 4) bs → Calls Tryd.prog 33 #[.pointer (some ⟨b, 0, none⟩), .agg (opCs ⟨5, 1, (A 1), sqr (S.beginS 2) (opG3 A) (0), -1, 0⟩), .int .u64 0] w' fun e w2 => e = .returned (.int .i64 (sqr (S.beginS 2) (opG3 A) 4)) ∧ Od lg F0 w0 w2 b (sqS (S.beginS 2) (opG3 A) 5) bs) := hid (fun bs w' h' => by
    have e : sqO (S.beginS 2) (opG3 A) 4 = ⟨5, 1, (A 1), sqR (S.beginS 2) (opG3 A) 4 0, -1, 0⟩ := by
      unfold sqO
      generalize sqR (S.beginS 2) (opG3 A) 4 = r
      rfl
    rw [sqR_at _ _ (by omega : 0 < 4)] at e
    have h2 := h'.do0 (sqO (S.beginS 2) (opG3 A) 4) (hSB 4 (by omega)).1 (by omega) (hwf 4 (by omega) _ (hSB 4 (by omega)).2)
    rw [← e, show sqS (S.beginS 2) (opG3 A) 5 = (sqS (S.beginS 2) (opG3 A) 4).doS (sqO (S.beginS 2) (opG3 A) 4) 0 from sqS_next _ _ _]
    unfold sqr
    exact h2)
  have HD5 : Hid (∀ (bs : List (Nat × Obj)) (w' : World), Od lg F0 w0 w' b (sqS (S.beginS 2) (opG3 A) 5) bs → Calls Tryd.prog 33 #[.pointer (some ⟨b, 0, none⟩), .agg (opCs ⟨5, 2, (A 2), sqr (S.beginS 2) (opG3 A) (1), -1, 0⟩), .int .u64 0] w' fun e w2 => e = .returned (.int .i64 (sqr (S.beginS 2) (opG3 A) 5)) ∧ Od lg F0 w0 w2 b (sqS (S.beginS 2) (opG3 A) 6) bs) := hid (fun bs w' h' => by
    have e : sqO (S.beginS 2) (opG3 A) 5 = ⟨5, 2, (A 2), sqR (S.beginS 2) (opG3 A) 5 1, -1, 0⟩ := by
      unfold sqO
      generalize sqR (S.beginS 2) (opG3 A) 5 = r
      rfl
    rw [sqR_at _ _ (by omega : 1 < 5)] at e
    have h2 := h'.do0 (sqO (S.beginS 2) (opG3 A) 5) (hSB 5 (by omega)).1 (by omega) (hwf 5 (by omega) _ (hSB 5 (by omega)).2)
    rw [← e, show sqS (S.beginS 2) (opG3 A) 6 = (sqS (S.beginS 2) (opG3 A) 5).doS (sqO (S.beginS 2) (opG3 A) 5) 0 from sqS_next _ _ _]
    unfold sqr
    exact h2)
  have HEN : Hid (∀ (bs : List (Nat × Obj)) (w' : World), Od lg F0 w0 w' b (sqS (S.beginS 2) (opG3 A) 6) bs → Calls Tryd.prog 35 #[.pointer (some ⟨b, 0, none⟩)] w' fun e w2 => e = .returned (.tuple #[]) ∧ Od lg F0 w0 w2 b (frS S true A) bs) := hid (fun bs w' h' => by
    rw [show frS S true A = (sqS (S.beginS 2) (opG3 A) 6).endS from by unfold frS frO frM blkS; rw [if_pos hn, if_pos hn, if_pos rfl, if_pos rfl]]
    exact h'.ends (hSB 6 (by omega)).1 (by omega))
  have HNN : Hid (∀ (j : Nat) (bs : List (Nat × Obj)) (w' : World), Od lg F0 w0 w' b (sqS (S.beginS 2) (opG3 A) j) bs → w'.cell? ⟨b, 0, none⟩ = some (.int .i64 3)) := hid (fun j bs w' h' => by have := h'.n; rw [sqS_n, hn] at this; exact this)
  have HN0 : Hid (∀ (bs : List (Nat × Obj)) (w' : World), Od lg F0 w0 w' b S bs → w'.cell? ⟨b, 0, none⟩ = some (.int .i64 3)) := hid (fun bs w' h' => by have := h'.n; rw [hn] at this; exact this)
  have HR : Hid (frR S true A = reg3 (sqr (S.beginS 2) (opG3 A) 3) (sqr (S.beginS 2) (opG3 A) 4) (sqr (S.beginS 2) (opG3 A) 5)) := hid (by unfold frR; rw [if_pos hn, if_pos rfl])
  obtain ⟨w1, hw1⟩ : ∃ w1, (w.alloc (.cells (wdV A) 34)).alloc (.cells #[.int .i64 0, .int .i64 0, .int .i64 0] 34) = w1 := ⟨_, rfl⟩
  have H1 : Hid (Od lg F0 w0 w1 b S [(w.heap.size + 1, Obj.cells #[.int .i64 0, .int .i64 0, .int .i64 0] 34 (0, 0)), (w.heap.size, Obj.cells (wdV A) 34 (0, 0))]) := hid (by
    have := (h.new (wdV A) 34).new #[.int .i64 0, .int .i64 0, .int .i64 0] 34
    rw [hw1] at this
    simp only [sz_al] at this
    exact this)
  have HW := hid hw1
  clear h hq hk hn hA hB hwf hSB hw1
  rw [HR.out]
  clear HR
  generalize frS S true A = S3 at *
  generalize sqr (S.beginS 2) (opG3 A) 0 = rg0 at *
  generalize sqr (S.beginS 2) (opG3 A) 1 = rg1 at *
  generalize sqr (S.beginS 2) (opG3 A) 2 = rg2 at *
  generalize sqr (S.beginS 2) (opG3 A) 3 = rg3 at *
  generalize sqr (S.beginS 2) (opG3 A) 4 = rg4 at *
  generalize sqr (S.beginS 2) (opG3 A) 5 = rg5 at *
  generalize S.beginS 2 = S2 at *
  go_enter Tryd.func11, Tryd.ntmps11
  go_upto_region 1 with fail
  rw [HW.out]
  have cn := HN0.out _ _ H1.out
  go_upto_region 3 with fail
  clear cn
  go_upto_region 4 with (go_at_call 31; (with_reducible refine (none_any _).mono ?_); rintro e w2 ⟨rfl, hb⟩; have H2 := hid (H1.out.self hb); clear hb)
  have H3 := hid (H2.out.new (wdV none3) 34)
  obtain ⟨g5, hg5⟩ : ∃ g5, w2.heap.size = g5 := ⟨_, rfl⟩
  rw [hg5] at H3
  have H4 : Hid (Od lg F0 w0 (w2.alloc (.cells #[.int .i64 (none3 0), .int .i64 (none3 1), .int .i64 (none3 2)] 34)) b S [(g5, .cells #[.int .i64 (-1), .int .i64 (-1), .int .i64 (-1)] 34 (0, 0)), (w.heap.size + 1, Obj.cells #[.int .i64 0, .int .i64 0, .int .i64 0] 34 (0, 0)), (w.heap.size, Obj.cells (wdV A) 34 (0, 0))]) := H3
  generalize w2.alloc (.cells #[.int .i64 (none3 0), .int .i64 (none3 1), .int .i64 (none3 2)] 34) = w4 at *
  rw [hg5]
  clear hg5 H3 H2 H1
  go_upto_region 5 with (go_at_call 32; (with_reducible refine (HBG.out _ _ H4.out).mono ?_); rintro e v0 ⟨rfl, hb⟩; have G0 := hid hb; clear hb)
  have ca0 := row_c (i := 0) (u := .int .i64 (A 0)) (G0.out.bl 2 rfl) rfl
  have ca1 := row_c (i := 1) (u := .int .i64 (A 1)) (G0.out.bl 2 rfl) rfl
  have ca2 := row_c (i := 2) (u := .int .i64 (A 2)) (G0.out.bl 2 rfl) rfl
  have cb0 := row_c (i := 0) (u := .int .i64 (-1)) (G0.out.bl 0 rfl) rfl
  have fb0 := frozen_of_row v0 g5 0 _ _ (G0.out.bl 0 rfl)
  have cb1 := row_c (i := 1) (u := .int .i64 (-1)) (G0.out.bl 0 rfl) rfl
  have fb1 := frozen_of_row v0 g5 1 _ _ (G0.out.bl 0 rfl)
  have cb2 := row_c (i := 2) (u := .int .i64 (-1)) (G0.out.bl 0 rfl) rfl
  have fb2 := frozen_of_row v0 g5 2 _ _ (G0.out.bl 0 rfl)
  have cn := HNN.out 0 _ _ G0.out
  go_upto_region 6 with (first
    | (go_at_call 34; (with_reducible refine (dop0_any 1 (-1) (-1) (-1) _).mono ?_); rintro e y0 ⟨rfl, hb⟩; have Y0 := hid (G0.out.self hb); clear hb)
    | (go_at_call 33; (with_reducible refine (HD0.out _ _ Y0.out).mono ?_); rintro e v1 ⟨rfl, hb⟩; have G1 := hid hb; clear hb; clear ca0 ca1 ca2 cb0 cb1 cb2 fb0 fb1 fb2 cn; have ca0 := row_c (i := 0) (u := .int .i64 (A 0)) (G1.out.bl 2 rfl) rfl; have ca1 := row_c (i := 1) (u := .int .i64 (A 1)) (G1.out.bl 2 rfl) rfl; have ca2 := row_c (i := 2) (u := .int .i64 (A 2)) (G1.out.bl 2 rfl) rfl; have cb0 := row_c (i := 0) (u := .int .i64 (-1)) (G1.out.bl 0 rfl) rfl; have fb0 := frozen_of_row v1 g5 0 _ _ (G1.out.bl 0 rfl); have cb1 := row_c (i := 1) (u := .int .i64 (-1)) (G1.out.bl 0 rfl) rfl; have fb1 := frozen_of_row v1 g5 1 _ _ (G1.out.bl 0 rfl); have cb2 := row_c (i := 2) (u := .int .i64 (-1)) (G1.out.bl 0 rfl) rfl; have fb2 := frozen_of_row v1 g5 2 _ _ (G1.out.bl 0 rfl); have cn := HNN.out 1 _ _ G1.out))
  go_upto_region 7 with (first
    | (go_at_call 34; (with_reducible refine (dop0_any 1 (-1) (-1) (-1) _).mono ?_); rintro e y1 ⟨rfl, hb⟩; have Y1 := hid (G1.out.self hb); clear hb)
    | (go_at_call 33; (with_reducible refine (HD1.out _ _ Y1.out).mono ?_); rintro e v2 ⟨rfl, hb⟩; have G2 := hid hb; clear hb; clear ca0 ca1 ca2 cb0 cb1 cb2 fb0 fb1 fb2 cn; have ca0 := row_c (i := 0) (u := .int .i64 (A 0)) (G2.out.bl 2 rfl) rfl; have ca1 := row_c (i := 1) (u := .int .i64 (A 1)) (G2.out.bl 2 rfl) rfl; have ca2 := row_c (i := 2) (u := .int .i64 (A 2)) (G2.out.bl 2 rfl) rfl; have cb0 := row_c (i := 0) (u := .int .i64 (-1)) (G2.out.bl 0 rfl) rfl; have fb0 := frozen_of_row v2 g5 0 _ _ (G2.out.bl 0 rfl); have cb1 := row_c (i := 1) (u := .int .i64 (-1)) (G2.out.bl 0 rfl) rfl; have fb1 := frozen_of_row v2 g5 1 _ _ (G2.out.bl 0 rfl); have cb2 := row_c (i := 2) (u := .int .i64 (-1)) (G2.out.bl 0 rfl) rfl; have fb2 := frozen_of_row v2 g5 2 _ _ (G2.out.bl 0 rfl); have cn := HNN.out 2 _ _ G2.out))
  go_upto_region 8 with (first
    | (go_at_call 34; (with_reducible refine (dop0_any 5 0 (A 0) rg0 _).mono ?_); rintro e y2 ⟨rfl, hb⟩; have Y2 := hid (G2.out.self hb); clear hb)
    | (go_at_call 33; (with_reducible refine (HD2.out _ _ Y2.out).mono ?_); rintro e v3 ⟨rfl, hb⟩; have G3 := hid hb; clear hb; clear ca0 ca1 ca2 cb0 cb1 cb2 fb0 fb1 fb2 cn; have ca0 := row_c (i := 0) (u := .int .i64 (A 0)) (G3.out.bl 2 rfl) rfl; have ca1 := row_c (i := 1) (u := .int .i64 (A 1)) (G3.out.bl 2 rfl) rfl; have ca2 := row_c (i := 2) (u := .int .i64 (A 2)) (G3.out.bl 2 rfl) rfl; have cb0 := row_c (i := 0) (u := .int .i64 (-1)) (G3.out.bl 0 rfl) rfl; have fb0 := frozen_of_row v3 g5 0 _ _ (G3.out.bl 0 rfl); have cb1 := row_c (i := 1) (u := .int .i64 (-1)) (G3.out.bl 0 rfl) rfl; have fb1 := frozen_of_row v3 g5 1 _ _ (G3.out.bl 0 rfl); have cb2 := row_c (i := 2) (u := .int .i64 (-1)) (G3.out.bl 0 rfl) rfl; have fb2 := frozen_of_row v3 g5 2 _ _ (G3.out.bl 0 rfl); have cn := HNN.out 3 _ _ G3.out))
  go_upto_region 9 with (first
    | (go_at_call 34; (with_reducible refine (dop0_any 5 0 rg2 rg1 _).mono ?_); rintro e y3 ⟨rfl, hb⟩; have Y3 := hid (G3.out.self hb); clear hb)
    | (go_at_call 33; (with_reducible refine (HD3.out _ _ Y3.out).mono ?_); rintro e v4 ⟨rfl, hb⟩; have G4 := hid hb; clear hb; clear ca0 ca1 ca2 cb0 cb1 cb2 fb0 fb1 fb2 cn; have ca0 := row_c (i := 0) (u := .int .i64 (A 0)) (G4.out.bl 2 rfl) rfl; have ca1 := row_c (i := 1) (u := .int .i64 (A 1)) (G4.out.bl 2 rfl) rfl; have ca2 := row_c (i := 2) (u := .int .i64 (A 2)) (G4.out.bl 2 rfl) rfl; have cb0 := row_c (i := 0) (u := .int .i64 (-1)) (G4.out.bl 0 rfl) rfl; have fb0 := frozen_of_row v4 g5 0 _ _ (G4.out.bl 0 rfl); have cb1 := row_c (i := 1) (u := .int .i64 (-1)) (G4.out.bl 0 rfl) rfl; have fb1 := frozen_of_row v4 g5 1 _ _ (G4.out.bl 0 rfl); have cb2 := row_c (i := 2) (u := .int .i64 (-1)) (G4.out.bl 0 rfl) rfl; have fb2 := frozen_of_row v4 g5 2 _ _ (G4.out.bl 0 rfl); have cn := HNN.out 4 _ _ G4.out))
  have K4 : Hid (Od lg F0 w0 (v4.setCell ⟨g5, 0, none⟩ (.int .i64 rg3)) b (sqS S2 (opG3 A) 4) [(g5, .cells #[.int .i64 rg3, .int .i64 (-1), .int .i64 (-1)] 34 (0, 0)), (w.heap.size + 1, Obj.cells #[.int .i64 0, .int .i64 0, .int .i64 0] 34 (0, 0)), (w.heap.size, Obj.cells (wdV A) 34 (0, 0))]) := hid (G4.out.cell 0 (.int .i64 rg3))
  generalize v4.setCell ⟨g5, 0, none⟩ (.int .i64 rg3) = x4 at *
  clear ca0 ca1 ca2 cb0 cb1 cb2 fb0 fb1 fb2 cn
  have ca0 := row_c (i := 0) (u := .int .i64 (A 0)) (K4.out.bl 2 rfl) rfl
  have ca1 := row_c (i := 1) (u := .int .i64 (A 1)) (K4.out.bl 2 rfl) rfl
  have ca2 := row_c (i := 2) (u := .int .i64 (A 2)) (K4.out.bl 2 rfl) rfl
  have cb0 := row_c (i := 0) (u := .int .i64 rg3) (K4.out.bl 0 rfl) rfl
  have fb0 := frozen_of_row x4 g5 0 _ _ (K4.out.bl 0 rfl)
  have cb1 := row_c (i := 1) (u := .int .i64 (-1)) (K4.out.bl 0 rfl) rfl
  have fb1 := frozen_of_row x4 g5 1 _ _ (K4.out.bl 0 rfl)
  have cb2 := row_c (i := 2) (u := .int .i64 (-1)) (K4.out.bl 0 rfl) rfl
  have fb2 := frozen_of_row x4 g5 2 _ _ (K4.out.bl 0 rfl)
  have cn := HNN.out 4 _ _ K4.out
  go_upto_region 10 with (first
    | (go_at_call 34; (with_reducible refine (dop0_any 5 1 (A 1) rg0 _).mono ?_); rintro e y4 ⟨rfl, hb⟩; have Y4 := hid (K4.out.self hb); clear hb)
    | (go_at_call 33; (with_reducible refine (HD4.out _ _ Y4.out).mono ?_); rintro e v5 ⟨rfl, hb⟩; have G5 := hid hb; clear hb; clear ca0 ca1 ca2 cb0 cb1 cb2 fb0 fb1 fb2 cn; have ca0 := row_c (i := 0) (u := .int .i64 (A 0)) (G5.out.bl 2 rfl) rfl; have ca1 := row_c (i := 1) (u := .int .i64 (A 1)) (G5.out.bl 2 rfl) rfl; have ca2 := row_c (i := 2) (u := .int .i64 (A 2)) (G5.out.bl 2 rfl) rfl; have cb0 := row_c (i := 0) (u := .int .i64 rg3) (G5.out.bl 0 rfl) rfl; have fb0 := frozen_of_row v5 g5 0 _ _ (G5.out.bl 0 rfl); have cb1 := row_c (i := 1) (u := .int .i64 (-1)) (G5.out.bl 0 rfl) rfl; have fb1 := frozen_of_row v5 g5 1 _ _ (G5.out.bl 0 rfl); have cb2 := row_c (i := 2) (u := .int .i64 (-1)) (G5.out.bl 0 rfl) rfl; have fb2 := frozen_of_row v5 g5 2 _ _ (G5.out.bl 0 rfl); have cn := HNN.out 5 _ _ G5.out))
  have K5 : Hid (Od lg F0 w0 (v5.setCell ⟨g5, 1, none⟩ (.int .i64 rg4)) b (sqS S2 (opG3 A) 5) [(g5, .cells #[.int .i64 rg3, .int .i64 rg4, .int .i64 (-1)] 34 (0, 0)), (w.heap.size + 1, Obj.cells #[.int .i64 0, .int .i64 0, .int .i64 0] 34 (0, 0)), (w.heap.size, Obj.cells (wdV A) 34 (0, 0))]) := hid (G5.out.cell 1 (.int .i64 rg4))
  generalize v5.setCell ⟨g5, 1, none⟩ (.int .i64 rg4) = x5 at *
  clear ca0 ca1 ca2 cb0 cb1 cb2 fb0 fb1 fb2 cn
  have ca0 := row_c (i := 0) (u := .int .i64 (A 0)) (K5.out.bl 2 rfl) rfl
  have ca1 := row_c (i := 1) (u := .int .i64 (A 1)) (K5.out.bl 2 rfl) rfl
  have ca2 := row_c (i := 2) (u := .int .i64 (A 2)) (K5.out.bl 2 rfl) rfl
  have cb0 := row_c (i := 0) (u := .int .i64 rg3) (K5.out.bl 0 rfl) rfl
  have fb0 := frozen_of_row x5 g5 0 _ _ (K5.out.bl 0 rfl)
  have cb1 := row_c (i := 1) (u := .int .i64 rg4) (K5.out.bl 0 rfl) rfl
  have fb1 := frozen_of_row x5 g5 1 _ _ (K5.out.bl 0 rfl)
  have cb2 := row_c (i := 2) (u := .int .i64 (-1)) (K5.out.bl 0 rfl) rfl
  have fb2 := frozen_of_row x5 g5 2 _ _ (K5.out.bl 0 rfl)
  have cn := HNN.out 5 _ _ K5.out
  go_upto_region 11 with (first
    | (go_at_call 34; (with_reducible refine (dop0_any 5 2 (A 2) rg1 _).mono ?_); rintro e y5 ⟨rfl, hb⟩; have Y5 := hid (K5.out.self hb); clear hb)
    | (go_at_call 33; (with_reducible refine (HD5.out _ _ Y5.out).mono ?_); rintro e v6 ⟨rfl, hb⟩; have G6 := hid hb; clear hb; clear ca0 ca1 ca2 cb0 cb1 cb2 fb0 fb1 fb2 cn; have ca0 := row_c (i := 0) (u := .int .i64 (A 0)) (G6.out.bl 2 rfl) rfl; have ca1 := row_c (i := 1) (u := .int .i64 (A 1)) (G6.out.bl 2 rfl) rfl; have ca2 := row_c (i := 2) (u := .int .i64 (A 2)) (G6.out.bl 2 rfl) rfl; have cb0 := row_c (i := 0) (u := .int .i64 rg3) (G6.out.bl 0 rfl) rfl; have fb0 := frozen_of_row v6 g5 0 _ _ (G6.out.bl 0 rfl); have cb1 := row_c (i := 1) (u := .int .i64 rg4) (G6.out.bl 0 rfl) rfl; have fb1 := frozen_of_row v6 g5 1 _ _ (G6.out.bl 0 rfl); have cb2 := row_c (i := 2) (u := .int .i64 (-1)) (G6.out.bl 0 rfl) rfl; have fb2 := frozen_of_row v6 g5 2 _ _ (G6.out.bl 0 rfl); have cn := HNN.out 6 _ _ G6.out))
  have K6 : Hid (Od lg F0 w0 (v6.setCell ⟨g5, 2, none⟩ (.int .i64 rg5)) b (sqS S2 (opG3 A) 6) [(g5, .cells #[.int .i64 rg3, .int .i64 rg4, .int .i64 rg5] 34 (0, 0)), (w.heap.size + 1, Obj.cells #[.int .i64 0, .int .i64 0, .int .i64 0] 34 (0, 0)), (w.heap.size, Obj.cells (wdV A) 34 (0, 0))]) := hid (G6.out.cell 2 (.int .i64 rg5))
  generalize v6.setCell ⟨g5, 2, none⟩ (.int .i64 rg5) = x6 at *
  clear ca0 ca1 ca2 cb0 cb1 cb2 fb0 fb1 fb2 cn
  have ca0 := row_c (i := 0) (u := .int .i64 (A 0)) (K6.out.bl 2 rfl) rfl
  have ca1 := row_c (i := 1) (u := .int .i64 (A 1)) (K6.out.bl 2 rfl) rfl
  have ca2 := row_c (i := 2) (u := .int .i64 (A 2)) (K6.out.bl 2 rfl) rfl
  have cb0 := row_c (i := 0) (u := .int .i64 rg3) (K6.out.bl 0 rfl) rfl
  have fb0 := frozen_of_row x6 g5 0 _ _ (K6.out.bl 0 rfl)
  have cb1 := row_c (i := 1) (u := .int .i64 rg4) (K6.out.bl 0 rfl) rfl
  have fb1 := frozen_of_row x6 g5 1 _ _ (K6.out.bl 0 rfl)
  have cb2 := row_c (i := 2) (u := .int .i64 rg5) (K6.out.bl 0 rfl) rfl
  have fb2 := frozen_of_row x6 g5 2 _ _ (K6.out.bl 0 rfl)
  have cn := HNN.out 6 _ _ K6.out
  go_upto_region 12 with (go_at_call 35; (with_reducible refine (HEN.out _ _ K6.out).mono ?_); rintro e z1 ⟨rfl, hb⟩; have Z1 := hid hb; clear hb; clear ca0 ca1 ca2 cb0 cb1 cb2 fb0 fb1 fb2 cn)
  go_wp2_with (first
    | (refine step_load_row rfl 34 _ rfl g5 34 (#[.int .i64 rg3, .int .i64 rg4, .int .i64 rg5]) _ rfl (Z1.out.bl 0 rfl) Tryd.underlying34 rfl (by kernel_rfl) ?_)
    | (refine step_store_row rfl 34 _ _ rfl (w.heap.size + 1) 34 _ (#[.int .i64 rg3, .int .i64 rg4, .int .i64 rg5]) rfl rfl (Z1.out.bl 1 rfl) (by kernel_rfl) rfl (by kernel_rfl) ?_))
  have Z2 := hid (Z1.out.swap.row (#[.int .i64 rg3, .int .i64 rg4, .int .i64 rg5]))
  exact bodyPost_ret (results_cell_row (by rfl) _ _ (w.heap.size + 1) 34 (#[.int .i64 rg3, .int .i64 rg4, .int .i64 rg5]) (0, 0) _ rfl (Z2.out.bl 0 rfl) Tryd.underlying34 rfl (by kernel_rfl)) rfl ⟨rfl, Z2.out.drop.drop.drop⟩
set_option maxHeartbeats 3200000 in
theorem dsimple2 {lg : LoG} {F0 : Nat → Prop} {w0 w : World} {b k : Nat} {S : Ms} (A : Nat → Int) (h : Od lg F0 w0 w b S []) (hq : Bq k S) (hk : k + 20 ≤ 100000) (hn : S.n = 2) (hA : Wb A) :
    Calls Tryd.prog 11 #[.pointer (some ⟨b, 0, none⟩), .agg (wdV A)] w fun e w' => e = .returned (.agg (wdV (frR S true A))) ∧ Od lg F0 w0 w' b (frS S true A) [] := by
  have e1 : frS S true A = frS S false A := by unfold frS frO frM; rw [if_neg (by omega), if_neg (by omega), if_neg (by omega), if_neg (by omega)]
  have e2 : frR S true A = frR S false A := by unfold frR; rw [if_neg (by omega), if_neg (by omega)]
  rw [e1, e2]
  obtain ⟨w1, hw1⟩ : ∃ w1, (w.alloc (.cells (wdV A) 34)).alloc (.cells #[.int .i64 0, .int .i64 0, .int .i64 0] 34) = w1 := ⟨_, rfl⟩
  have H1 : Hid (Od lg F0 w0 w1 b S [(w.heap.size + 1, Obj.cells #[.int .i64 0, .int .i64 0, .int .i64 0] 34 (0, 0)), (w.heap.size, Obj.cells (wdV A) 34 (0, 0))]) := hid (by
    have := (h.new (wdV A) 34).new #[.int .i64 0, .int .i64 0, .int .i64 0] 34
    rw [hw1] at this
    simp only [sz_al] at this
    exact this)
  have HF := hid (H1.out.liftN (fun lg' F' w' h' => dfull2 (lg := lg') (F0 := F') (w0 := w') A h' hq hk hn hA))
  have cn := H1.out.n
  rw [hn] at cn
  have HW := hid hw1
  clear h hq hk hn hA hw1 e1 e2
  generalize frR S false A = R at *
  generalize frS S false A = S1 at *
  go_enter Tryd.func11, Tryd.ntmps11
  go_upto_region 1 with fail
  rw [HW.out]
  go_wp2_with (first
    | (refine step_load_row rfl 34 _ rfl w.heap.size 34 (wdV A) _ rfl (H1.out.bl 1 rfl) Tryd.underlying34 rfl (by kernel_rfl) ?_)
    | (go_at_call 13; (with_reducible refine HF.out.mono ?_); rintro e w2 ⟨rfl, hb⟩; have H2 := hid hb; clear hb cn)
    | (refine step_store_row rfl 34 _ _ rfl (w.heap.size + 1) 34 _ (wdV R) rfl rfl (H2.out.bl 0 rfl) (by kernel_rfl) rfl (by kernel_rfl) ?_))
  have H3 := hid (H2.out.row (wdV R))
  exact bodyPost_ret (results_cell_row (by rfl) _ _ (w.heap.size + 1) 34 (wdV R) (0, 0) _ rfl (H3.out.bl 0 rfl) Tryd.underlying34 rfl (by kernel_rfl)) rfl ⟨rfl, H3.out.drop.drop⟩
theorem dfull_any {lg : LoG} {F0 : Nat → Prop} {w0 w : World} {b k : Nat} {S : Ms} (A : Nat → Int) (h : Od lg F0 w0 w b S []) (hq : Bq k S) (hk : k + 20 ≤ 100000) (hn : S.n = 2 ∨ S.n = 3) (hA : Wb A) :
    Calls Tryd.prog 13 #[.pointer (some ⟨b, 0, none⟩), .agg (wdV A)] w fun e w' => e = .returned (.agg (wdV (frR S false A))) ∧ Od lg F0 w0 w' b (frS S false A) [] := hn.elim (fun e => dfull2 A h hq hk e hA) (fun e => dfull3 A h hq hk e hA)
theorem dsimple_any {lg : LoG} {F0 : Nat → Prop} {w0 w : World} {b k : Nat} {S : Ms} (A : Nat → Int) (h : Od lg F0 w0 w b S []) (hq : Bq k S) (hk : k + 20 ≤ 100000) (hn : S.n = 2 ∨ S.n = 3) (hA : Wb A) :
    Calls Tryd.prog 11 #[.pointer (some ⟨b, 0, none⟩), .agg (wdV A)] w fun e w' => e = .returned (.agg (wdV (frR S true A))) ∧ Od lg F0 w0 w' b (frS S true A) [] := hn.elim (fun e => dsimple2 A h hq hk e hA) (fun e => dsimple3 A h hq hk e hA)
end Go.Proofs.YtinihebnajaejaaDoor
