import Derived.Test.YtmggmjilgjogfaaProg
import Derived.Test.YtmggmjilgjogfaaSbe
import Derived.Deep.RegionHeld3
namespace Go.Proofs.Ytmggmjilgjogfaa
open Go.RowKit

/-- Four matrices in a row. -/
def four (f0 f1 f2 f3 : Nat → Nat) : Nat → Nat := fun i => if i < 8 then f0 i else if i < 16 then f1 (i - 8) else if i < 24 then f2 (i - 16) else f3 (i - 24)
theorem built26 (f0 f1 f2 f3 : Nat → Nat) : Try.prog.built 26 [(0, .agg (ba 8 f0)), (1, .agg (ba 8 f1)), (2, .agg (ba 8 f2)), (3, .agg (ba 8 f3))] = some (ba 32 (four f0 f1 f2 f3)) := by
  kernel_rfl
theorem info26 : (Try.prog.info? 26).map (·.size) = some 32 := by kernel_rfl

theorem yields_build4 {ops : Array Oper} {S : World → Prop} {o : Oper} {a : Act} (hw : Region.wanted o (yielded ops a.tmps) = true) (x0 x1 x2 x3 : Operand) (ho : o.op = .build 26 #[(0, x0), (1, x1), (2, x2), (3, x3)])
    (f0 f1 f2 f3 : Nat → Nat) (h0 : a.eval x0 = .agg (ba 8 f0)) (h1 : a.eval x1 = .agg (ba 8 f1)) (h2 : a.eval x2 = .agg (ba 8 f2)) (h3 : a.eval x3 = .agg (ba 8 f3)) : YieldsIf Try.prog ops S o (.agg (ba 32 (four f0 f1 f2 f3))) a :=
  .inl ⟨hw, fun w _ => by
    unfold execOp
    have e : ((#[(0, x0), (1, x1), (2, x2), (3, x3)] : Array (Nat × Operand)).map fun (i, x) => (i, a.eval x)).toList = [(0, .agg (ba 8 f0)), (1, .agg (ba 8 f1)), (2, .agg (ba 8 f2)), (3, .agg (ba 8 f3))] := by simp [h0, h1, h2, h3]
    have hb := run_build (P := Try.prog) w 26 ((#[(0, x0), (1, x1), (2, x2), (3, x3)] : Array (Nat × Operand)).map fun (i, x) => (i, a.eval x)) _ (by rw [e]; exact built26 f0 f1 f2 f3)
    simp only [ho, Sem.run_bind, hb, Result.andThen_ok, Sem.run_pure]⟩

abbrev z32 : Array Value := #[.int .u8 0, .int .u8 0, .int .u8 0, .int .u8 0, .int .u8 0, .int .u8 0, .int .u8 0, .int .u8 0, .int .u8 0, .int .u8 0, .int .u8 0, .int .u8 0, .int .u8 0, .int .u8 0, .int .u8 0, .int .u8 0, .int .u8 0, .int .u8 0, .int .u8 0, .int .u8 0, .int .u8 0, .int .u8 0, .int .u8 0, .int .u8 0, .int .u8 0, .int .u8 0, .int .u8 0, .int .u8 0, .int .u8 0, .int .u8 0, .int .u8 0, .int .u8 0]
theorem ret_ba4 {fn : Func} {q : Tmp} {R : Ending → World → Prop} {a : Act} {w : World} {b : Nat} {t : TypeId} {f : Nat → Nat} (h : fn.results = #[.cell q 26])
    (hp : a.tmps.getD q undef = .pointer (some ⟨b, 0, none⟩)) (hd : a.defers = [])
    (hA : At w b 32 t f) (k : R (.returned (.agg (ba 32 f))) w) : bodyPost Try.prog fn R .ret a w :=
  bodyPost_ret (results_cell_row h a.tmps w b t _ (0, 0) _ hp hA Try.underlying26 rfl (by rw [ba_size]; exact info26)) hd k

/-- Ways at work: the box and its field, the result's block a, the two matrices' blocks. -/
structure WP (b C a c : Nat) (x y : Nat → Nat) (w wr : World) : Prop where
  low : Only C w wr
  box : BAt wr b 0 0 0 zt zt (some ⟨C, 0, none⟩)
  fld : FAt wr C 1 0 0 x y
  res : At wr a 32 26 (fun _ => 0)
  fst : M wr c x
  snd : M wr (c + 1) y
theorem WP.on {b C a c : Nat} {x y : Nat → Nat} {w wr w1 : World} (h : WP b C a c x y w wr) (hb : Below wr.heap.size wr w1) : WP b C a c x y w w1 :=
  ⟨h.low.trans (Only.of_below hb), h.box.self hb, h.fld.self hb, h.res.self hb, h.fst.self hb, h.snd.self hb⟩
theorem WP.drew {b C a c : Nat} {x y : Nat → Nat} {w wr : World} (h : WP b C a c x y w wr) : WP b C a c x y w wr.drew := ⟨h.low.drew, h.box, h.fld, h.res, h.fst, h.snd⟩
theorem WP.cells {b C a c : Nat} {x y : Nat → Nat} {w wr : World} (h : WP b C a c x y w wr) : Cells wr c x ∧ Cells wr (c + 1) y := ⟨h.fst.cells, h.snd.cells⟩
theorem WP.start {b C a : Nat} {x y : Nat → Nat} {w wr : World} (l : Only C w wr) (hb : BAt wr b 0 0 0 zt zt (some ⟨C, 0, none⟩)) (hf : FAt wr C 1 0 0 x y) (hr : At wr a 32 26 (fun _ => 0)) :
    WP b C a wr.heap.size x y w (two8 wr x y) :=
  ⟨only_row (only_row (l.trans (Only.of_below (((Below.refl _ _).alloc (Nat.le_refl _) _).alloc (by simp) _))) l.size _) (Nat.le_succ_of_le l.size) _,
    ((((hb.alloc _).alloc _).row (Nat.ne_of_lt hb.lt) _).row (by have := hb.lt; omega) _),
    ((((hf.alloc _).alloc _).row (Nat.ne_of_lt hf.lt) _).row (by have := hf.lt; omega) _),
    hr.far2 x y, (two_at wr x y).1, (two_at wr x y).2⟩

set_option maxRecDepth 100000 in
set_option maxHeartbeats 6400000 in
theorem ways_first (b C : Nat) (w : World) (hbC : b ≠ C) (hB : BAt w b 0 0 0 zt zt (some ⟨C, 0, none⟩)) (hF : FAt w C 0 0 0 zt zt) :
    Calls Try.prog 5 #[.pointer (some ⟨b, 0, none⟩)] w fun e w' => e = .returned (.agg (ba 32 (four inM (mu bend (inv inM)) (mu inM (inv bend)) (inv inM)))) ∧
      BAt w' b 0 0 0 zt zt (some ⟨C, 0, none⟩) ∧ Only C w w' := by
  have HB0 := hid hB
  have HA0 : Hid (At (w.alloc (.cells z32 26)) w.heap.size 32 26 (fun _ => 0)) := hid (At.new w 32 26 (fun _ => 0))
  have HL0 : Hid (Only C w (w.alloc (.cells z32 26))) := hid (Only.of_below ((Below.refl _ _).alloc (Nat.le_refl _) _))
  have HBA : Hid (BAt (w.alloc (.cells z32 26)) b 0 0 0 zt zt (some ⟨C, 0, none⟩)) := hid (hB.alloc (.cells (ba 32 (fun _ => 0)) 26))
  have hcp := hB.cp
  have HI1 : Hid (Calls Try.prog 12 #[.pointer (some ⟨C, 0, none⟩)] (w.alloc (.cells z32 26)) fun e w' => e = .returned (.agg (ba 8 inM)) ∧ FAt w' C 1 0 0 inM (inv inM) ∧ Only C (w.alloc (.cells z32 26)) w') := hid (in_first C 0 zt zt _ (hF.alloc (.cells (ba 32 (fun _ => 0)) 26)))
  have HO2 := hid (fun w => out_done C 0 inM (inv inM) w)
  have hlt := hB.lt
  have hltC := hF.lt
  clear hB hF
  have BE := hid bend_any
  have MB := hid (fun w => mmul_any bend (inv inM) w bend_by (inv_by _))
  have UB := hid unbend_any
  have MU := hid (fun w => mmul_any inM (inv bend) w inM_by (inv_by _))
  generalize mu bend (inv inM) = p at *
  generalize mu inM (inv bend) = q at *
  generalize inv inM = y at *
  generalize inv bend = u at *
  generalize inM = x at *
  generalize bend = f at *
  go_enter Try.func5, Try.ntmps5
  go_wp2_with (first
    | (go_at_call 12; (with_reducible refine HI1.out.mono ?_); rintro e w1 ⟨rfl, hf, ho⟩; have HF1 := hid hf; have HL1 := hid (HL0.out.trans ho); have HB1 := hid (HBA.out.only ho hbC); have HA1 : Hid (At w1 w.heap.size 32 26 (fun _ => 0)) := hid ((ho.block _ HA0.out.lt (by omega)).trans HA0.out); clear hf ho)
    | (go_at_call 13; (with_reducible refine (HO2.out w1 HF1.out).mono ?_); rintro e w2 ⟨rfl, hf, ho⟩; have HP := hid (WP.start (x := x) (y := y) (HL1.out.trans (Only.of_below ho)) (HB1.out.self ho) hf (HA1.out.self ho)); have HAC := hid (HA1.out.self ho).lt; clear hf ho)
    | (refine step_store_ba rfl 25 _ _ rfl w2.heap.size 8 25 (fun _ => 0) x rfl rfl ((At.new w2 8 25 (fun _ => 0)).alloc _) info23 ?_)
    | (refine step_store_ba rfl 25 _ _ rfl (w2.heap.size + 1) 8 25 (fun _ => 0) y rfl rfl (second_at w2 x) info23 ?_))
  have HP0 := hid HP.out.drew
  have hal : w.heap.size < w2.heap.size := HAC.out
  refine wp_region_noPanic ?_
  refine wp_region_held_drew (S := fun w' => M w' w2.heap.size x ∧ M w' (w2.heap.size + 1) y) (by kernel_rfl) ⟨HP0.out.fst, HP0.out.snd⟩ (fun h0 => ?_)
  refine wpAnyH_take (i := 0) rfl (by kernel_rfl) (by kernel_rfl) (by kernel_rfl) (fun _ _ _ h => h) (yields_load_ba (by rfl) 25 _ rfl w2.heap.size 8 25 5 x rfl (fun w h => h.1) Try.underlying25 info23) h0 ?_
  try simp only [Act.put, List.getElem_toArray, List.getElem_cons_zero, List.getElem_cons_succ, List.setIfInBounds_toArray, List.set_cons_zero, List.set_cons_succ]
  refine wpAnyH_take (i := 2) rfl (by kernel_rfl) (by kernel_rfl) (by kernel_rfl) (fun _ _ _ h => h) (yields_load_ba (by rfl) 25 _ rfl (w2.heap.size + 1) 8 25 5 y rfl (fun w h => h.2) Try.underlying25 info23) h0 ?_
  try simp only [Act.put, List.getElem_toArray, List.getElem_cons_zero, List.getElem_cons_succ, List.setIfInBounds_toArray, List.set_cons_zero, List.set_cons_succ]
  refine wpAnyH_take (i := 4) rfl (by kernel_rfl) (by kernel_rfl) (by kernel_rfl) (fun _ _ _ h => h) (yields_load_ba (by rfl) 25 _ rfl w2.heap.size 8 25 5 x rfl (fun w h => h.1) Try.underlying25 info23) h0 ?_
  try simp only [Act.put, List.getElem_toArray, List.getElem_cons_zero, List.getElem_cons_succ, List.setIfInBounds_toArray, List.set_cons_zero, List.set_cons_succ]
  refine wpAnyH_take (i := 7) rfl (by kernel_rfl) (by kernel_rfl) (by kernel_rfl) (fun _ _ _ h => h) (yields_load_ba (by rfl) 25 _ rfl (w2.heap.size + 1) 8 25 5 y rfl (fun w h => h.2) Try.underlying25 info23) h0 ?_
  try simp only [Act.put, List.getElem_toArray, List.getElem_cons_zero, List.getElem_cons_succ, List.setIfInBounds_toArray, List.set_cons_zero, List.set_cons_succ]
  refine wpAnyH_ready (rs := [1]) (by kernel_rfl) (by simp) (AllReadyH.cons rfl (fun K hK => ?_) AllReadyH.nil)
  go_simp
  go_at_call 15
  (with_reducible refine (BE.out _).mono ?_); rintro e w3 ⟨rfl, hlow⟩
  have HP1 := hid (HP0.out.on hlow)
  refine hK.out _ _ ⟨HP1.out.fst, HP1.out.snd⟩ (fun h1 => ?_)
  clear hK K hlow
  try simp only [Act.put, List.getElem_toArray, List.getElem_cons_zero, List.getElem_cons_succ, List.setIfInBounds_toArray, List.set_cons_zero, List.set_cons_succ]
  refine wpAnyH_ready (rs := [3]) (by kernel_rfl) (by simp) (AllReadyH.cons rfl (fun K hK => ?_) AllReadyH.nil)
  go_simp
  go_at_call 14
  (with_reducible refine (MB.out _).mono ?_); rintro e w4 ⟨rfl, hlow⟩
  have HP2 := hid (HP1.out.on hlow)
  refine hK.out _ _ ⟨HP2.out.fst, HP2.out.snd⟩ (fun h2 => ?_)
  clear hK K hlow
  try simp only [Act.put, List.getElem_toArray, List.getElem_cons_zero, List.getElem_cons_succ, List.setIfInBounds_toArray, List.set_cons_zero, List.set_cons_succ]
  refine wpAnyH_ready (rs := [5]) (by kernel_rfl) (by simp) (AllReadyH.cons rfl (fun K hK => ?_) AllReadyH.nil)
  go_simp
  go_at_call 16
  (with_reducible refine (UB.out _).mono ?_); rintro e w5 ⟨rfl, hlow⟩
  have HP3 := hid (HP2.out.on hlow)
  refine hK.out _ _ ⟨HP3.out.fst, HP3.out.snd⟩ (fun h3 => ?_)
  clear hK K hlow
  try simp only [Act.put, List.getElem_toArray, List.getElem_cons_zero, List.getElem_cons_succ, List.setIfInBounds_toArray, List.set_cons_zero, List.set_cons_succ]
  refine wpAnyH_ready (rs := [6]) (by kernel_rfl) (by simp) (AllReadyH.cons rfl (fun K hK => ?_) AllReadyH.nil)
  go_simp
  go_at_call 14
  (with_reducible refine (MU.out _).mono ?_); rintro e w6 ⟨rfl, hlow⟩
  have HP4 := hid (HP3.out.on hlow)
  refine hK.out _ _ ⟨HP4.out.fst, HP4.out.snd⟩ (fun h4 => ?_)
  clear hK K hlow
  try simp only [Act.put, List.getElem_toArray, List.getElem_cons_zero, List.getElem_cons_succ, List.setIfInBounds_toArray, List.set_cons_zero, List.set_cons_succ]
  refine wpAnyH_take (i := 8) rfl (by kernel_rfl) (by kernel_rfl) (by kernel_rfl) (fun _ _ _ h => h) (yields_build4 (by rfl) _ _ _ _ rfl x p q y rfl rfl rfl rfl) h4 ?_
  try simp only [Act.put, List.getElem_toArray, List.getElem_cons_zero, List.getElem_cons_succ, List.setIfInBounds_toArray, List.set_cons_zero, List.set_cons_succ]
  refine wpAnyH_ready (rs := [9]) (by kernel_rfl) (by simp) (AllReadyH.cons rfl (fun K hK => ?_) AllReadyH.nil)
  rw [if_pos (by rfl)]
  refine wp_store_row 26 _ _ rfl w.heap.size (ba 32 (four x p q y)) rfl rfl 26 _ HP4.out.res (by rw [ba_size]; exact info26) rfl (ba_one 32 _) ?_
  refine hK.out _ _ ⟨h4.1.rowApart (by omega) _, h4.2.rowApart (by omega) _⟩ (fun h5 => ?_)
  clear hK K
  refine wpAnyH_done (by kernel_rfl) ?_ _
  refine NoPanic.normal ?_
  clear h0 h1 h2 h3 h4 h5
  try simp only [Act.put, List.getElem_toArray, List.getElem_cons_zero, List.getElem_cons_succ, List.setIfInBounds_toArray, List.set_cons_zero, List.set_cons_succ]
  go_wp2
  exact ret_ba4 rfl rfl rfl (HP4.out.res.row (four x p q y)) ⟨rfl, HP4.out.box.row (by omega) _, only_row HP4.out.low (Nat.le_refl _) _⟩
end Go.Proofs.Ytmggmjilgjogfaa
