import Derived.Test.YtflfnaiklnbaiaaTmf
/- Times: TimesTells over any machine, three shares. -/
namespace Go.Proofs.Ytflfnaiklnbaiaa
open Go.RowKit Go.Deep
set_option maxRecDepth 100000
set_option maxHeartbeats 25600000 in
theorem ttells3_core {Pm : World → Nat → Ms → (Nat → Prop) → Prop} (hM : Mach Pm) (hN : MachN Pm) {V : World → (Nat → Prop) → Prop} (hT : TmI Pm V) (K : Int) (hK : I64 K) (x y : Nat → Nat) (hx : ∀ i, x i < 2 ^ 64) (hy : ∀ i, y i < 2 ^ 64) (mv : Value) (tw : Nat → Nat) (TN : Nat) (W : World)
    (hR : RdS .u64 W (fun g => g < W.heap.size) mv (wdL tw TN)) (htw : ∀ i, i < TN → tw i < 2 ^ 64) (hTN : TN ≤ 17592186043904)
    (hV : ∀ (w' : World) (F : Nat → Prop), Below W.heap.size W w' → (∀ k, F k → W.heap.size ≤ k) → V w' F) :
    Calls Try.prog 3 #[.agg (asC true K x y mv)] W fun e w' => e = .returned (.bool true) ∧ Below W.heap.size W w' := by
  obtain ⟨ma, mc, rfl, hm0⟩ := id hR
  have hlen := wdL_len tw TN
  have HBG : Hid (∀ wx : World, Below W.heap.size W wx → Calls Try.prog 6 #[.int .i64 3, .slice ma TN mc, .int .i64 60] wx fun e w' => ∃ p b, e = .returned (.tuple #[.agg (paC p b (.slice none 0 0) (.slice none 0 0)), .bool true]) ∧ Bz Pm wx.heap.size (fun _ => False) wx w' p b (tx0 3 tw TN) (tx0 3 tw TN)) := hid (fun wx hb => by
    have := lbegins_any hM hN ((3 : Nat) : Int) 60 (by decide) (by decide) (by decide) tw TN _ wx ((hR.below hb).imp (T := fun g => g < wx.heap.size) (fun g h _ => Nat.lt_of_lt_of_le h hb.size))
    rw [hlen] at this
    exact this)
  rw [hlen]
  have HV := hid hV
  have HFN : Hid (∀ w, Calls Try.prog 5 #[.agg (asC true K x y (.slice ma TN mc))] w fun e w' => e = .returned (.int .i64 3) ∧ Below w.heap.size w w') := hid (fun w => fn_any true K x y _ w)
  have HDA := hid (fun w => hT.draws 3 w (i64c 3 (by decide) (by decide)))
  have HDB := hid (fun w => tdraws_any 3 w)
  have HDC := hid (fun w => hT.draws K w hK)
  have HDD := hid (fun w => tdraws_any K w)
  have HOA := hid (fun w => hT.ops K 3 w hK (i64c 3 (by decide) (by decide)))
  have HOB := hid (fun w => tops_any K 3 w)
  have HOC := hid (fun w => hT.ops 1 K w (i64c 1 (by decide) (by decide)) hK)
  have HOD := hid (fun w => tops_any 1 K w)
  have HO1 : Hid (∀ w, Calls Try.prog 10 #[.int .i64 1, .int .i64 3] w fun e w' => e = .returned (.int .i64 24) ∧ w' = w) := hid (fun w => tops_any 1 3 w)
  have HTX : Hid (∀ w : World, Calls Try.prog 20 #[.int .i64 3, .agg (w3 x)] w fun e w' => e = .returned (.int .u64 (tot x 3 : Nat)) ∧ Below w.heap.size w w') := hid (fun w => ftot_any 3 (by decide) x hx w)
  have HTY : Hid (∀ w : World, Calls Try.prog 20 #[.int .i64 3, .agg (w3 y)] w fun e w' => e = .returned (.int .u64 (tot y 3 : Nat)) ∧ Below w.heap.size w w') := hid (fun w => ftot_any 3 (by decide) y hy w)
  have HAN : Hid (bits .and .u64 ((tot x 3 : Nat) : Int) ((tot y 3 : Nat) : Int) = ((tot x 3 &&& tot y 3 : Nat) : Int)) := hid (wn64 (tot_lt hx 3) (tot_lt hy 3))
  have HAW := hid (fun (w : World) (h : Below W.heap.size W w) => tawake2_any hM hN hT w (fun w' F hb hF => HV.out w' F (h.trans (hb.mono h.size)) (fun j hj => Nat.le_trans h.size (hF j hj))))
  have HB0 := hid (tx0_bq (n := 3) (by decide) htw hTN)
  have HB1 := hid (tx1_bq (n := 3) (x := x) (by decide) htw hTN hx)
  have HB2 := hid (tx2_bq (n := 3) (x := x) (y := y) (by decide) htw hTN hx hy)
  have HDQ := hid (txD_bq (n := 3) (x := x) (y := y) (by decide) htw hTN hx hy)
  have HOW := hid (fun i => txO_wf (n := 3) (x := x) (y := y) (by decide) hx hy i)
  have HDS : Hid (∀ i, txD 3 tw TN x y (i + 1) = (txD 3 tw TN x y i).doS (txO 3 x y i) 0) := hid (fun i => rfl)
  have HOC2 : Hid (∀ i, txO 3 x y i = ⟨3, ((i % 3 : Nat) : Int), -1, -1, -1, if i < 3 then x (i % 3) else y (i % 3)⟩) := hid (fun i => rfl)
  have HDE := hid (txD_all (n := 3) (tw := tw) (TN := TN) (x := x) (y := y) (by decide))
  have HD0 : Hid (txD 3 tw TN x y 0 = tx0 3 tw TN) := hid rfl
  have HN2 := hid (tx2_n (n := 3) (tw := tw) (TN := TN) (x := x) (y := y))
  have HY2 := hid (tx2_dry (n := 3) (tw := tw) (TN := TN) (x := x) (y := y))
  have HLQ := hid (fun (X' : Nat → Prop) (W' w : World) (p b : Nat) (hz : Bz Pm (w.heap.size) X' W' w p b (tx0 3 tw TN) (tx0 3 tw TN)) => qlaid hM x hx hz HB0.out (by decide) (nn := 3) (by decide))
  have HQ1 := hid (fun (lo : Nat) (X' : Nat → Prop) (W' w : World) (p b : Nat) (hz : Bz Pm lo X' W' w p b (tx0 3 tw TN) (tx0 3 tw TN)) => qlaid hM x hx hz HB0.out (by decide) (nn := 3) (by decide))
  have HQ2 := hid (fun (lo : Nat) (X' : Nat → Prop) (W' w : World) (p b : Nat) (hz : Bz Pm lo X' W' w p b (tx1 3 tw TN x) (tx0 3 tw TN)) => qlaid hM y hy hz HB1.out.1 (by decide) (nn := 3) (by decide))
  have HOK := hid (tx_ok3 tw TN x y (isDom K))
  have HKI := hid hK
  clear HLQ
  have H1 := hid ((Bx.start W).new (asC true K x y (.slice ma TN mc)) 26)
  obtain ⟨w1, hw1⟩ : ∃ w1, W.alloc (.cells (asC true K x y (.slice ma TN mc)) 26) = w1 := ⟨_, rfl⟩
  rw [hw1] at H1
  have HW := hid hw1
  clear hw1 hx hy hV hR htw hTN hm0 hlen hK
  obtain ⟨d1, hd1⟩ : ∃ d1, tmD 3 = d1 := ⟨_, rfl⟩
  obtain ⟨d2, hd2⟩ : ∃ d2, tmD K = d2 := ⟨_, rfl⟩
  obtain ⟨d3, hd3⟩ : ∃ d3, tmN K 3 = d3 := ⟨_, rfl⟩
  obtain ⟨d4, hd4⟩ : ∃ d4, tmN 1 K = d4 := ⟨_, rfl⟩
  rw [hd1] at HDA HDB
  rw [hd2] at HDC HDD
  rw [hd3] at HOA HOB
  rw [hd4] at HOC HOD
  clear hd1 hd2 hd3 hd4
  go_enter Try.func3, Try.ntmps3
  go_upto_region 1 with fail
  rw [HW.out]
  go_upto_region 2 with (first
    | (refine step_load_row rfl 26 _ rfl W.heap.size 26 (asC true K x y (.slice ma TN mc)) _ rfl (H1.out.bl 0 rfl) Try.underlying26 rfl (by kernel_rfl) ?_)
    | (go_at_call 5; (with_reducible refine (HFN.out _).mono ?_); rintro e wj ⟨rfl, hb⟩; have HJ := hid (H1.out.self hb); clear hb))
  have HWJ : Hid (Below W.heap.size W wj) := hid HJ.out.low
  have cm := row_c (i := 8) (u := .slice ma TN mc) (HJ.out.bl 0 rfl) rfl
  go_upto_region 3 with (go_at_call 6; (with_reducible refine (HBG.out _ HWJ.out).mono ?_); rintro e w2 ⟨p, b, rfl, hz⟩; have Z2 := hid hz; clear hz cm)
  have H3 := hid ((Gy.start Z2.out).new hM (paC p b (.slice none 0 0) (.slice none 0 0)) 32)
  obtain ⟨b4, hb1⟩ : ∃ b4, w2.heap.size = b4 := ⟨_, rfl⟩
  rw [hb1] at H3
  generalize w2.alloc (.cells #[.pointer (some ⟨p, 0, none⟩), .pointer (some ⟨b, 0, none⟩), .slice none 0 0, .slice none 0 0] 32) = w3' at *
  try rw [hb1]
  clear hb1 HBG HFN HW H1
  have G0 := hid (H3.out.self hM ((Below.refl _ w3').drew))
  refine wp_region_noPanic ?_
  refine wp_region_held_drew (S := fun w' => w'.heap[W.heap.size]? = some (.cells (asC true K x y (.slice ma TN mc)) 26 (0, 0))) (by kernel_rfl) ((HJ.out.self G0.out.z.low).bl 0 rfl) (fun h0 => ?_)
  generalize w3'.drew = y0 at *
  refine wpAnyH_take (i := 0) (v := .bool true) rfl (by kernel_rfl) (by kernel_rfl) (by kernel_rfl) (fun _ _ _ h => h) (.inl ⟨by rfl, fun w hw => by clear hw; go_simp⟩) h0 ?_
  try simp only [Act.put, lay_out]
  refine wpAnyH_take (i := 1) (v := .bool false) rfl (by kernel_rfl) (by kernel_rfl) (by kernel_rfl) (fun _ _ _ h => h) (.inl ⟨by rfl, fun w hw => by clear hw; go_simp⟩) h0 ?_
  try simp only [Act.put, lay_out]
  refine wpAnyH_take (i := 2) (v := .bool false) rfl (by kernel_rfl) (by kernel_rfl) (by kernel_rfl) (fun _ _ _ h => h) (.inl ⟨by rfl, fun w hw => by clear hw; go_simp⟩) h0 ?_
  try simp only [Act.put, lay_out]
  refine wpAnyH_take (i := 3) (v := .int .i64 3) rfl (by kernel_rfl) (by kernel_rfl) (by kernel_rfl) (fun _ _ _ h => h) (.inl ⟨by rfl, fun w hw => by clear hw; go_simp⟩) h0 ?_
  try simp only [Act.put, lay_out]
  refine wpAnyH_take (i := 5) (v := .int .i64 3) rfl (by kernel_rfl) (by kernel_rfl) (by kernel_rfl) (fun _ _ _ h => h) (.inl ⟨by rfl, fun w hw => by clear hw; go_simp⟩) h0 ?_
  try simp only [Act.put, lay_out]
  refine wpAnyH_ready (rs := [4]) (by kernel_rfl) (by simp) (AllReadyH.cons rfl (fun K hK => ?_) AllReadyH.nil)
  rw [if_pos (by rfl)]
  go_simp
  go_at_call 7
  (with_reducible refine (HDA.out _).mono ?_); rintro e y1 ⟨rfl, hb⟩
  have G1 := hid (G0.out.self hM hb)
  clear hb
  refine hK.out _ _ ((HJ.out.self G1.out.z.low).bl 0 rfl) (fun h1x => ?_)
  clear hK K
  try simp only [Act.put, lay_out]
  refine wpAnyH_ready (rs := [6]) (by kernel_rfl) (by simp) (AllReadyH.cons rfl (fun K hK => ?_) AllReadyH.nil)
  rw [if_pos (by rfl)]
  go_simp
  go_at_call 8
  (with_reducible refine (HDB.out _).mono ?_); rintro e y1x ⟨rfl, rfl⟩
  refine hK.out _ _ ((HJ.out.self G1.out.z.low).bl 0 rfl) (fun h2x => ?_)
  clear hK K
  try simp only [Act.put, lay_out]
  refine wpAnyH_take (i := 7) (v := .bool false) rfl (by kernel_rfl) (by kernel_rfl) (by kernel_rfl) (fun _ _ _ h => h) (.inl ⟨by rfl, fun w hw => by clear hw; go_simp⟩) h2x ?_
  try simp only [Act.put, lay_out]
  refine wpAnyH_take (i := 8) (v := .bool false) rfl (by kernel_rfl) (by kernel_rfl) (by kernel_rfl) (fun _ _ _ h => h) (.inl ⟨by rfl, fun w hw => by clear hw; go_simp⟩) h2x ?_
  try simp only [Act.put, lay_out]
  refine wpAnyH_take (i := 9) (v := .bool false) rfl (by kernel_rfl) (by kernel_rfl) (by kernel_rfl) (fun _ _ _ h => h) (.inl ⟨by rfl, fun w hw => by clear hw; go_simp⟩) h2x ?_
  try simp only [Act.put, lay_out]
  refine wpAnyH_take (i := 10) (v := .pointer (some ⟨W.heap.size, 1, none⟩)) rfl (by kernel_rfl) (by kernel_rfl) (by kernel_rfl) (fun _ _ _ h => h) (.inl ⟨by rfl, fun w hw => by clear hw; go_simp⟩) h2x ?_
  try simp only [Act.put, lay_out]
  refine wpAnyH_take (i := 11) (v := .int .i64 K) rfl (by kernel_rfl) (by kernel_rfl) (by kernel_rfl) (fun _ _ _ h => h) (.inl ⟨by rfl, fun w' hw => by have hc := row_c (i := 1) (u := .int .i64 K) hw rfl; clear hw; go_simp⟩) h2x ?_
  try simp only [Act.put, lay_out]
  refine wpAnyH_take (i := 13) (v := .pointer (some ⟨W.heap.size, 1, none⟩)) rfl (by kernel_rfl) (by kernel_rfl) (by kernel_rfl) (fun _ _ _ h => h) (.inl ⟨by rfl, fun w hw => by clear hw; go_simp⟩) h2x ?_
  try simp only [Act.put, lay_out]
  refine wpAnyH_take (i := 14) (v := .int .i64 K) rfl (by kernel_rfl) (by kernel_rfl) (by kernel_rfl) (fun _ _ _ h => h) (.inl ⟨by rfl, fun w' hw => by have hc := row_c (i := 1) (u := .int .i64 K) hw rfl; clear hw; go_simp⟩) h2x ?_
  try simp only [Act.put, lay_out]
  refine wpAnyH_ready (rs := [12]) (by kernel_rfl) (by simp) (AllReadyH.cons rfl (fun K hK => ?_) AllReadyH.nil)
  rw [if_pos (by rfl)]
  go_simp
  go_at_call 7
  (with_reducible refine (HDC.out _).mono ?_); rintro e y2 ⟨rfl, hb⟩
  have G2 := hid (G1.out.self hM hb)
  clear hb
  refine hK.out _ _ ((HJ.out.self G2.out.z.low).bl 0 rfl) (fun h3x => ?_)
  clear hK K
  try simp only [Act.put, lay_out]
  refine wpAnyH_ready (rs := [15]) (by kernel_rfl) (by simp) (AllReadyH.cons rfl (fun K hK => ?_) AllReadyH.nil)
  rw [if_pos (by rfl)]
  go_simp
  go_at_call 8
  (with_reducible refine (HDD.out _).mono ?_); rintro e y2x ⟨rfl, rfl⟩
  refine hK.out _ _ ((HJ.out.self G2.out.z.low).bl 0 rfl) (fun h4x => ?_)
  clear hK K
  try simp only [Act.put, lay_out]
  refine wpAnyH_take (i := 16) (v := .bool false) rfl (by kernel_rfl) (by kernel_rfl) (by kernel_rfl) (fun _ _ _ h => h) (.inl ⟨by rfl, fun w hw => by clear hw; go_simp⟩) h4x ?_
  try simp only [Act.put, lay_out]
  refine wpAnyH_take (i := 17) (v := .bool false) rfl (by kernel_rfl) (by kernel_rfl) (by kernel_rfl) (fun _ _ _ h => h) (.inl ⟨by rfl, fun w hw => by clear hw; go_simp⟩) h4x ?_
  try simp only [Act.put, lay_out]
  refine wpAnyH_take (i := 18) (v := .bool false) rfl (by kernel_rfl) (by kernel_rfl) (by kernel_rfl) (fun _ _ _ h => h) (.inl ⟨by rfl, fun w hw => by clear hw; go_simp⟩) h4x ?_
  try simp only [Act.put, lay_out]
  refine wpAnyH_take (i := 19) (v := .pointer (some ⟨W.heap.size, 1, none⟩)) rfl (by kernel_rfl) (by kernel_rfl) (by kernel_rfl) (fun _ _ _ h => h) (.inl ⟨by rfl, fun w hw => by clear hw; go_simp⟩) h4x ?_
  try simp only [Act.put, lay_out]
  refine wpAnyH_take (i := 20) (v := .int .i64 K) rfl (by kernel_rfl) (by kernel_rfl) (by kernel_rfl) (fun _ _ _ h => h) (.inl ⟨by rfl, fun w' hw => by have hc := row_c (i := 1) (u := .int .i64 K) hw rfl; clear hw; go_simp⟩) h4x ?_
  try simp only [Act.put, lay_out]
  refine wpAnyH_take (i := 21) (v := .int .i64 3) rfl (by kernel_rfl) (by kernel_rfl) (by kernel_rfl) (fun _ _ _ h => h) (.inl ⟨by rfl, fun w hw => by clear hw; go_simp⟩) h4x ?_
  try simp only [Act.put, lay_out]
  refine wpAnyH_take (i := 23) (v := .pointer (some ⟨W.heap.size, 1, none⟩)) rfl (by kernel_rfl) (by kernel_rfl) (by kernel_rfl) (fun _ _ _ h => h) (.inl ⟨by rfl, fun w hw => by clear hw; go_simp⟩) h4x ?_
  try simp only [Act.put, lay_out]
  refine wpAnyH_take (i := 24) (v := .int .i64 K) rfl (by kernel_rfl) (by kernel_rfl) (by kernel_rfl) (fun _ _ _ h => h) (.inl ⟨by rfl, fun w' hw => by have hc := row_c (i := 1) (u := .int .i64 K) hw rfl; clear hw; go_simp⟩) h4x ?_
  try simp only [Act.put, lay_out]
  refine wpAnyH_take (i := 25) (v := .int .i64 3) rfl (by kernel_rfl) (by kernel_rfl) (by kernel_rfl) (fun _ _ _ h => h) (.inl ⟨by rfl, fun w hw => by clear hw; go_simp⟩) h4x ?_
  try simp only [Act.put, lay_out]
  refine wpAnyH_ready (rs := [22]) (by kernel_rfl) (by simp) (AllReadyH.cons rfl (fun K hK => ?_) AllReadyH.nil)
  rw [if_pos (by rfl)]
  go_simp
  go_at_call 9
  (with_reducible refine (HOA.out _).mono ?_); rintro e y3 ⟨rfl, hb⟩
  have G3 := hid (G2.out.self hM hb)
  clear hb
  refine hK.out _ _ ((HJ.out.self G3.out.z.low).bl 0 rfl) (fun h5x => ?_)
  clear hK K
  try simp only [Act.put, lay_out]
  refine wpAnyH_ready (rs := [26]) (by kernel_rfl) (by simp) (AllReadyH.cons rfl (fun K hK => ?_) AllReadyH.nil)
  rw [if_pos (by rfl)]
  go_simp
  go_at_call 10
  (with_reducible refine (HOB.out _).mono ?_); rintro e y3x ⟨rfl, rfl⟩
  refine hK.out _ _ ((HJ.out.self G3.out.z.low).bl 0 rfl) (fun h6x => ?_)
  clear hK K
  try simp only [Act.put, lay_out]
  refine wpAnyH_take (i := 27) (v := .bool false) rfl (by kernel_rfl) (by kernel_rfl) (by kernel_rfl) (fun _ _ _ h => h) (.inl ⟨by rfl, fun w hw => by clear hw; go_simp⟩) h6x ?_
  try simp only [Act.put, lay_out]
  refine wpAnyH_take (i := 28) (v := .bool false) rfl (by kernel_rfl) (by kernel_rfl) (by kernel_rfl) (fun _ _ _ h => h) (.inl ⟨by rfl, fun w hw => by clear hw; go_simp⟩) h6x ?_
  try simp only [Act.put, lay_out]
  refine wpAnyH_take (i := 29) (v := .bool false) rfl (by kernel_rfl) (by kernel_rfl) (by kernel_rfl) (fun _ _ _ h => h) (.inl ⟨by rfl, fun w hw => by clear hw; go_simp⟩) h6x ?_
  try simp only [Act.put, lay_out]
  refine wpAnyH_take (i := 30) (v := .pointer (some ⟨W.heap.size, 1, none⟩)) rfl (by kernel_rfl) (by kernel_rfl) (by kernel_rfl) (fun _ _ _ h => h) (.inl ⟨by rfl, fun w hw => by clear hw; go_simp⟩) h6x ?_
  try simp only [Act.put, lay_out]
  refine wpAnyH_take (i := 31) (v := .int .i64 K) rfl (by kernel_rfl) (by kernel_rfl) (by kernel_rfl) (fun _ _ _ h => h) (.inl ⟨by rfl, fun w' hw => by have hc := row_c (i := 1) (u := .int .i64 K) hw rfl; clear hw; go_simp⟩) h6x ?_
  try simp only [Act.put, lay_out]
  refine wpAnyH_take (i := 33) (v := .pointer (some ⟨W.heap.size, 1, none⟩)) rfl (by kernel_rfl) (by kernel_rfl) (by kernel_rfl) (fun _ _ _ h => h) (.inl ⟨by rfl, fun w hw => by clear hw; go_simp⟩) h6x ?_
  try simp only [Act.put, lay_out]
  refine wpAnyH_take (i := 34) (v := .int .i64 K) rfl (by kernel_rfl) (by kernel_rfl) (by kernel_rfl) (fun _ _ _ h => h) (.inl ⟨by rfl, fun w' hw => by have hc := row_c (i := 1) (u := .int .i64 K) hw rfl; clear hw; go_simp⟩) h6x ?_
  try simp only [Act.put, lay_out]
  refine wpAnyH_ready (rs := [32]) (by kernel_rfl) (by simp) (AllReadyH.cons rfl (fun K hK => ?_) AllReadyH.nil)
  rw [if_pos (by rfl)]
  go_simp
  go_at_call 9
  (with_reducible refine (HOC.out _).mono ?_); rintro e y4 ⟨rfl, hb⟩
  have G4 := hid (G3.out.self hM hb)
  clear hb
  refine hK.out _ _ ((HJ.out.self G4.out.z.low).bl 0 rfl) (fun h7x => ?_)
  clear hK K
  try simp only [Act.put, lay_out]
  refine wpAnyH_ready (rs := [35]) (by kernel_rfl) (by simp) (AllReadyH.cons rfl (fun K hK => ?_) AllReadyH.nil)
  rw [if_pos (by rfl)]
  go_simp
  go_at_call 10
  (with_reducible refine (HOD.out _).mono ?_); rintro e y4x ⟨rfl, rfl⟩
  refine hK.out _ _ ((HJ.out.self G4.out.z.low).bl 0 rfl) (fun h8x => ?_)
  clear hK K
  try simp only [Act.put, lay_out]
  refine wpAnyH_take (i := 36) (v := .bool false) rfl (by kernel_rfl) (by kernel_rfl) (by kernel_rfl) (fun _ _ _ h => h) (.inl ⟨by rfl, fun w hw => by clear hw; go_simp⟩) h8x ?_
  try simp only [Act.put, lay_out]
  refine wpAnyH_take (i := 37) (v := .bool false) rfl (by kernel_rfl) (by kernel_rfl) (by kernel_rfl) (fun _ _ _ h => h) (.inl ⟨by rfl, fun w hw => by clear hw; go_simp⟩) h8x ?_
  try simp only [Act.put, lay_out]
  refine wpAnyH_done (by kernel_rfl) ?_ _
  refine NoPanic.normal ?_
  clear h0 h1x h2x h3x h4x h5x h6x h7x h8x
  try simp only [Act.put, lay_out]
  have H4 := G4
  clear H3 HDA HDB HDC HDD HOA HOB HOC HOD
  have HC1 := hid (fun (w : World) (bs : List (Nat × Obj)) (h : Gy Pm wj.heap.size (fun _ => False) wj w2 w p b (tx0 3 tw TN) (tx0 3 tw TN) bs) => h.lift (f := 11) (args := #[.pointer (some ⟨p, 0, none⟩), .int .i64 3, .agg (w3 x)]) (E := fun e => e = .returned (.agg (wdV (txA 3 tw TN x)))) (S1' := tx1 3 tw TN x) (fun X W' hz => HQ1.out _ X W' w p b hz))
  have HC2 := hid (fun (w : World) (bs : List (Nat × Obj)) (h : Gy Pm wj.heap.size (fun _ => False) wj w2 w p b (tx1 3 tw TN x) (tx0 3 tw TN) bs) => h.lift (f := 11) (args := #[.pointer (some ⟨p, 0, none⟩), .int .i64 3, .agg (w3 y)]) (E := fun e => e = .returned (.agg (wdV (txB 3 tw TN x y)))) (S1' := tx2 3 tw TN x y) (fun X W' hz => HQ2.out _ X W' w p b hz))
  have HCP := hid (fun (w : World) (bs : List (Nat × Obj)) (h : Gy Pm wj.heap.size (fun _ => False) wj w2 w p b (tx2 3 tw TN x y) (tx2 3 tw TN x y) bs) => h.lift (f := 14) (args := #[.pointer (some ⟨p, 0, none⟩), .int .i64 K, .agg (wdV (txA 3 tw TN x)), .agg (wdV (txB 3 tw TN x y))]) (fun X W' hz => qby hM hT K (txA 3 tw TN x) (txB 3 tw TN x y) hz (fun F hF => HV.out w F (HWJ.out.trans (h.z.low.mono HWJ.out.size)) (fun j hj => Nat.le_trans HWJ.out.size (hF j hj))) HB2.out.1 (by decide) (by rw [HN2.out]; decide) HKI.out HB1.out.2 HB2.out.2))
  have HCY := hid (fun (S' : Ms) (w : World) (bs : List (Nat × Obj)) (h : Gy Pm wj.heap.size (fun _ => False) wj w2 w p b S' (tx2 3 tw TN x y) bs) => h.lift (f := 15) (args := #[.pointer (some ⟨b, 0, none⟩), .int .i64 K, .agg (wdV (txA 3 tw TN x)), .agg (wdV (txB 3 tw TN x y))]) (fun X W' hz => yby hM K (txA 3 tw TN x) (txB 3 tw TN x y) hz HB2.out.1 (by decide) (by rw [HN2.out]; decide) HB1.out.2 HB2.out.2))
  have HB3 := hid (tmS_bq HB2.out.1 (by decide) (dom := isDom K) HB1.out.2 HB2.out.2)
  have HY3 : Hid ((tmS (tx2 3 tw TN x y) (isDom K) (txA 3 tw TN x) (txB 3 tw TN x y)).dry = false) := hid (by rw [(tmS_ext _ _ _ _).dry]; exact HY2.out)
  obtain ⟨R3, hR3⟩ : ∃ R3, tmR (tx2 3 tw TN x y) (isDom K) (txA 3 tw TN x) (txB 3 tw TN x y) = R3 := ⟨_, rfl⟩
  obtain ⟨S3, hS3⟩ : ∃ S3, tmS (tx2 3 tw TN x y) (isDom K) (txA 3 tw TN x) (txB 3 tw TN x y) = S3 := ⟨_, rfl⟩
  simp only [hR3, hS3] at HCP HCY HB3 HY3 HOK
  clear hR3 hS3 HQ1 HQ2
  obtain ⟨A0, hA0⟩ : ∃ A0, txA 3 tw TN x = A0 := ⟨_, rfl⟩
  obtain ⟨B0, hB0⟩ : ∃ B0, txB 3 tw TN x y = B0 := ⟨_, rfl⟩
  obtain ⟨S2, hS2⟩ : ∃ S2, tx2 3 tw TN x y = S2 := ⟨_, rfl⟩
  obtain ⟨S1, hS1⟩ : ∃ S1, tx1 3 tw TN x = S1 := ⟨_, rfl⟩
  obtain ⟨S0, hS0⟩ : ∃ S0, tx0 3 tw TN = S0 := ⟨_, rfl⟩
  obtain ⟨Dc, hDc⟩ : ∃ Dc, txD 3 tw TN x y = Dc := ⟨_, rfl⟩
  obtain ⟨Oc, hOc⟩ : ∃ Oc, txO 3 x y = Oc := ⟨_, rfl⟩
  simp only [hA0, hB0, hS2, hS1, hS0, hDc, hOc] at HC1 HC2 HCP HCY HB0 HB1 HB2 HDQ HDE HD0 HDS HOC2 HOW HN2 HY2 HOK H4 Z2
  clear hA0 hB0 hS2 hS1 hS0 hDc hOc
  go_upto_region 5 with fail
  go_cut [6, 7] from 60 to 71 (fun q6 q7 wx => ∃ b6 b7, q6 = .pointer (some ⟨b6, 0, none⟩) ∧ q7 = .pointer (some ⟨b7, 0, none⟩) ∧ Gy Pm wj.heap.size (fun _ => False) wj w2 wx p b S2 S0 [(b7, .cells (wdV B0) 39 (0, 0)), (b6, .cells (wdV A0) 39 (0, 0)), (b4, .cells (paC p b (.slice none 0 0) (.slice none 0 0)) 32 (0, 0))])
  case first =>
    have G0 := hid (H4.out.self hM ((Below.refl _ y4x).drew))
    refine wp_region_noPanic ?_
    refine wp_region_held_drew (S := fun w' => w'.heap[b4]? = some (.cells (paC p b (.slice none 0 0) (.slice none 0 0)) 32 (0, 0)) ∧ w'.heap[W.heap.size]? = some (.cells (asC true K x y (.slice ma TN mc)) 26 (0, 0))) (by kernel_rfl) (⟨G0.out.bl 0 rfl, (HJ.out.self G0.out.z.low).bl 0 rfl⟩) (fun h0 => ?_)
    generalize y4x.drew = q0 at *
    refine wpAnyH_take (i := 0) (v := .pointer (some ⟨b4, 0, none⟩)) rfl (by kernel_rfl) (by kernel_rfl) (by kernel_rfl) (fun _ _ _ h => h) (.inl ⟨by rfl, fun w hw => by clear hw; go_simp⟩) h0 ?_
    try simp only [Act.put, lay_out]
    refine wpAnyH_take (i := 1) (v := .pointer (some ⟨p, 0, none⟩)) rfl (by kernel_rfl) (by kernel_rfl) (by kernel_rfl) (fun _ _ _ h => h) (.inl ⟨by rfl, fun w' hw => by have hc := row_c (i := 0) (u := .pointer (some ⟨p, 0, none⟩)) hw.1 rfl; clear hw; go_simp⟩) h0 ?_
    try simp only [Act.put, lay_out]
    refine wpAnyH_take (i := 2) (v := .int .i64 3) rfl (by kernel_rfl) (by kernel_rfl) (by kernel_rfl) (fun _ _ _ h => h) (.inl ⟨by rfl, fun w hw => by clear hw; go_simp⟩) h0 ?_
    try simp only [Act.put, lay_out]
    refine wpAnyH_take (i := 3) (v := .pointer (some ⟨W.heap.size, 2, none⟩)) rfl (by kernel_rfl) (by kernel_rfl) (by kernel_rfl) (fun _ _ _ h => h) (.inl ⟨by rfl, fun w hw => by clear hw; go_simp⟩) h0 ?_
    try simp only [Act.put, lay_out]
    refine wpAnyH_take (i := 4) (v := .agg (w3 x)) rfl (by kernel_rfl) (by kernel_rfl) (by kernel_rfl) (fun _ _ _ h => h) (yields_load_w3 (by rfl) _ rfl W.heap.size 2 x rfl (fun w h => asC_x h.2)) h0 ?_
    try simp only [Act.put, lay_out]
    refine wpAnyH_take (i := 6) (v := .pointer (some ⟨b4, 0, none⟩)) rfl (by kernel_rfl) (by kernel_rfl) (by kernel_rfl) (fun _ _ _ h => h) (.inl ⟨by rfl, fun w hw => by clear hw; go_simp⟩) h0 ?_
    try simp only [Act.put, lay_out]
    refine wpAnyH_take (i := 7) (v := .pointer (some ⟨p, 0, none⟩)) rfl (by kernel_rfl) (by kernel_rfl) (by kernel_rfl) (fun _ _ _ h => h) (.inl ⟨by rfl, fun w' hw => by have hc := row_c (i := 0) (u := .pointer (some ⟨p, 0, none⟩)) hw.1 rfl; clear hw; go_simp⟩) h0 ?_
    try simp only [Act.put, lay_out]
    refine wpAnyH_take (i := 8) (v := .int .i64 3) rfl (by kernel_rfl) (by kernel_rfl) (by kernel_rfl) (fun _ _ _ h => h) (.inl ⟨by rfl, fun w hw => by clear hw; go_simp⟩) h0 ?_
    try simp only [Act.put, lay_out]
    refine wpAnyH_take (i := 9) (v := .pointer (some ⟨W.heap.size, 5, none⟩)) rfl (by kernel_rfl) (by kernel_rfl) (by kernel_rfl) (fun _ _ _ h => h) (.inl ⟨by rfl, fun w hw => by clear hw; go_simp⟩) h0 ?_
    try simp only [Act.put, lay_out]
    refine wpAnyH_take (i := 10) (v := .agg (w3 y)) rfl (by kernel_rfl) (by kernel_rfl) (by kernel_rfl) (fun _ _ _ h => h) (yields_load_w3 (by rfl) _ rfl W.heap.size 5 y rfl (fun w h => asC_y h.2)) h0 ?_
    try simp only [Act.put, lay_out]
    refine wpAnyH_ready (rs := [5, 12, 13]) (by kernel_rfl) (by simp) (AllReadyH.cons rfl (fun K hK => ?_) (AllReadyH.cons rfl (fun K hK => ?_) (AllReadyH.cons rfl (fun K hK => ?_) AllReadyH.nil)))
    · rw [if_pos (by rfl)]
      go_simp
      go_at_call 11
      (with_reducible refine (HC1.out _ _ G0.out).mono ?_); rintro e q1 ⟨rfl, hz⟩
      have G1 := hid hz
      clear hz
      refine hK.out _ _ (⟨G1.out.bl 0 rfl, (HJ.out.self G1.out.z.low).bl 0 rfl⟩) (fun h1x => ?_)
      clear hK K
      try simp only [Act.put, lay_out]
      refine wpAnyH_ready (rs := [11, 12, 13]) (by kernel_rfl) (by simp) (AllReadyH.cons rfl (fun K hK => ?_) (AllReadyH.cons rfl (fun K hK => ?_) (AllReadyH.cons rfl (fun K hK => ?_) AllReadyH.nil)))
      · rw [if_pos (by rfl)]
        go_simp
        go_at_call 11
        (with_reducible refine (HC2.out _ _ G1.out).mono ?_); rintro e q2 ⟨rfl, hz⟩
        have G2 := hid hz
        clear hz
        refine hK.out _ _ (⟨G2.out.bl 0 rfl, (HJ.out.self G2.out.z.low).bl 0 rfl⟩) (fun h2x => ?_)
        clear hK K
        try simp only [Act.put, lay_out]
        refine wpAnyH_ready (rs := [12, 13]) (by kernel_rfl) (by simp) (AllReadyH.cons rfl (fun K hK => ?_) (AllReadyH.cons rfl (fun K hK => ?_) AllReadyH.nil))
        · rw [if_pos (by rfl)]
          go_simp
          have G3 := hid (G2.out.new hM #[.int .i64 0, .int .i64 0, .int .i64 0] 39)
          refine hK.out _ _ (⟨G3.out.bl 1 rfl, (HJ.out.self G3.out.z.low).bl 0 rfl⟩) (fun h3x => ?_)
          clear hK K
          try simp only [Act.put, lay_out]
          generalize q2.alloc (.cells #[.int .i64 0, .int .i64 0, .int .i64 0] 39) = q3 at *
          refine wpAnyH_ready (rs := [13]) (by kernel_rfl) (by simp) (AllReadyH.cons rfl (fun K hK => ?_) AllReadyH.nil)
          rw [if_pos (by rfl)]
          go_simp
          have G4 := hid (G3.out.new hM #[.int .i64 0, .int .i64 0, .int .i64 0] 39)
          refine hK.out _ _ (⟨G4.out.bl 2 rfl, (HJ.out.self G4.out.z.low).bl 0 rfl⟩) (fun h4x => ?_)
          clear hK K
          try simp only [Act.put, lay_out]
          generalize q3.alloc (.cells #[.int .i64 0, .int .i64 0, .int .i64 0] 39) = q4 at *
          have G5 := hid G4.out.swap
          refine wpAnyH_ready (rs := [14]) (by kernel_rfl) (by simp) (AllReadyH.cons rfl (fun K hK => ?_) AllReadyH.nil)
          rw [if_pos (by rfl)]
          refine wp_store_row 39 _ _ rfl (q2.heap.size) (wdV A0) rfl rfl 39 _ (G5.out.bl 0 rfl) (by kernel_rfl) rfl (by kernel_rfl) ?_
          have G6 := hid (G5.out.row hM (wdV A0))
          refine hK.out _ _ (⟨G6.out.bl 2 rfl, (HJ.out.self G6.out.z.low).bl 0 rfl⟩) (fun h5x => ?_)
          clear hK K
          try simp only [Act.put, lay_out]
          have G7 := hid G6.out.swap
          refine wpAnyH_ready (rs := [15]) (by kernel_rfl) (by simp) (AllReadyH.cons rfl (fun K hK => ?_) AllReadyH.nil)
          rw [if_pos (by rfl)]
          refine wp_store_row 39 _ _ rfl (q3.heap.size) (wdV B0) rfl rfl 39 _ (G7.out.bl 0 rfl) (by kernel_rfl) rfl (by kernel_rfl) ?_
          have G8 := hid (G7.out.row hM (wdV B0))
          refine hK.out _ _ (⟨G8.out.bl 2 rfl, (HJ.out.self G8.out.z.low).bl 0 rfl⟩) (fun h6x => ?_)
          clear hK K
          try simp only [Act.put, lay_out]
          refine wpAnyH_done (by kernel_rfl) ?_ _
          refine NoPanic.normal ?_
          clear h0 h1x h2x h3x h4x h5x h6x
          try simp only [Act.put, lay_out]
          go_wp2_with fail
          go_meet
          exact ⟨_, _, rfl, rfl, G8.out⟩
        · rw [if_pos (by rfl)]
          go_simp
          have G3 := hid (G2.out.new hM #[.int .i64 0, .int .i64 0, .int .i64 0] 39)
          refine hK.out _ _ (⟨G3.out.bl 1 rfl, (HJ.out.self G3.out.z.low).bl 0 rfl⟩) (fun h3x => ?_)
          clear hK K
          try simp only [Act.put, lay_out]
          generalize q2.alloc (.cells #[.int .i64 0, .int .i64 0, .int .i64 0] 39) = q3 at *
          refine wpAnyH_ready (rs := [12]) (by kernel_rfl) (by simp) (AllReadyH.cons rfl (fun K hK => ?_) AllReadyH.nil)
          rw [if_pos (by rfl)]
          go_simp
          have G4 := hid (G3.out.new hM #[.int .i64 0, .int .i64 0, .int .i64 0] 39)
          refine hK.out _ _ (⟨G4.out.bl 2 rfl, (HJ.out.self G4.out.z.low).bl 0 rfl⟩) (fun h4x => ?_)
          clear hK K
          try simp only [Act.put, lay_out]
          generalize q3.alloc (.cells #[.int .i64 0, .int .i64 0, .int .i64 0] 39) = q4 at *
          refine wpAnyH_ready (rs := [14]) (by kernel_rfl) (by simp) (AllReadyH.cons rfl (fun K hK => ?_) AllReadyH.nil)
          rw [if_pos (by rfl)]
          refine wp_store_row 39 _ _ rfl (q3.heap.size) (wdV A0) rfl rfl 39 _ (G4.out.bl 0 rfl) (by kernel_rfl) rfl (by kernel_rfl) ?_
          have G5 := hid (G4.out.row hM (wdV A0))
          refine hK.out _ _ (⟨G5.out.bl 2 rfl, (HJ.out.self G5.out.z.low).bl 0 rfl⟩) (fun h5x => ?_)
          clear hK K
          try simp only [Act.put, lay_out]
          have G6 := hid G5.out.swap
          refine wpAnyH_ready (rs := [15]) (by kernel_rfl) (by simp) (AllReadyH.cons rfl (fun K hK => ?_) AllReadyH.nil)
          rw [if_pos (by rfl)]
          refine wp_store_row 39 _ _ rfl (q2.heap.size) (wdV B0) rfl rfl 39 _ (G6.out.bl 0 rfl) (by kernel_rfl) rfl (by kernel_rfl) ?_
          have G7 := hid (G6.out.row hM (wdV B0))
          refine hK.out _ _ (⟨G7.out.bl 2 rfl, (HJ.out.self G7.out.z.low).bl 0 rfl⟩) (fun h6x => ?_)
          clear hK K
          try simp only [Act.put, lay_out]
          refine wpAnyH_done (by kernel_rfl) ?_ _
          refine NoPanic.normal ?_
          clear h0 h1x h2x h3x h4x h5x h6x
          try simp only [Act.put, lay_out]
          go_wp2_with fail
          go_meet
          exact ⟨_, _, rfl, rfl, G7.out⟩
      · rw [if_pos (by rfl)]
        go_simp
        have G2 := hid (G1.out.new hM #[.int .i64 0, .int .i64 0, .int .i64 0] 39)
        refine hK.out _ _ (⟨G2.out.bl 1 rfl, (HJ.out.self G2.out.z.low).bl 0 rfl⟩) (fun h2x => ?_)
        clear hK K
        try simp only [Act.put, lay_out]
        generalize q1.alloc (.cells #[.int .i64 0, .int .i64 0, .int .i64 0] 39) = q2 at *
        refine wpAnyH_ready (rs := [11, 13]) (by kernel_rfl) (by simp) (AllReadyH.cons rfl (fun K hK => ?_) (AllReadyH.cons rfl (fun K hK => ?_) AllReadyH.nil))
        · rw [if_pos (by rfl)]
          go_simp
          go_at_call 11
          (with_reducible refine (HC2.out _ _ G2.out).mono ?_); rintro e q3 ⟨rfl, hz⟩
          have G3 := hid hz
          clear hz
          refine hK.out _ _ (⟨G3.out.bl 1 rfl, (HJ.out.self G3.out.z.low).bl 0 rfl⟩) (fun h3x => ?_)
          clear hK K
          try simp only [Act.put, lay_out]
          refine wpAnyH_ready (rs := [13]) (by kernel_rfl) (by simp) (AllReadyH.cons rfl (fun K hK => ?_) AllReadyH.nil)
          rw [if_pos (by rfl)]
          go_simp
          have G4 := hid (G3.out.new hM #[.int .i64 0, .int .i64 0, .int .i64 0] 39)
          refine hK.out _ _ (⟨G4.out.bl 2 rfl, (HJ.out.self G4.out.z.low).bl 0 rfl⟩) (fun h4x => ?_)
          clear hK K
          try simp only [Act.put, lay_out]
          generalize q3.alloc (.cells #[.int .i64 0, .int .i64 0, .int .i64 0] 39) = q4 at *
          have G5 := hid G4.out.swap
          refine wpAnyH_ready (rs := [14]) (by kernel_rfl) (by simp) (AllReadyH.cons rfl (fun K hK => ?_) AllReadyH.nil)
          rw [if_pos (by rfl)]
          refine wp_store_row 39 _ _ rfl (q1.heap.size) (wdV A0) rfl rfl 39 _ (G5.out.bl 0 rfl) (by kernel_rfl) rfl (by kernel_rfl) ?_
          have G6 := hid (G5.out.row hM (wdV A0))
          refine hK.out _ _ (⟨G6.out.bl 2 rfl, (HJ.out.self G6.out.z.low).bl 0 rfl⟩) (fun h5x => ?_)
          clear hK K
          try simp only [Act.put, lay_out]
          have G7 := hid G6.out.swap
          refine wpAnyH_ready (rs := [15]) (by kernel_rfl) (by simp) (AllReadyH.cons rfl (fun K hK => ?_) AllReadyH.nil)
          rw [if_pos (by rfl)]
          refine wp_store_row 39 _ _ rfl (q3.heap.size) (wdV B0) rfl rfl 39 _ (G7.out.bl 0 rfl) (by kernel_rfl) rfl (by kernel_rfl) ?_
          have G8 := hid (G7.out.row hM (wdV B0))
          refine hK.out _ _ (⟨G8.out.bl 2 rfl, (HJ.out.self G8.out.z.low).bl 0 rfl⟩) (fun h6x => ?_)
          clear hK K
          try simp only [Act.put, lay_out]
          refine wpAnyH_done (by kernel_rfl) ?_ _
          refine NoPanic.normal ?_
          clear h0 h1x h2x h3x h4x h5x h6x
          try simp only [Act.put, lay_out]
          go_wp2_with fail
          go_meet
          exact ⟨_, _, rfl, rfl, G8.out⟩
        · rw [if_pos (by rfl)]
          go_simp
          have G3 := hid (G2.out.new hM #[.int .i64 0, .int .i64 0, .int .i64 0] 39)
          refine hK.out _ _ (⟨G3.out.bl 2 rfl, (HJ.out.self G3.out.z.low).bl 0 rfl⟩) (fun h3x => ?_)
          clear hK K
          try simp only [Act.put, lay_out]
          generalize q2.alloc (.cells #[.int .i64 0, .int .i64 0, .int .i64 0] 39) = q3 at *
          refine wpAnyH_ready (rs := [11]) (by kernel_rfl) (by simp) (AllReadyH.cons rfl (fun K hK => ?_) AllReadyH.nil)
          rw [if_pos (by rfl)]
          go_simp
          go_at_call 11
          (with_reducible refine (HC2.out _ _ G3.out).mono ?_); rintro e q4 ⟨rfl, hz⟩
          have G4 := hid hz
          clear hz
          refine hK.out _ _ (⟨G4.out.bl 2 rfl, (HJ.out.self G4.out.z.low).bl 0 rfl⟩) (fun h4x => ?_)
          clear hK K
          try simp only [Act.put, lay_out]
          have G5 := hid G4.out.swap
          refine wpAnyH_ready (rs := [14]) (by kernel_rfl) (by simp) (AllReadyH.cons rfl (fun K hK => ?_) AllReadyH.nil)
          rw [if_pos (by rfl)]
          refine wp_store_row 39 _ _ rfl (q1.heap.size) (wdV A0) rfl rfl 39 _ (G5.out.bl 0 rfl) (by kernel_rfl) rfl (by kernel_rfl) ?_
          have G6 := hid (G5.out.row hM (wdV A0))
          refine hK.out _ _ (⟨G6.out.bl 2 rfl, (HJ.out.self G6.out.z.low).bl 0 rfl⟩) (fun h5x => ?_)
          clear hK K
          try simp only [Act.put, lay_out]
          have G7 := hid G6.out.swap
          refine wpAnyH_ready (rs := [15]) (by kernel_rfl) (by simp) (AllReadyH.cons rfl (fun K hK => ?_) AllReadyH.nil)
          rw [if_pos (by rfl)]
          refine wp_store_row 39 _ _ rfl (q2.heap.size) (wdV B0) rfl rfl 39 _ (G7.out.bl 0 rfl) (by kernel_rfl) rfl (by kernel_rfl) ?_
          have G8 := hid (G7.out.row hM (wdV B0))
          refine hK.out _ _ (⟨G8.out.bl 2 rfl, (HJ.out.self G8.out.z.low).bl 0 rfl⟩) (fun h6x => ?_)
          clear hK K
          try simp only [Act.put, lay_out]
          refine wpAnyH_done (by kernel_rfl) ?_ _
          refine NoPanic.normal ?_
          clear h0 h1x h2x h3x h4x h5x h6x
          try simp only [Act.put, lay_out]
          go_wp2_with fail
          go_meet
          exact ⟨_, _, rfl, rfl, G8.out⟩
      · rw [if_pos (by rfl)]
        go_simp
        have G2 := hid (G1.out.new hM #[.int .i64 0, .int .i64 0, .int .i64 0] 39)
        refine hK.out _ _ (⟨G2.out.bl 1 rfl, (HJ.out.self G2.out.z.low).bl 0 rfl⟩) (fun h2x => ?_)
        clear hK K
        try simp only [Act.put, lay_out]
        generalize q1.alloc (.cells #[.int .i64 0, .int .i64 0, .int .i64 0] 39) = q2 at *
        refine wpAnyH_ready (rs := [11, 12]) (by kernel_rfl) (by simp) (AllReadyH.cons rfl (fun K hK => ?_) (AllReadyH.cons rfl (fun K hK => ?_) AllReadyH.nil))
        · rw [if_pos (by rfl)]
          go_simp
          go_at_call 11
          (with_reducible refine (HC2.out _ _ G2.out).mono ?_); rintro e q3 ⟨rfl, hz⟩
          have G3 := hid hz
          clear hz
          refine hK.out _ _ (⟨G3.out.bl 1 rfl, (HJ.out.self G3.out.z.low).bl 0 rfl⟩) (fun h3x => ?_)
          clear hK K
          try simp only [Act.put, lay_out]
          refine wpAnyH_ready (rs := [12]) (by kernel_rfl) (by simp) (AllReadyH.cons rfl (fun K hK => ?_) AllReadyH.nil)
          rw [if_pos (by rfl)]
          go_simp
          have G4 := hid (G3.out.new hM #[.int .i64 0, .int .i64 0, .int .i64 0] 39)
          refine hK.out _ _ (⟨G4.out.bl 2 rfl, (HJ.out.self G4.out.z.low).bl 0 rfl⟩) (fun h4x => ?_)
          clear hK K
          try simp only [Act.put, lay_out]
          generalize q3.alloc (.cells #[.int .i64 0, .int .i64 0, .int .i64 0] 39) = q4 at *
          refine wpAnyH_ready (rs := [14]) (by kernel_rfl) (by simp) (AllReadyH.cons rfl (fun K hK => ?_) AllReadyH.nil)
          rw [if_pos (by rfl)]
          refine wp_store_row 39 _ _ rfl (q3.heap.size) (wdV A0) rfl rfl 39 _ (G4.out.bl 0 rfl) (by kernel_rfl) rfl (by kernel_rfl) ?_
          have G5 := hid (G4.out.row hM (wdV A0))
          refine hK.out _ _ (⟨G5.out.bl 2 rfl, (HJ.out.self G5.out.z.low).bl 0 rfl⟩) (fun h5x => ?_)
          clear hK K
          try simp only [Act.put, lay_out]
          have G6 := hid G5.out.swap
          refine wpAnyH_ready (rs := [15]) (by kernel_rfl) (by simp) (AllReadyH.cons rfl (fun K hK => ?_) AllReadyH.nil)
          rw [if_pos (by rfl)]
          refine wp_store_row 39 _ _ rfl (q1.heap.size) (wdV B0) rfl rfl 39 _ (G6.out.bl 0 rfl) (by kernel_rfl) rfl (by kernel_rfl) ?_
          have G7 := hid (G6.out.row hM (wdV B0))
          refine hK.out _ _ (⟨G7.out.bl 2 rfl, (HJ.out.self G7.out.z.low).bl 0 rfl⟩) (fun h6x => ?_)
          clear hK K
          try simp only [Act.put, lay_out]
          refine wpAnyH_done (by kernel_rfl) ?_ _
          refine NoPanic.normal ?_
          clear h0 h1x h2x h3x h4x h5x h6x
          try simp only [Act.put, lay_out]
          go_wp2_with fail
          go_meet
          exact ⟨_, _, rfl, rfl, G7.out⟩
        · rw [if_pos (by rfl)]
          go_simp
          have G3 := hid (G2.out.new hM #[.int .i64 0, .int .i64 0, .int .i64 0] 39)
          refine hK.out _ _ (⟨G3.out.bl 2 rfl, (HJ.out.self G3.out.z.low).bl 0 rfl⟩) (fun h3x => ?_)
          clear hK K
          try simp only [Act.put, lay_out]
          generalize q2.alloc (.cells #[.int .i64 0, .int .i64 0, .int .i64 0] 39) = q3 at *
          refine wpAnyH_ready (rs := [11]) (by kernel_rfl) (by simp) (AllReadyH.cons rfl (fun K hK => ?_) AllReadyH.nil)
          rw [if_pos (by rfl)]
          go_simp
          go_at_call 11
          (with_reducible refine (HC2.out _ _ G3.out).mono ?_); rintro e q4 ⟨rfl, hz⟩
          have G4 := hid hz
          clear hz
          refine hK.out _ _ (⟨G4.out.bl 2 rfl, (HJ.out.self G4.out.z.low).bl 0 rfl⟩) (fun h4x => ?_)
          clear hK K
          try simp only [Act.put, lay_out]
          refine wpAnyH_ready (rs := [14]) (by kernel_rfl) (by simp) (AllReadyH.cons rfl (fun K hK => ?_) AllReadyH.nil)
          rw [if_pos (by rfl)]
          refine wp_store_row 39 _ _ rfl (q2.heap.size) (wdV A0) rfl rfl 39 _ (G4.out.bl 0 rfl) (by kernel_rfl) rfl (by kernel_rfl) ?_
          have G5 := hid (G4.out.row hM (wdV A0))
          refine hK.out _ _ (⟨G5.out.bl 2 rfl, (HJ.out.self G5.out.z.low).bl 0 rfl⟩) (fun h5x => ?_)
          clear hK K
          try simp only [Act.put, lay_out]
          have G6 := hid G5.out.swap
          refine wpAnyH_ready (rs := [15]) (by kernel_rfl) (by simp) (AllReadyH.cons rfl (fun K hK => ?_) AllReadyH.nil)
          rw [if_pos (by rfl)]
          refine wp_store_row 39 _ _ rfl (q1.heap.size) (wdV B0) rfl rfl 39 _ (G6.out.bl 0 rfl) (by kernel_rfl) rfl (by kernel_rfl) ?_
          have G7 := hid (G6.out.row hM (wdV B0))
          refine hK.out _ _ (⟨G7.out.bl 2 rfl, (HJ.out.self G7.out.z.low).bl 0 rfl⟩) (fun h6x => ?_)
          clear hK K
          try simp only [Act.put, lay_out]
          refine wpAnyH_done (by kernel_rfl) ?_ _
          refine NoPanic.normal ?_
          clear h0 h1x h2x h3x h4x h5x h6x
          try simp only [Act.put, lay_out]
          go_wp2_with fail
          go_meet
          exact ⟨_, _, rfl, rfl, G7.out⟩
    · rw [if_pos (by rfl)]
      go_simp
      have G1 := hid (G0.out.new hM #[.int .i64 0, .int .i64 0, .int .i64 0] 39)
      refine hK.out _ _ (⟨G1.out.bl 1 rfl, (HJ.out.self G1.out.z.low).bl 0 rfl⟩) (fun h1x => ?_)
      clear hK K
      try simp only [Act.put, lay_out]
      generalize q0.alloc (.cells #[.int .i64 0, .int .i64 0, .int .i64 0] 39) = q1 at *
      refine wpAnyH_ready (rs := [5, 13]) (by kernel_rfl) (by simp) (AllReadyH.cons rfl (fun K hK => ?_) (AllReadyH.cons rfl (fun K hK => ?_) AllReadyH.nil))
      · rw [if_pos (by rfl)]
        go_simp
        go_at_call 11
        (with_reducible refine (HC1.out _ _ G1.out).mono ?_); rintro e q2 ⟨rfl, hz⟩
        have G2 := hid hz
        clear hz
        refine hK.out _ _ (⟨G2.out.bl 1 rfl, (HJ.out.self G2.out.z.low).bl 0 rfl⟩) (fun h2x => ?_)
        clear hK K
        try simp only [Act.put, lay_out]
        refine wpAnyH_ready (rs := [11, 13]) (by kernel_rfl) (by simp) (AllReadyH.cons rfl (fun K hK => ?_) (AllReadyH.cons rfl (fun K hK => ?_) AllReadyH.nil))
        · rw [if_pos (by rfl)]
          go_simp
          go_at_call 11
          (with_reducible refine (HC2.out _ _ G2.out).mono ?_); rintro e q3 ⟨rfl, hz⟩
          have G3 := hid hz
          clear hz
          refine hK.out _ _ (⟨G3.out.bl 1 rfl, (HJ.out.self G3.out.z.low).bl 0 rfl⟩) (fun h3x => ?_)
          clear hK K
          try simp only [Act.put, lay_out]
          refine wpAnyH_ready (rs := [13]) (by kernel_rfl) (by simp) (AllReadyH.cons rfl (fun K hK => ?_) AllReadyH.nil)
          rw [if_pos (by rfl)]
          go_simp
          have G4 := hid (G3.out.new hM #[.int .i64 0, .int .i64 0, .int .i64 0] 39)
          refine hK.out _ _ (⟨G4.out.bl 2 rfl, (HJ.out.self G4.out.z.low).bl 0 rfl⟩) (fun h4x => ?_)
          clear hK K
          try simp only [Act.put, lay_out]
          generalize q3.alloc (.cells #[.int .i64 0, .int .i64 0, .int .i64 0] 39) = q4 at *
          have G5 := hid G4.out.swap
          refine wpAnyH_ready (rs := [14]) (by kernel_rfl) (by simp) (AllReadyH.cons rfl (fun K hK => ?_) AllReadyH.nil)
          rw [if_pos (by rfl)]
          refine wp_store_row 39 _ _ rfl (q0.heap.size) (wdV A0) rfl rfl 39 _ (G5.out.bl 0 rfl) (by kernel_rfl) rfl (by kernel_rfl) ?_
          have G6 := hid (G5.out.row hM (wdV A0))
          refine hK.out _ _ (⟨G6.out.bl 2 rfl, (HJ.out.self G6.out.z.low).bl 0 rfl⟩) (fun h5x => ?_)
          clear hK K
          try simp only [Act.put, lay_out]
          have G7 := hid G6.out.swap
          refine wpAnyH_ready (rs := [15]) (by kernel_rfl) (by simp) (AllReadyH.cons rfl (fun K hK => ?_) AllReadyH.nil)
          rw [if_pos (by rfl)]
          refine wp_store_row 39 _ _ rfl (q3.heap.size) (wdV B0) rfl rfl 39 _ (G7.out.bl 0 rfl) (by kernel_rfl) rfl (by kernel_rfl) ?_
          have G8 := hid (G7.out.row hM (wdV B0))
          refine hK.out _ _ (⟨G8.out.bl 2 rfl, (HJ.out.self G8.out.z.low).bl 0 rfl⟩) (fun h6x => ?_)
          clear hK K
          try simp only [Act.put, lay_out]
          refine wpAnyH_done (by kernel_rfl) ?_ _
          refine NoPanic.normal ?_
          clear h0 h1x h2x h3x h4x h5x h6x
          try simp only [Act.put, lay_out]
          go_wp2_with fail
          go_meet
          exact ⟨_, _, rfl, rfl, G8.out⟩
        · rw [if_pos (by rfl)]
          go_simp
          have G3 := hid (G2.out.new hM #[.int .i64 0, .int .i64 0, .int .i64 0] 39)
          refine hK.out _ _ (⟨G3.out.bl 2 rfl, (HJ.out.self G3.out.z.low).bl 0 rfl⟩) (fun h3x => ?_)
          clear hK K
          try simp only [Act.put, lay_out]
          generalize q2.alloc (.cells #[.int .i64 0, .int .i64 0, .int .i64 0] 39) = q3 at *
          refine wpAnyH_ready (rs := [11]) (by kernel_rfl) (by simp) (AllReadyH.cons rfl (fun K hK => ?_) AllReadyH.nil)
          rw [if_pos (by rfl)]
          go_simp
          go_at_call 11
          (with_reducible refine (HC2.out _ _ G3.out).mono ?_); rintro e q4 ⟨rfl, hz⟩
          have G4 := hid hz
          clear hz
          refine hK.out _ _ (⟨G4.out.bl 2 rfl, (HJ.out.self G4.out.z.low).bl 0 rfl⟩) (fun h4x => ?_)
          clear hK K
          try simp only [Act.put, lay_out]
          have G5 := hid G4.out.swap
          refine wpAnyH_ready (rs := [14]) (by kernel_rfl) (by simp) (AllReadyH.cons rfl (fun K hK => ?_) AllReadyH.nil)
          rw [if_pos (by rfl)]
          refine wp_store_row 39 _ _ rfl (q0.heap.size) (wdV A0) rfl rfl 39 _ (G5.out.bl 0 rfl) (by kernel_rfl) rfl (by kernel_rfl) ?_
          have G6 := hid (G5.out.row hM (wdV A0))
          refine hK.out _ _ (⟨G6.out.bl 2 rfl, (HJ.out.self G6.out.z.low).bl 0 rfl⟩) (fun h5x => ?_)
          clear hK K
          try simp only [Act.put, lay_out]
          have G7 := hid G6.out.swap
          refine wpAnyH_ready (rs := [15]) (by kernel_rfl) (by simp) (AllReadyH.cons rfl (fun K hK => ?_) AllReadyH.nil)
          rw [if_pos (by rfl)]
          refine wp_store_row 39 _ _ rfl (q2.heap.size) (wdV B0) rfl rfl 39 _ (G7.out.bl 0 rfl) (by kernel_rfl) rfl (by kernel_rfl) ?_
          have G8 := hid (G7.out.row hM (wdV B0))
          refine hK.out _ _ (⟨G8.out.bl 2 rfl, (HJ.out.self G8.out.z.low).bl 0 rfl⟩) (fun h6x => ?_)
          clear hK K
          try simp only [Act.put, lay_out]
          refine wpAnyH_done (by kernel_rfl) ?_ _
          refine NoPanic.normal ?_
          clear h0 h1x h2x h3x h4x h5x h6x
          try simp only [Act.put, lay_out]
          go_wp2_with fail
          go_meet
          exact ⟨_, _, rfl, rfl, G8.out⟩
      · rw [if_pos (by rfl)]
        go_simp
        have G2 := hid (G1.out.new hM #[.int .i64 0, .int .i64 0, .int .i64 0] 39)
        refine hK.out _ _ (⟨G2.out.bl 2 rfl, (HJ.out.self G2.out.z.low).bl 0 rfl⟩) (fun h2x => ?_)
        clear hK K
        try simp only [Act.put, lay_out]
        generalize q1.alloc (.cells #[.int .i64 0, .int .i64 0, .int .i64 0] 39) = q2 at *
        refine wpAnyH_ready (rs := [5]) (by kernel_rfl) (by simp) (AllReadyH.cons rfl (fun K hK => ?_) AllReadyH.nil)
        rw [if_pos (by rfl)]
        go_simp
        go_at_call 11
        (with_reducible refine (HC1.out _ _ G2.out).mono ?_); rintro e q3 ⟨rfl, hz⟩
        have G3 := hid hz
        clear hz
        refine hK.out _ _ (⟨G3.out.bl 2 rfl, (HJ.out.self G3.out.z.low).bl 0 rfl⟩) (fun h3x => ?_)
        clear hK K
        try simp only [Act.put, lay_out]
        refine wpAnyH_ready (rs := [11]) (by kernel_rfl) (by simp) (AllReadyH.cons rfl (fun K hK => ?_) AllReadyH.nil)
        rw [if_pos (by rfl)]
        go_simp
        go_at_call 11
        (with_reducible refine (HC2.out _ _ G3.out).mono ?_); rintro e q4 ⟨rfl, hz⟩
        have G4 := hid hz
        clear hz
        refine hK.out _ _ (⟨G4.out.bl 2 rfl, (HJ.out.self G4.out.z.low).bl 0 rfl⟩) (fun h4x => ?_)
        clear hK K
        try simp only [Act.put, lay_out]
        have G5 := hid G4.out.swap
        refine wpAnyH_ready (rs := [14]) (by kernel_rfl) (by simp) (AllReadyH.cons rfl (fun K hK => ?_) AllReadyH.nil)
        rw [if_pos (by rfl)]
        refine wp_store_row 39 _ _ rfl (q0.heap.size) (wdV A0) rfl rfl 39 _ (G5.out.bl 0 rfl) (by kernel_rfl) rfl (by kernel_rfl) ?_
        have G6 := hid (G5.out.row hM (wdV A0))
        refine hK.out _ _ (⟨G6.out.bl 2 rfl, (HJ.out.self G6.out.z.low).bl 0 rfl⟩) (fun h5x => ?_)
        clear hK K
        try simp only [Act.put, lay_out]
        have G7 := hid G6.out.swap
        refine wpAnyH_ready (rs := [15]) (by kernel_rfl) (by simp) (AllReadyH.cons rfl (fun K hK => ?_) AllReadyH.nil)
        rw [if_pos (by rfl)]
        refine wp_store_row 39 _ _ rfl (q1.heap.size) (wdV B0) rfl rfl 39 _ (G7.out.bl 0 rfl) (by kernel_rfl) rfl (by kernel_rfl) ?_
        have G8 := hid (G7.out.row hM (wdV B0))
        refine hK.out _ _ (⟨G8.out.bl 2 rfl, (HJ.out.self G8.out.z.low).bl 0 rfl⟩) (fun h6x => ?_)
        clear hK K
        try simp only [Act.put, lay_out]
        refine wpAnyH_done (by kernel_rfl) ?_ _
        refine NoPanic.normal ?_
        clear h0 h1x h2x h3x h4x h5x h6x
        try simp only [Act.put, lay_out]
        go_wp2_with fail
        go_meet
        exact ⟨_, _, rfl, rfl, G8.out⟩
    · rw [if_pos (by rfl)]
      go_simp
      have G1 := hid (G0.out.new hM #[.int .i64 0, .int .i64 0, .int .i64 0] 39)
      refine hK.out _ _ (⟨G1.out.bl 1 rfl, (HJ.out.self G1.out.z.low).bl 0 rfl⟩) (fun h1x => ?_)
      clear hK K
      try simp only [Act.put, lay_out]
      generalize q0.alloc (.cells #[.int .i64 0, .int .i64 0, .int .i64 0] 39) = q1 at *
      refine wpAnyH_ready (rs := [5, 12]) (by kernel_rfl) (by simp) (AllReadyH.cons rfl (fun K hK => ?_) (AllReadyH.cons rfl (fun K hK => ?_) AllReadyH.nil))
      · rw [if_pos (by rfl)]
        go_simp
        go_at_call 11
        (with_reducible refine (HC1.out _ _ G1.out).mono ?_); rintro e q2 ⟨rfl, hz⟩
        have G2 := hid hz
        clear hz
        refine hK.out _ _ (⟨G2.out.bl 1 rfl, (HJ.out.self G2.out.z.low).bl 0 rfl⟩) (fun h2x => ?_)
        clear hK K
        try simp only [Act.put, lay_out]
        refine wpAnyH_ready (rs := [11, 12]) (by kernel_rfl) (by simp) (AllReadyH.cons rfl (fun K hK => ?_) (AllReadyH.cons rfl (fun K hK => ?_) AllReadyH.nil))
        · rw [if_pos (by rfl)]
          go_simp
          go_at_call 11
          (with_reducible refine (HC2.out _ _ G2.out).mono ?_); rintro e q3 ⟨rfl, hz⟩
          have G3 := hid hz
          clear hz
          refine hK.out _ _ (⟨G3.out.bl 1 rfl, (HJ.out.self G3.out.z.low).bl 0 rfl⟩) (fun h3x => ?_)
          clear hK K
          try simp only [Act.put, lay_out]
          refine wpAnyH_ready (rs := [12]) (by kernel_rfl) (by simp) (AllReadyH.cons rfl (fun K hK => ?_) AllReadyH.nil)
          rw [if_pos (by rfl)]
          go_simp
          have G4 := hid (G3.out.new hM #[.int .i64 0, .int .i64 0, .int .i64 0] 39)
          refine hK.out _ _ (⟨G4.out.bl 2 rfl, (HJ.out.self G4.out.z.low).bl 0 rfl⟩) (fun h4x => ?_)
          clear hK K
          try simp only [Act.put, lay_out]
          generalize q3.alloc (.cells #[.int .i64 0, .int .i64 0, .int .i64 0] 39) = q4 at *
          refine wpAnyH_ready (rs := [14]) (by kernel_rfl) (by simp) (AllReadyH.cons rfl (fun K hK => ?_) AllReadyH.nil)
          rw [if_pos (by rfl)]
          refine wp_store_row 39 _ _ rfl (q3.heap.size) (wdV A0) rfl rfl 39 _ (G4.out.bl 0 rfl) (by kernel_rfl) rfl (by kernel_rfl) ?_
          have G5 := hid (G4.out.row hM (wdV A0))
          refine hK.out _ _ (⟨G5.out.bl 2 rfl, (HJ.out.self G5.out.z.low).bl 0 rfl⟩) (fun h5x => ?_)
          clear hK K
          try simp only [Act.put, lay_out]
          have G6 := hid G5.out.swap
          refine wpAnyH_ready (rs := [15]) (by kernel_rfl) (by simp) (AllReadyH.cons rfl (fun K hK => ?_) AllReadyH.nil)
          rw [if_pos (by rfl)]
          refine wp_store_row 39 _ _ rfl (q0.heap.size) (wdV B0) rfl rfl 39 _ (G6.out.bl 0 rfl) (by kernel_rfl) rfl (by kernel_rfl) ?_
          have G7 := hid (G6.out.row hM (wdV B0))
          refine hK.out _ _ (⟨G7.out.bl 2 rfl, (HJ.out.self G7.out.z.low).bl 0 rfl⟩) (fun h6x => ?_)
          clear hK K
          try simp only [Act.put, lay_out]
          refine wpAnyH_done (by kernel_rfl) ?_ _
          refine NoPanic.normal ?_
          clear h0 h1x h2x h3x h4x h5x h6x
          try simp only [Act.put, lay_out]
          go_wp2_with fail
          go_meet
          exact ⟨_, _, rfl, rfl, G7.out⟩
        · rw [if_pos (by rfl)]
          go_simp
          have G3 := hid (G2.out.new hM #[.int .i64 0, .int .i64 0, .int .i64 0] 39)
          refine hK.out _ _ (⟨G3.out.bl 2 rfl, (HJ.out.self G3.out.z.low).bl 0 rfl⟩) (fun h3x => ?_)
          clear hK K
          try simp only [Act.put, lay_out]
          generalize q2.alloc (.cells #[.int .i64 0, .int .i64 0, .int .i64 0] 39) = q3 at *
          refine wpAnyH_ready (rs := [11]) (by kernel_rfl) (by simp) (AllReadyH.cons rfl (fun K hK => ?_) AllReadyH.nil)
          rw [if_pos (by rfl)]
          go_simp
          go_at_call 11
          (with_reducible refine (HC2.out _ _ G3.out).mono ?_); rintro e q4 ⟨rfl, hz⟩
          have G4 := hid hz
          clear hz
          refine hK.out _ _ (⟨G4.out.bl 2 rfl, (HJ.out.self G4.out.z.low).bl 0 rfl⟩) (fun h4x => ?_)
          clear hK K
          try simp only [Act.put, lay_out]
          refine wpAnyH_ready (rs := [14]) (by kernel_rfl) (by simp) (AllReadyH.cons rfl (fun K hK => ?_) AllReadyH.nil)
          rw [if_pos (by rfl)]
          refine wp_store_row 39 _ _ rfl (q2.heap.size) (wdV A0) rfl rfl 39 _ (G4.out.bl 0 rfl) (by kernel_rfl) rfl (by kernel_rfl) ?_
          have G5 := hid (G4.out.row hM (wdV A0))
          refine hK.out _ _ (⟨G5.out.bl 2 rfl, (HJ.out.self G5.out.z.low).bl 0 rfl⟩) (fun h5x => ?_)
          clear hK K
          try simp only [Act.put, lay_out]
          have G6 := hid G5.out.swap
          refine wpAnyH_ready (rs := [15]) (by kernel_rfl) (by simp) (AllReadyH.cons rfl (fun K hK => ?_) AllReadyH.nil)
          rw [if_pos (by rfl)]
          refine wp_store_row 39 _ _ rfl (q0.heap.size) (wdV B0) rfl rfl 39 _ (G6.out.bl 0 rfl) (by kernel_rfl) rfl (by kernel_rfl) ?_
          have G7 := hid (G6.out.row hM (wdV B0))
          refine hK.out _ _ (⟨G7.out.bl 2 rfl, (HJ.out.self G7.out.z.low).bl 0 rfl⟩) (fun h6x => ?_)
          clear hK K
          try simp only [Act.put, lay_out]
          refine wpAnyH_done (by kernel_rfl) ?_ _
          refine NoPanic.normal ?_
          clear h0 h1x h2x h3x h4x h5x h6x
          try simp only [Act.put, lay_out]
          go_wp2_with fail
          go_meet
          exact ⟨_, _, rfl, rfl, G7.out⟩
      · rw [if_pos (by rfl)]
        go_simp
        have G2 := hid (G1.out.new hM #[.int .i64 0, .int .i64 0, .int .i64 0] 39)
        refine hK.out _ _ (⟨G2.out.bl 2 rfl, (HJ.out.self G2.out.z.low).bl 0 rfl⟩) (fun h2x => ?_)
        clear hK K
        try simp only [Act.put, lay_out]
        generalize q1.alloc (.cells #[.int .i64 0, .int .i64 0, .int .i64 0] 39) = q2 at *
        refine wpAnyH_ready (rs := [5]) (by kernel_rfl) (by simp) (AllReadyH.cons rfl (fun K hK => ?_) AllReadyH.nil)
        rw [if_pos (by rfl)]
        go_simp
        go_at_call 11
        (with_reducible refine (HC1.out _ _ G2.out).mono ?_); rintro e q3 ⟨rfl, hz⟩
        have G3 := hid hz
        clear hz
        refine hK.out _ _ (⟨G3.out.bl 2 rfl, (HJ.out.self G3.out.z.low).bl 0 rfl⟩) (fun h3x => ?_)
        clear hK K
        try simp only [Act.put, lay_out]
        refine wpAnyH_ready (rs := [11]) (by kernel_rfl) (by simp) (AllReadyH.cons rfl (fun K hK => ?_) AllReadyH.nil)
        rw [if_pos (by rfl)]
        go_simp
        go_at_call 11
        (with_reducible refine (HC2.out _ _ G3.out).mono ?_); rintro e q4 ⟨rfl, hz⟩
        have G4 := hid hz
        clear hz
        refine hK.out _ _ (⟨G4.out.bl 2 rfl, (HJ.out.self G4.out.z.low).bl 0 rfl⟩) (fun h4x => ?_)
        clear hK K
        try simp only [Act.put, lay_out]
        refine wpAnyH_ready (rs := [14]) (by kernel_rfl) (by simp) (AllReadyH.cons rfl (fun K hK => ?_) AllReadyH.nil)
        rw [if_pos (by rfl)]
        refine wp_store_row 39 _ _ rfl (q1.heap.size) (wdV A0) rfl rfl 39 _ (G4.out.bl 0 rfl) (by kernel_rfl) rfl (by kernel_rfl) ?_
        have G5 := hid (G4.out.row hM (wdV A0))
        refine hK.out _ _ (⟨G5.out.bl 2 rfl, (HJ.out.self G5.out.z.low).bl 0 rfl⟩) (fun h5x => ?_)
        clear hK K
        try simp only [Act.put, lay_out]
        have G6 := hid G5.out.swap
        refine wpAnyH_ready (rs := [15]) (by kernel_rfl) (by simp) (AllReadyH.cons rfl (fun K hK => ?_) AllReadyH.nil)
        rw [if_pos (by rfl)]
        refine wp_store_row 39 _ _ rfl (q0.heap.size) (wdV B0) rfl rfl 39 _ (G6.out.bl 0 rfl) (by kernel_rfl) rfl (by kernel_rfl) ?_
        have G7 := hid (G6.out.row hM (wdV B0))
        refine hK.out _ _ (⟨G7.out.bl 2 rfl, (HJ.out.self G7.out.z.low).bl 0 rfl⟩) (fun h6x => ?_)
        clear hK K
        try simp only [Act.put, lay_out]
        refine wpAnyH_done (by kernel_rfl) ?_ _
        refine NoPanic.normal ?_
        clear h0 h1x h2x h3x h4x h5x h6x
        try simp only [Act.put, lay_out]
        go_wp2_with fail
        go_meet
        exact ⟨_, _, rfl, rfl, G7.out⟩
  case rest =>
    obtain ⟨b6, b7, rfl, rfl, hcut⟩ := hcut
    have H5 := hid hcut
    clear hcut H4 HC1 HC2
    rw [← HD0.out] at H5
    go_wp2
    obtain ⟨wo, hwo⟩ : ∃ wo, wc = wo := ⟨_, rfl⟩
    subst hwo
    go_loopw [8] (fun iv wr => ∃ i : Nat, i ≤ 6 ∧ iv = .int .i64 i ∧ Gy Pm wj.heap.size (fun _ => False) wj w2 wr p b S2 (Dc i) [(b7, .cells (wdV B0) 39 (0, 0)), (b6, .cells (wdV A0) 39 (0, 0)), (b4, .cells (paC p b (.slice none 0 0) (.slice none 0 0)) 32 (0, 0))]) (fun iv _ => 6 - (intOf iv).toNat)
    case atStart => exact ⟨0, by omega, rfl, H5.out⟩
    case round =>
      clear H5
      obtain ⟨i, hi, rfl, hI⟩ := hrel
      have HI := hid hI
      clear hI
      by_cases hlt : i < 6
      · have j1 : (i : Int) < 6 := by omega
        have j0 : (0 : Int) ≤ (i : Int) := by omega
        obtain ⟨m, hmm⟩ : ∃ m, i % 3 = m := ⟨_, rfl⟩
        have hm : m < 3 := by omega
        have hm3 : m < 3 := by omega
        have er : (i : Int).tmod 3 = (m : Int) := by rw [Int.tmod_eq_emod_of_nonneg (by omega)]; omega
        have m0 : (0 : Int) ≤ (m : Int) := by omega
        have m3 : (m : Int) < 3 := by omega
        have HAS := hid ((HJ.out.self HI.out.z.low).bl 0 rfl)
        by_cases hin : i < 3
        · skip
          have g1 : decide ((i : Int) ≥ 3) = false := decide_eq_false (by omega)
          have g2 : decide (3 ≤ (i : Int)) = false := decide_eq_false (by omega)
          obtain ⟨c, hc⟩ : ∃ c, x m = c := ⟨_, rfl⟩
          have cx : wr.cell? ⟨W.heap.size, 2 + m, none⟩ = some (.int .u64 (x m : Int)) := asC_x HAS.out m _ (by rw [Array.getElem?_toList]; exact w3_at x hm3)
          have cy : wr.cell? ⟨W.heap.size, 5 + m, none⟩ = some (.int .u64 (y m : Int)) := asC_y HAS.out m _ (by rw [Array.getElem?_toList]; exact w3_at y hm3)
          have HDO := hid (fun (w : World) (bs : List (Nat × Obj)) (h : Gy Pm wj.heap.size (fun _ => False) wj w2 w p b S2 (Dc i) bs) => h.lift (f := 12) (args := #[.pointer (some ⟨b, 0, none⟩), .agg #[.int .i64 3, .int .i64 (m : Int), .int .i64 (-1), .int .i64 (-1), .int .i64 (-1), .int .u64 (c : Int)], .int .u64 0]) (E := fun e => ∃ rr : Int, e = .returned (.int .i64 rr)) (S1' := S2) (S2' := Dc (i + 1)) (fun X W' hz => by
            have ho : Oc i = ⟨3, (m : Int), -1, -1, -1, c⟩ := by rw [HOC2.out i, hmm, if_pos hin, hc]
            have := ydo0 hM (Oc i) hz (HDQ.out i (by omega)) (by omega) (HOW.out i)
            rw [ho] at this
            rw [HDS.out i, ho]
            exact this.mono fun _ _ hr => ⟨⟨_, hr.1⟩, hr.2⟩))
          rw [hc] at cx
          generalize y m = c2 at *
          clear hin
          go_upto_region 12 with fail
          have G0 := hid (HI.out.self hM ((Below.refl _ wr).drew))
          refine wp_region_noPanic ?_
          refine wp_region_held_drew (S := fun w' => w'.heap[b4]? = some (.cells (paC p b (.slice none 0 0) (.slice none 0 0)) 32 (0, 0))) (by kernel_rfl) (G0.out.bl 2 rfl) (fun h0 => ?_)
          generalize wr.drew = y0 at *
          refine wpAnyH_take (i := 0) (v := .pointer (some ⟨b4, 1, none⟩)) rfl (by kernel_rfl) (by kernel_rfl) (by kernel_rfl) (fun _ _ _ h => h) (.inl ⟨by rfl, fun w hw => by clear hw; go_simp⟩) h0 ?_
          try simp only [Act.put, lay_out]
          refine wpAnyH_take (i := 1) (v := .pointer (some ⟨b, 0, none⟩)) rfl (by kernel_rfl) (by kernel_rfl) (by kernel_rfl) (fun _ _ _ h => h) (.inl ⟨by rfl, fun w' hw => by have hc := row_c (i := 1) (u := .pointer (some ⟨b, 0, none⟩)) hw rfl; clear hw; go_simp⟩) h0 ?_
          try simp only [Act.put, lay_out]
          refine wpAnyH_take (i := 2) (v := .int .i64 (i : Int)) rfl (by kernel_rfl) (by kernel_rfl) (by kernel_rfl) (fun _ _ _ h => h) (.inl ⟨by rfl, fun w hw => by clear hw; go_simp⟩) h0 ?_
          try simp only [Act.put, lay_out]
          refine wpAnyH_take (i := 3) (v := .int .i64 3) rfl (by kernel_rfl) (by kernel_rfl) (by kernel_rfl) (fun _ _ _ h => h) (.inl ⟨by rfl, fun w hw => by clear hw; go_simp⟩) h0 ?_
          try simp only [Act.put, lay_out]
          refine wpAnyH_take (i := 4) (v := .int .i64 (m : Int)) rfl (by kernel_rfl) (by kernel_rfl) (by kernel_rfl) (fun _ _ _ h => h) (.inl ⟨by rfl, fun w hw => by clear hw; go_simp⟩) h0 ?_
          try simp only [Act.put, lay_out]
          refine wpAnyH_take (i := 5) (v := .int .u64 (c : Int)) rfl (by kernel_rfl) (by kernel_rfl) (by kernel_rfl) (fun _ _ _ h => h) (.inl ⟨by rfl, fun w hw => by clear hw; go_simp⟩) h0 ?_
          try simp only [Act.put, lay_out]
          refine wpAnyH_take (i := 6) (v := .agg #[.int .i64 3, .int .i64 (m : Int), .int .i64 (-1), .int .i64 (-1), .int .i64 (-1), .int .u64 (c : Int)]) rfl (by kernel_rfl) (by kernel_rfl) (by kernel_rfl) (fun _ _ _ h => h) (.inl ⟨by rfl, fun w hw => by clear hw; go_simp⟩) h0 ?_
          try simp only [Act.put, lay_out]
          refine wpAnyH_ready (rs := [7]) (by kernel_rfl) (by simp) (AllReadyH.cons rfl (fun K hK => ?_) AllReadyH.nil)
          rw [if_pos (by rfl)]
          go_simp
          go_at_call 12
          (with_reducible refine (HDO.out _ _ G0.out).mono ?_); rintro e y1 ⟨⟨rr, rfl⟩, hz⟩
          have G1 := hid hz
          clear hz
          refine hK.out _ _ (G1.out.bl 2 rfl) (fun h1x => ?_)
          clear hK K
          try simp only [Act.put, lay_out]
          refine wpAnyH_done (by kernel_rfl) ?_ _
          refine NoPanic.normal ?_
          clear h0 h1x
          try simp only [Act.put, lay_out]
          go_wp2
          go_roundw
          case rel => exact ⟨i + 1, by omega, by go_num, G1.out⟩
          case measure => simp [intOf]; omega
        · skip
          have g1 : decide ((i : Int) ≥ 3) = true := decide_eq_true (by omega)
          have g2 : decide (3 ≤ (i : Int)) = true := decide_eq_true (by omega)
          obtain ⟨c, hc⟩ : ∃ c, y m = c := ⟨_, rfl⟩
          have cx : wr.cell? ⟨W.heap.size, 2 + m, none⟩ = some (.int .u64 (x m : Int)) := asC_x HAS.out m _ (by rw [Array.getElem?_toList]; exact w3_at x hm3)
          have cy : wr.cell? ⟨W.heap.size, 5 + m, none⟩ = some (.int .u64 (y m : Int)) := asC_y HAS.out m _ (by rw [Array.getElem?_toList]; exact w3_at y hm3)
          have HDO := hid (fun (w : World) (bs : List (Nat × Obj)) (h : Gy Pm wj.heap.size (fun _ => False) wj w2 w p b S2 (Dc i) bs) => h.lift (f := 12) (args := #[.pointer (some ⟨b, 0, none⟩), .agg #[.int .i64 3, .int .i64 (m : Int), .int .i64 (-1), .int .i64 (-1), .int .i64 (-1), .int .u64 (c : Int)], .int .u64 0]) (E := fun e => ∃ rr : Int, e = .returned (.int .i64 rr)) (S1' := S2) (S2' := Dc (i + 1)) (fun X W' hz => by
            have ho : Oc i = ⟨3, (m : Int), -1, -1, -1, c⟩ := by rw [HOC2.out i, hmm, if_neg hin, hc]
            have := ydo0 hM (Oc i) hz (HDQ.out i (by omega)) (by omega) (HOW.out i)
            rw [ho] at this
            rw [HDS.out i, ho]
            exact this.mono fun _ _ hr => ⟨⟨_, hr.1⟩, hr.2⟩))
          rw [hc] at cy
          generalize x m = c2 at *
          clear hin
          go_upto_region 12 with fail
          have G0 := hid (HI.out.self hM ((Below.refl _ wr).drew))
          refine wp_region_noPanic ?_
          refine wp_region_held_drew (S := fun w' => w'.heap[b4]? = some (.cells (paC p b (.slice none 0 0) (.slice none 0 0)) 32 (0, 0))) (by kernel_rfl) (G0.out.bl 2 rfl) (fun h0 => ?_)
          generalize wr.drew = y0 at *
          refine wpAnyH_take (i := 0) (v := .pointer (some ⟨b4, 1, none⟩)) rfl (by kernel_rfl) (by kernel_rfl) (by kernel_rfl) (fun _ _ _ h => h) (.inl ⟨by rfl, fun w hw => by clear hw; go_simp⟩) h0 ?_
          try simp only [Act.put, lay_out]
          refine wpAnyH_take (i := 1) (v := .pointer (some ⟨b, 0, none⟩)) rfl (by kernel_rfl) (by kernel_rfl) (by kernel_rfl) (fun _ _ _ h => h) (.inl ⟨by rfl, fun w' hw => by have hc := row_c (i := 1) (u := .pointer (some ⟨b, 0, none⟩)) hw rfl; clear hw; go_simp⟩) h0 ?_
          try simp only [Act.put, lay_out]
          refine wpAnyH_take (i := 2) (v := .int .i64 (i : Int)) rfl (by kernel_rfl) (by kernel_rfl) (by kernel_rfl) (fun _ _ _ h => h) (.inl ⟨by rfl, fun w hw => by clear hw; go_simp⟩) h0 ?_
          try simp only [Act.put, lay_out]
          refine wpAnyH_take (i := 3) (v := .int .i64 3) rfl (by kernel_rfl) (by kernel_rfl) (by kernel_rfl) (fun _ _ _ h => h) (.inl ⟨by rfl, fun w hw => by clear hw; go_simp⟩) h0 ?_
          try simp only [Act.put, lay_out]
          refine wpAnyH_take (i := 4) (v := .int .i64 (m : Int)) rfl (by kernel_rfl) (by kernel_rfl) (by kernel_rfl) (fun _ _ _ h => h) (.inl ⟨by rfl, fun w hw => by clear hw; go_simp⟩) h0 ?_
          try simp only [Act.put, lay_out]
          refine wpAnyH_take (i := 5) (v := .int .u64 (c : Int)) rfl (by kernel_rfl) (by kernel_rfl) (by kernel_rfl) (fun _ _ _ h => h) (.inl ⟨by rfl, fun w hw => by clear hw; go_simp⟩) h0 ?_
          try simp only [Act.put, lay_out]
          refine wpAnyH_take (i := 6) (v := .agg #[.int .i64 3, .int .i64 (m : Int), .int .i64 (-1), .int .i64 (-1), .int .i64 (-1), .int .u64 (c : Int)]) rfl (by kernel_rfl) (by kernel_rfl) (by kernel_rfl) (fun _ _ _ h => h) (.inl ⟨by rfl, fun w hw => by clear hw; go_simp⟩) h0 ?_
          try simp only [Act.put, lay_out]
          refine wpAnyH_ready (rs := [7]) (by kernel_rfl) (by simp) (AllReadyH.cons rfl (fun K hK => ?_) AllReadyH.nil)
          rw [if_pos (by rfl)]
          go_simp
          go_at_call 12
          (with_reducible refine (HDO.out _ _ G0.out).mono ?_); rintro e y1 ⟨⟨rr, rfl⟩, hz⟩
          have G1 := hid hz
          clear hz
          refine hK.out _ _ (G1.out.bl 2 rfl) (fun h1x => ?_)
          clear hK K
          try simp only [Act.put, lay_out]
          refine wpAnyH_done (by kernel_rfl) ?_ _
          refine NoPanic.normal ?_
          clear h0 h1x
          try simp only [Act.put, lay_out]
          go_wp2
          go_roundw
          case rel => exact ⟨i + 1, by omega, by go_num, G1.out⟩
          case measure => simp [intOf]; omega
      · obtain rfl : i = 6 := by omega
        rw [show ((6 : Nat) : Int) = 6 from rfl]
        clear hlt hi HDQ HDS HOC2 HOW
        rw [HDE.out] at HI
        have HLN0 := hid (fun (w : World) (bs : List (Nat × Obj)) (h : Gy Pm wj.heap.size (fun _ => False) wj w2 w p b S2 S2 bs) => zlen hM h.z HB2.out.1 (by decide))
        obtain ⟨l2, hl2⟩ : ∃ l2, S2.len = l2 := ⟨_, rfl⟩
        simp only [hl2] at HLN0 HOK
        clear hl2
        have c1 := row_c (i := 0) (u := .pointer (some ⟨p, 0, none⟩)) (HI.out.bl 2 rfl) rfl
        go_upto_region 14 with (go_at_call 13; (with_reducible refine (HLN0.out _ _ HI.out).mono ?_); rintro e w7 ⟨rfl, hb⟩; have H7 := hid (HI.out.self hM hb); clear hb c1)
        have HA7 := hid ((HJ.out.self H7.out.z.low).bl 0 rfl)
        have cK := row_c (i := 1) (u := .int .i64 K) HA7.out rfl
        have c1 := row_c (i := 0) (u := .pointer (some ⟨p, 0, none⟩)) (H7.out.bl 2 rfl) rfl
        go_upto_region 15 with (first
          | (refine step_load_row rfl 39 _ rfl b6 39 (wdV A0) _ rfl (H7.out.bl 1 rfl) Try.underlying39 rfl (by kernel_rfl) ?_)
          | (refine step_load_row rfl 39 _ rfl b7 39 (wdV B0) _ rfl (H7.out.bl 0 rfl) Try.underlying39 rfl (by kernel_rfl) ?_)
          | (go_at_call 14; (with_reducible refine (HCP.out _ _ H7.out).mono ?_); rintro e w8 ⟨rfl, hb⟩; have H8 := hid hb; clear hb c1 cK HA7))
        have H9 := hid (H8.out.new hM (wdV R3) 39)
        obtain ⟨b11, hb11⟩ : ∃ b11, w8.heap.size = b11 := ⟨_, rfl⟩
        obtain ⟨w9, hw9⟩ : ∃ w9, w8.alloc (.cells (wdV R3) 39) = w9 := ⟨_, rfl⟩
        rw [hw9, hb11] at H9
        first
          | rw [hw9]
          | (rw [show wdV R3 = #[.int .i64 (R3 0), .int .i64 (R3 1), .int .i64 (R3 2)] from rfl] at hw9; rw [hw9])
        try rw [hb11]
        clear hb11 hw9 H8 H7
        have HA9 := hid ((HJ.out.self H9.out.z.low).bl 0 rfl)
        have cK := row_c (i := 1) (u := .int .i64 K) HA9.out rfl
        have c1 := row_c (i := 1) (u := .pointer (some ⟨b, 0, none⟩)) (H9.out.bl 3 rfl) rfl
        go_upto_region 16 with (first
          | (refine step_load_row rfl 39 _ rfl b6 39 (wdV A0) _ rfl (H9.out.bl 2 rfl) Try.underlying39 rfl (by kernel_rfl) ?_)
          | (refine step_load_row rfl 39 _ rfl b7 39 (wdV B0) _ rfl (H9.out.bl 1 rfl) Try.underlying39 rfl (by kernel_rfl) ?_)
          | (go_at_call 15; (with_reducible refine (HCY.out _ _ _ H9.out).mono ?_); rintro e w10 ⟨rfl, hb⟩; have H10 := hid hb; clear hb c1 cK HA9))
        have H11 := hid (H10.out.new hM (wdV R3) 39)
        obtain ⟨b12, hb12⟩ : ∃ b12, w10.heap.size = b12 := ⟨_, rfl⟩
        obtain ⟨w11, hw11⟩ : ∃ w11, w10.alloc (.cells (wdV R3) 39) = w11 := ⟨_, rfl⟩
        rw [hw11, hb12] at H11
        first
          | rw [hw11]
          | (rw [show wdV R3 = #[.int .i64 (R3 0), .int .i64 (R3 1), .int .i64 (R3 2)] from rfl] at hw11; rw [hw11])
        try rw [hb12]
        clear hb12 hw11 H10 H9
        have HE3 := hid (fun (w : World) (bs : List (Nat × Obj)) (h : Gy Pm wj.heap.size (fun _ => False) wj w2 w p b S3 S3 bs) => h.asks hM (E := fun e _ => e = .returned (.bool true)) (f := 16) (args := #[.agg (paC p b (.slice none 0 0) (.slice none 0 0))]) (fun X W' hz => (llike_any hM hz HB3.out (by decide) HY3.out none none 0 0 0 0).mono fun _ _ hr => ⟨hr.1, hr.2.2⟩))
        have HLN := hid (fun (w : World) (bs : List (Nat × Obj)) (h : Gy Pm wj.heap.size (fun _ => False) wj w2 w p b S3 S3 bs) => zlen hM h.z HB3.out (by decide))
        have HVL : Hid (∀ (w : World) (bs : List (Nat × Obj)), Gy Pm wj.heap.size (fun _ => False) wj w2 w p b S3 S3 bs → Calls Try.prog 19 #[.pointer (some ⟨p, 0, none⟩)] w fun e w' => (∃ v, e = .returned v ∧ Rd .u64 w' v (wdL S3.v S3.L)) ∧ Below w.heap.size w w') := hid (fun w bs h => (zvalues hM h.z HB3.out (by decide)).mono fun _ _ ⟨v, e1, e2, e3⟩ => ⟨⟨v, e1, by rw [show S3.keep S3.L = S3.L by unfold Ms.keep; rw [HY3.out]; rfl] at e2; exact e2⟩, e3⟩)
        have HVV : Hid (∀ (v : Value) (w : World), Rd .u64 w v (wdL S3.v S3.L) → Calls Try.prog 18 #[v, .agg (wdV R3)] w fun e w' => e = .returned (.int .u64 (vlN S3.v S3.L R3 : Nat)) ∧ Below w.heap.size w w') := hid (fun v w h => (shI hM).value v _ _ R3 w h (fun i hi => HB3.out.v i hi))
        go_wp2_with (refine step_load_row_want (by rfl) 39 _ rfl b11 39 (wdV R3) _ rfl (H11.out.bl 1 rfl) Try.underlying39 rfl (by kernel_rfl) ?_; refine Hid.out ?_)
        refine hid ?_
        try simp only [Act.put, lay_out]
        refine step_load_row_want (by rfl) 39 _ rfl b12 39 (wdV R3) _ rfl (H11.out.bl 0 rfl) Try.underlying39 rfl (by kernel_rfl) ?_
        try simp only [Act.put, lay_out]
        refine wpList_neWd (by rfl) (.tmp 118) (.tmp 119) rfl R3 rfl rfl ?_
        try simp only [Act.put, lay_out]
        go_wp2_with (refine step_load_row_want (by rfl) 32 _ rfl b4 32 (paC p b (.slice none 0 0) (.slice none 0 0)) _ rfl (H11.out.bl 4 rfl) Try.underlying32 rfl (by kernel_rfl) ?_; refine Hid.out ?_)
        refine hid ?_
        try simp only [Act.put, lay_out]
        go_upto_region 18 with (go_at_call 16; (with_reducible refine (HE3.out _ _ H11.out).mono ?_); rintro e w16 ⟨rfl, hb⟩; have H16 := hid hb; clear hb)
        have cE : w16.cell? ⟨b, 7, none⟩ = some (.int .i64 (S3.e : Int)) := H16.out.z.c0.2.2.1
        have c1 := row_c (i := 1) (u := .pointer (some ⟨b, 0, none⟩)) (H16.out.bl 4 rfl) rfl
        clear H11 HE3
        by_cases he : S3.e = 0
        · rw [he] at cE
          obtain ⟨hL, hVL⟩ := HOK.out he
          simp only [hVL] at HVV
          obtain ⟨l3, hl3⟩ : ∃ l3, S3.len = l3 := ⟨_, rfl⟩
          simp only [hl3] at HLN hL
          have eS : IntKind.i64.wrap ((l3 : Int) - (l2 : Int)) = 24 := by rw [IntKind.wrap_i64, hL, show tmM ((3 : Nat) : Int) = 24 from rfl]; omega
          have eA := HAN.out
          obtain ⟨zz, hzz⟩ : ∃ zz, tot x 3 &&& tot y 3 = zz := ⟨_, rfl⟩
          rw [hzz] at eA
          simp only [hzz] at HVV
          generalize tot x 3 = tX at *
          generalize tot y 3 = tY at *
          clear hL hVL hl3 hzz he HOK HAN
          go_upto_region 20 with fail
          clear cE c1
          have G0 := hid (H16.out.self hM ((Below.refl _ w16).drew))
          refine wp_region_noPanic ?_
          refine wp_region_held_drew (S := fun w' => w'.heap[b4]? = some (.cells (paC p b (.slice none 0 0) (.slice none 0 0)) 32 (0, 0)) ∧ w'.heap[b11]? = some (.cells (wdV R3) 39 (0, 0)) ∧ w'.heap[W.heap.size]? = some (.cells (asC true K x y (.slice ma TN mc)) 26 (0, 0))) (by kernel_rfl) (⟨G0.out.bl 4 rfl, G0.out.bl 1 rfl, (HJ.out.self G0.out.z.low).bl 0 rfl⟩) (fun h0 => ?_)
          generalize w16.drew = y0 at *
          refine wpAnyH_take (i := 0) (v := .pointer (some ⟨b4, 0, none⟩)) rfl (by kernel_rfl) (by kernel_rfl) (by kernel_rfl) (fun _ _ _ h => h) (.inl ⟨by rfl, fun w hw => by clear hw; go_simp⟩) h0 ?_
          try simp only [Act.put, lay_out]
          refine wpAnyH_take (i := 1) (v := .pointer (some ⟨p, 0, none⟩)) rfl (by kernel_rfl) (by kernel_rfl) (by kernel_rfl) (fun _ _ _ h => h) (.inl ⟨by rfl, fun w' hw => by have hc := row_c (i := 0) (u := .pointer (some ⟨p, 0, none⟩)) hw.1 rfl; clear hw; go_simp⟩) h0 ?_
          try simp only [Act.put, lay_out]
          refine wpAnyH_take (i := 3) (v := .int .i64 (l2 : Int)) rfl (by kernel_rfl) (by kernel_rfl) (by kernel_rfl) (fun _ _ _ h => h) (.inl ⟨by rfl, fun w hw => by clear hw; go_simp⟩) h0 ?_
          try simp only [Act.put, lay_out]
          refine wpAnyH_take (i := 5) (v := .int .i64 3) rfl (by kernel_rfl) (by kernel_rfl) (by kernel_rfl) (fun _ _ _ h => h) (.inl ⟨by rfl, fun w hw => by clear hw; go_simp⟩) h0 ?_
          try simp only [Act.put, lay_out]
          refine wpAnyH_ready (rs := [2]) (by kernel_rfl) (by simp) (AllReadyH.cons rfl (fun K hK => ?_) AllReadyH.nil)
          rw [if_pos (by rfl)]
          go_simp
          go_at_call 13
          (with_reducible refine (HLN.out _ _ G0.out).mono ?_); rintro e y1 ⟨rfl, hb⟩
          have G1 := hid (G0.out.self hM hb)
          clear hb
          refine hK.out _ _ (⟨G1.out.bl 4 rfl, G1.out.bl 1 rfl, (HJ.out.self G1.out.z.low).bl 0 rfl⟩) (fun h1x => ?_)
          clear hK K
          try simp only [Act.put, lay_out]
          refine wpAnyH_take (i := 4) (v := .int .i64 24) rfl (by kernel_rfl) (by kernel_rfl) (by kernel_rfl) (fun _ _ _ h => h) (.inl ⟨by rfl, fun w hw => by clear hw; go_simp⟩) h1x ?_
          try simp only [Act.put, lay_out]
          refine wpAnyH_ready (rs := [6]) (by kernel_rfl) (by simp) (AllReadyH.cons rfl (fun K hK => ?_) AllReadyH.nil)
          rw [if_pos (by rfl)]
          go_simp
          go_at_call 10
          (with_reducible refine (HO1.out _).mono ?_); rintro e y1x ⟨rfl, rfl⟩
          refine hK.out _ _ (⟨G1.out.bl 4 rfl, G1.out.bl 1 rfl, (HJ.out.self G1.out.z.low).bl 0 rfl⟩) (fun h2x => ?_)
          clear hK K
          try simp only [Act.put, lay_out]
          refine wpAnyH_take (i := 7) (v := .bool true) rfl (by kernel_rfl) (by kernel_rfl) (by kernel_rfl) (fun _ _ _ h => h) (.inl ⟨by rfl, fun w hw => by clear hw; go_simp⟩) h2x ?_
          try simp only [Act.put, lay_out]
          refine wpAnyH_take (i := 8) (v := .bool true) rfl (by kernel_rfl) (by kernel_rfl) (by kernel_rfl) (fun _ _ _ h => h) (.inl ⟨by rfl, fun w hw => by clear hw; go_simp⟩) h2x ?_
          try simp only [Act.put, lay_out]
          refine wpAnyH_take (i := 9) (v := .pointer (some ⟨b4, 0, none⟩)) rfl (by kernel_rfl) (by kernel_rfl) (by kernel_rfl) (fun _ _ _ h => h) (.inl ⟨by rfl, fun w hw => by clear hw; go_simp⟩) h2x ?_
          try simp only [Act.put, lay_out]
          refine wpAnyH_take (i := 10) (v := .pointer (some ⟨p, 0, none⟩)) rfl (by kernel_rfl) (by kernel_rfl) (by kernel_rfl) (fun _ _ _ h => h) (.inl ⟨by rfl, fun w' hw => by have hc := row_c (i := 0) (u := .pointer (some ⟨p, 0, none⟩)) hw.1 rfl; clear hw; go_simp⟩) h2x ?_
          try simp only [Act.put, lay_out]
          refine wpAnyH_take (i := 12) (v := .agg (wdV R3)) rfl (by kernel_rfl) (by kernel_rfl) (by kernel_rfl) (fun _ _ _ h => h) (yields_load_row (by rfl) 39 _ rfl b11 39 (wdV R3) _ rfl (fun w h => h.2.1) Try.underlying39 rfl (by kernel_rfl)) h2x ?_
          try simp only [Act.put, lay_out]
          refine wpAnyH_take (i := 14) (v := .int .i64 3) rfl (by kernel_rfl) (by kernel_rfl) (by kernel_rfl) (fun _ _ _ h => h) (.inl ⟨by rfl, fun w hw => by clear hw; go_simp⟩) h2x ?_
          try simp only [Act.put, lay_out]
          refine wpAnyH_take (i := 15) (v := .pointer (some ⟨W.heap.size, 2, none⟩)) rfl (by kernel_rfl) (by kernel_rfl) (by kernel_rfl) (fun _ _ _ h => h) (.inl ⟨by rfl, fun w hw => by clear hw; go_simp⟩) h2x ?_
          try simp only [Act.put, lay_out]
          refine wpAnyH_take (i := 16) (v := .agg (w3 x)) rfl (by kernel_rfl) (by kernel_rfl) (by kernel_rfl) (fun _ _ _ h => h) (yields_load_w3 (by rfl) _ rfl W.heap.size 2 x rfl (fun w h => asC_x h.2.2)) h2x ?_
          try simp only [Act.put, lay_out]
          refine wpAnyH_take (i := 18) (v := .int .i64 3) rfl (by kernel_rfl) (by kernel_rfl) (by kernel_rfl) (fun _ _ _ h => h) (.inl ⟨by rfl, fun w hw => by clear hw; go_simp⟩) h2x ?_
          try simp only [Act.put, lay_out]
          refine wpAnyH_take (i := 19) (v := .pointer (some ⟨W.heap.size, 5, none⟩)) rfl (by kernel_rfl) (by kernel_rfl) (by kernel_rfl) (fun _ _ _ h => h) (.inl ⟨by rfl, fun w hw => by clear hw; go_simp⟩) h2x ?_
          try simp only [Act.put, lay_out]
          refine wpAnyH_take (i := 20) (v := .agg (w3 y)) rfl (by kernel_rfl) (by kernel_rfl) (by kernel_rfl) (fun _ _ _ h => h) (yields_load_w3 (by rfl) _ rfl W.heap.size 5 y rfl (fun w h => asC_y h.2.2)) h2x ?_
          try simp only [Act.put, lay_out]
          refine wpAnyH_ready (rs := [11]) (by kernel_rfl) (by simp) (AllReadyH.cons rfl (fun K hK => ?_) AllReadyH.nil)
          rw [if_pos (by rfl)]
          go_simp
          go_at_call 19
          (with_reducible refine (HVL.out _ _ G1.out).mono ?_); rintro e y2 ⟨⟨v, rfl, hv⟩, hb⟩
          have G2 := hid (G1.out.self hM hb)
          have V2 := hid hv
          clear hv
          clear hb
          refine hK.out _ _ (⟨G2.out.bl 4 rfl, G2.out.bl 1 rfl, (HJ.out.self G2.out.z.low).bl 0 rfl⟩) (fun h3x => ?_)
          clear hK K
          try simp only [Act.put, lay_out]
          refine wpAnyH_ready (rs := [13]) (by kernel_rfl) (by simp) (AllReadyH.cons rfl (fun K hK => ?_) AllReadyH.nil)
          rw [if_pos (by rfl)]
          go_simp
          go_at_call 18
          (with_reducible refine (HVV.out _ _ V2.out).mono ?_); rintro e y3 ⟨rfl, hb⟩
          have G3 := hid (G2.out.self hM hb)
          clear hb
          refine hK.out _ _ (⟨G3.out.bl 4 rfl, G3.out.bl 1 rfl, (HJ.out.self G3.out.z.low).bl 0 rfl⟩) (fun h4x => ?_)
          clear hK K
          try simp only [Act.put, lay_out]
          refine wpAnyH_ready (rs := [17]) (by kernel_rfl) (by simp) (AllReadyH.cons rfl (fun K hK => ?_) AllReadyH.nil)
          rw [if_pos (by rfl)]
          go_simp
          go_at_call 20
          (with_reducible refine (HTX.out _).mono ?_); rintro e y4 ⟨rfl, hb⟩
          have G4 := hid (G3.out.self hM hb)
          clear hb
          refine hK.out _ _ (⟨G4.out.bl 4 rfl, G4.out.bl 1 rfl, (HJ.out.self G4.out.z.low).bl 0 rfl⟩) (fun h5x => ?_)
          clear hK K
          try simp only [Act.put, lay_out]
          refine wpAnyH_ready (rs := [21]) (by kernel_rfl) (by simp) (AllReadyH.cons rfl (fun K hK => ?_) AllReadyH.nil)
          rw [if_pos (by rfl)]
          go_simp
          go_at_call 20
          (with_reducible refine (HTY.out _).mono ?_); rintro e y5 ⟨rfl, hb⟩
          have G5 := hid (G4.out.self hM hb)
          clear hb
          refine hK.out _ _ (⟨G5.out.bl 4 rfl, G5.out.bl 1 rfl, (HJ.out.self G5.out.z.low).bl 0 rfl⟩) (fun h6x => ?_)
          clear hK K
          try simp only [Act.put, lay_out]
          refine wpAnyH_take (i := 22) (v := .int .u64 (zz : Int)) rfl (by kernel_rfl) (by kernel_rfl) (by kernel_rfl) (fun _ _ _ h => h) (.inl ⟨by rfl, fun w hw => by clear hw; go_simp⟩) h6x ?_
          try simp only [Act.put, lay_out]
          refine wpAnyH_take (i := 23) (v := .bool true) rfl (by kernel_rfl) (by kernel_rfl) (by kernel_rfl) (fun _ _ _ h => h) (.inl ⟨by rfl, fun w hw => by clear hw; go_simp⟩) h6x ?_
          try simp only [Act.put, lay_out]
          refine wpAnyH_take (i := 24) (v := .bool true) rfl (by kernel_rfl) (by kernel_rfl) (by kernel_rfl) (fun _ _ _ h => h) (.inl ⟨by rfl, fun w hw => by clear hw; go_simp⟩) h6x ?_
          try simp only [Act.put, lay_out]
          refine wpAnyH_take (i := 25) (v := .bool true) rfl (by kernel_rfl) (by kernel_rfl) (by kernel_rfl) (fun _ _ _ h => h) (.inl ⟨by rfl, fun w hw => by clear hw; go_simp⟩) h6x ?_
          try simp only [Act.put, lay_out]
          refine wpAnyH_ready (rs := [26]) (by kernel_rfl) (by simp) (AllReadyH.cons rfl (fun K hK => ?_) AllReadyH.nil)
          rw [if_pos (by rfl)]
          go_simp
          go_at_call 17
          (with_reducible refine (HAW.out _ (HWJ.out.trans (G5.out.z.low.mono HWJ.out.size))).mono ?_); rintro e y6 ⟨rfl, hb⟩
          have G6 := hid (G5.out.self hM hb)
          clear hb
          refine hK.out _ _ (⟨G6.out.bl 4 rfl, G6.out.bl 1 rfl, (HJ.out.self G6.out.z.low).bl 0 rfl⟩) (fun h7x => ?_)
          clear hK K
          try simp only [Act.put, lay_out]
          refine wpAnyH_take (i := 27) (v := .bool true) rfl (by kernel_rfl) (by kernel_rfl) (by kernel_rfl) (fun _ _ _ h => h) (.inl ⟨by rfl, fun w hw => by clear hw; go_simp⟩) h7x ?_
          try simp only [Act.put, lay_out]
          refine wpAnyH_take (i := 28) (v := .bool true) rfl (by kernel_rfl) (by kernel_rfl) (by kernel_rfl) (fun _ _ _ h => h) (.inl ⟨by rfl, fun w hw => by clear hw; go_simp⟩) h7x ?_
          try simp only [Act.put, lay_out]
          refine wpAnyH_done (by kernel_rfl) ?_ _
          refine NoPanic.normal ?_
          clear h0 h1x h2x h3x h4x h5x h6x h7x
          try simp only [Act.put, lay_out]
          go_wp2
          go_ret
          exact ⟨rfl, HWJ.out.trans (G6.out.fin.1.low.mono HWJ.out.size)⟩
        · have q : ((S3.e : Int) != 0) = true := by simp; omega
          generalize S3.e = EE at *
          clear he HOK
          have HAL : Hid (Below W.heap.size W w16) := hid (HWJ.out.trans (H16.out.z.low.mono HWJ.out.size))
          go_wp2_with (go_at_call 17; (with_reducible refine (HAW.out _ HAL.out).mono ?_); rintro e wz ⟨rfl, hb⟩; have HZ := hid (HAL.out.trans (hb.mono HAL.out.size)); clear hb)
          go_ret
          exact ⟨rfl, HZ.out⟩
end Go.Proofs.Ytflfnaiklnbaiaa
