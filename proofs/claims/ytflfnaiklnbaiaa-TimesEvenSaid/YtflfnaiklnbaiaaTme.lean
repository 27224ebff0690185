import Derived.Test.YtflfnaiklnbaiaaSgw
/- Times: TimesEven, both counts. -/
namespace Go.Proofs.Ytflfnaiklnbaiaa
open Go.RowKit Go.Deep
set_option maxRecDepth 100000
set_option maxHeartbeats 25600000 in
theorem teven2_core {Pm : World → Nat → Ms → (Nat → Prop) → Prop} (hM : Mach Pm) (hN : MachN Pm) {V : World → (Nat → Prop) → Prop} (hT : TmI Pm V) (K : Int) (x y : Nat → Nat) (hx : ∀ i, x i < 2 ^ 64) (hy : ∀ i, y i < 2 ^ 64) (mv : Value) (O : Nat) (hO : O < 256) (W : World)
    (hV : ∀ (w' : World) (F : Nat → Prop), Below W.heap.size W w' → (∀ k, F k → W.heap.size ≤ k) → V w' F) :
    Calls Try.prog 4 #[.agg (asC false K x y mv), .int .u8 (O : Int)] W fun e w' => e = .returned (.bool true) ∧ Below W.heap.size W w' := by
  obtain ⟨D, hD⟩ : ∃ D, (K == 2) = D := ⟨_, rfl⟩
  have HV := hid hV
  have HFN : Hid (∀ w, Calls Try.prog 5 #[.agg (asC false K x y mv)] w fun e w' => e = .returned (.int .i64 2) ∧ Below w.heap.size w w') := hid (fun w => fn_any false K x y mv w)
  have HBG : Hid (∀ (k : Nat) (wx : World) (v : Value), RdS .u64 wx (fun g => g < wx.heap.size) v (wdL (twT k) 1) → Calls Try.prog 6 #[.int .i64 2, v, .int .i64 60] wx fun e w' => ∃ p b, e = .returned (.tuple #[.agg (paC p b (.slice none 0 0) (.slice none 0 0)), .bool true]) ∧ Bz Pm wx.heap.size (fun _ => False) wx w' p b (thS0 2 k) (thS0 2 k)) := hid (fun k wx v h => lbegins_any hM hN ((2 : Nat) : Int) 60 (by decide) (by decide) (by decide) (twT k) 1 v wx h)
  have HC1 := hid (fun (k : Nat) (W0 w0' wx : World) (p b : Nat) (bs : List (Nat × Obj)) (h : Gy Pm W0.heap.size (fun _ => False) W0 w0' wx p b (thS0 2 k) (thS0 2 k) bs) => h.lift (f := 11) (args := #[.pointer (some ⟨p, 0, none⟩), .int .i64 2, .agg (w3 x)]) (E := fun e => e = .returned (.agg (wdV (thA 2 k x)))) (S1' := thS1 2 k x) (fun X W hz => qlaid hM x hx hz (thS0_bq (by decide)) (by decide) (nn := 2) (by decide)))
  have HC2 := hid (fun (k : Nat) (W0 w0' wx : World) (p b : Nat) (bs : List (Nat × Obj)) (h : Gy Pm W0.heap.size (fun _ => False) W0 w0' wx p b (thS1 2 k x) (thS0 2 k) bs) => h.lift (f := 11) (args := #[.pointer (some ⟨p, 0, none⟩), .int .i64 2, .agg (w3 y)]) (E := fun e => e = .returned (.agg (wdV (thB 2 k x y)))) (S1' := thS2 2 k x y) (fun X W hz => qlaid hM y hy hz (thS1_bq (by decide) hx).1 (by decide) (nn := 2) (by decide)))
  have HCD := hid (fun (k : Nat) (W0 w0' wx : World) (p b : Nat) (bs : List (Nat × Obj)) (hd : D = true) (hb : Below W.heap.size W W0) (h : Gy Pm W0.heap.size (fun _ => False) W0 w0' wx p b (thS2 2 k x y) (thS0 2 k) bs) => h.lift (f := 21) (args := #[.pointer (some ⟨p, 0, none⟩), .agg (wdV (thA 2 k x)), .agg (wdV (thB 2 k x y))]) (E := fun e => e = .returned (.agg (wdV (thR 2 k D x y)))) (S1' := thS 2 k D x y) (fun X W' hz => by
    rw [hd]
    exact qdom hM hT (thA 2 k x) (thB 2 k x y) hz (fun F hF => HV.out wx F (hb.trans (h.z.low.mono hb.size)) (fun j hj => Nat.le_trans hb.size (hF j hj))) (thS2_bq (by decide) hx hy).1 (by decide) (by rw [thS2_n]; decide) (thS1_bq (by decide) hx).2 (thS2_bq (by decide) hx hy).2))
  have HCI := hid (fun (k : Nat) (W0 w0' wx : World) (p b : Nat) (bs : List (Nat × Obj)) (hd : D = false) (hb : Below W.heap.size W W0) (h : Gy Pm W0.heap.size (fun _ => False) W0 w0' wx p b (thS2 2 k x y) (thS0 2 k) bs) => h.lift (f := 22) (args := #[.pointer (some ⟨p, 0, none⟩), .agg (wdV (thA 2 k x)), .agg (wdV (thB 2 k x y))]) (E := fun e => e = .returned (.agg (wdV (thR 2 k D x y)))) (S1' := thS 2 k D x y) (fun X W' hz => by
    rw [hd]
    exact qisw hM hT (thA 2 k x) (thB 2 k x y) hz (fun F hF => HV.out wx F (hb.trans (h.z.low.mono hb.size)) (fun j hj => Nat.le_trans hb.size (hF j hj))) (thS2_bq (by decide) hx hy).1 (by decide) (by rw [thS2_n]; decide) (thS1_bq (by decide) hx).2 (thS2_bq (by decide) hx hy).2))
  have HVL := hid (fun (k : Nat) (W0 w0' wx : World) (p b : Nat) (bs : List (Nat × Obj)) (h : Gy Pm W0.heap.size (fun _ => False) W0 w0' wx p b (thS 2 k D x y) (thS0 2 k) bs) => h.asks hM (E := fun e w' => ∃ v, e = .returned v ∧ Rd .u64 w' v (wdL (thS 2 k D x y).v (thS 2 k D x y).L)) (f := 19) (args := #[.pointer (some ⟨p, 0, none⟩)]) (fun X W hz => (zvalues hM hz (thS_bq (by decide) hx hy D) (by decide)).mono fun _ _ ⟨v, e1, e2, e3⟩ => ⟨⟨v, e1, by rw [thS_keep] at e2; exact e2⟩, e3⟩))
  have HER : Hid (∀ (k : Nat) (W0 w0' wx : World) (p b : Nat) (bs : List (Nat × Obj)) (h : Gy Pm W0.heap.size (fun _ => False) W0 w0' wx p b (thS 2 k D x y) (thS0 2 k) bs), Calls Try.prog 23 #[.pointer (some ⟨p, 0, none⟩)] wx fun e w' => e = .returned (.int .i64 0) ∧ Below wx.heap.size wx w') := hid (fun k W0 w0' wx p b bs h => (zerr hM h.z (thS_bq (by decide) hx hy D) (by decide)).mono fun e w' ⟨e1, e3⟩ => ⟨by rw [(th_ok (by decide) k D x y).1] at e1; exact e1, e3⟩)
  have HOK := hid (fun (k : Nat) => (th_ok (n := 2) (by decide) k D x y).2)
  have HAW := hid (fun (w : World) (h : Below W.heap.size W w) => tawake2_any hM hN hT w (fun w' F hb hF => HV.out w' F (h.trans (hb.mono h.size)) (fun j hj => Nat.le_trans h.size (hF j hj))))
  obtain ⟨a8, ha8⟩ : ∃ a8, bit3 x = a8 := ⟨_, rfl⟩
  obtain ⟨b8, hb8⟩ : ∃ b8, bit3 y = b8 := ⟨_, rfl⟩
  have HA8 : Hid (a8 < 8) := hid (by rw [← ha8]; exact bit3_lt x)
  have HB8 : Hid (b8 < 8) := hid (by rw [← hb8]; exact bit3_lt y)
  simp only [ha8, hb8] at HOK
  obtain ⟨o, ho⟩ : ∃ o, O % 2 = o := ⟨_, rfl⟩
  have HO : Hid (o < 2) := hid (by rw [← ho]; exact Nat.mod_lt _ (by decide))
  have HEV := hid (evenT2 D a8 HA8.out b8 HB8.out o HO.out)
  have HRL := hid (rowT2 D a8 HA8.out b8 HB8.out o HO.out)
  have eo : ((O : Int)).tmod 2 = (o : Int) := by rw [Int.tmod_eq_emod_of_nonneg (by omega)]; omega
  have eO : IntKind.i64.wrap (O : Int) = (O : Int) := by rw [IntKind.wrap_i64]; omega
  have H1 := hid ((Bx.start W).new (asC false K x y mv) 26)
  obtain ⟨w1, hw1⟩ : ∃ w1, W.alloc (.cells (asC false K x y mv) 26) = w1 := ⟨_, rfl⟩
  rw [hw1] at H1
  have HW := hid hw1
  have HZ4 : Hid (ia 4 (cntT 2 D a8 b8 o 0) = #[.int .i64 0, .int .i64 0, .int .i64 0, .int .i64 0]) := hid rfl
  clear hw1 ho ha8 hb8 hx hy hV hO
  go_enter Try.func4, Try.ntmps4
  go_upto_region 1 with fail
  rw [HW.out]
  go_upto_region 3 with (first
    | (refine step_load_row rfl 26 _ rfl W.heap.size 26 (asC false K x y mv) _ rfl (H1.out.bl 0 rfl) Try.underlying26 rfl (by kernel_rfl) ?_)
    | (go_at_call 5; (with_reducible refine (HFN.out _).mono ?_); rintro e w2 ⟨rfl, hb⟩; have H2 := hid (H1.out.self hb); clear hb))
  have H3 := hid (H2.out.new (ia 4 (cntT 2 D a8 b8 o 0)) 58)
  obtain ⟨bC, hbC⟩ : ∃ bC, w2.heap.size = bC := ⟨_, rfl⟩
  rw [hbC] at H3
  obtain ⟨w3', hw3⟩ : ∃ w3', w2.alloc (.cells (ia 4 (cntT 2 D a8 b8 o 0)) 58) = w3' := ⟨_, rfl⟩
  rw [hw3] at H3
  rw [HZ4.out] at hw3
  have HW3 := hid hw3
  clear hw3
  go_upto_region 4 with fail
  rw [HW3.out]
  try rw [hbC]
  clear hbC HFN HZ4 HW HW3 H1 H2
  go_wp2
  go_loopw [8] (fun iv wr => ∃ k : Nat, k ≤ 2 ∧ iv = .int .i64 k ∧ Bx W.heap.size W wr [(bC, .cells (ia 4 (cntT 2 D a8 b8 o k)) 58 (0, 0)), (W.heap.size, .cells (asC false K x y mv) 26 (0, 0))]) (fun iv _ => 2 - (intOf iv).toNat)
  case atStart => exact ⟨0, by omega, rfl, H3.out⟩
  case round =>
    clear H3
    obtain ⟨k, hk, rfl, hI⟩ := hrel
    have HI := hid hI
    clear hI
    by_cases hlt : k < 2
    · have q0 : decide ((k : Int) < 8) = true := decide_eq_true (by omega)
      have q1 : decide ((k : Int) < 2) = true := decide_eq_true (by omega)
      have HK8 : Hid (k < 8) := hid (by omega)
      have HKK : Hid (k < 2) := hid hlt
      have HRK := hid (HRL.out k HK8.out)
      have HTW : Hid (∀ i, twT k i < 2 ^ 64) := hid (fun i => by unfold twT; omega)
      have B1 := hid ((Below.refl wr.heap.size wr).alloc (Nat.le_refl _) (.cells #[] 22))
      have O1 : Hid (Own .u64 wr.heap.size 22 (wr.alloc (.cells #[] 22)) (.slice (some ⟨wr.heap.size, 0, none⟩) 0 0) (wdL (twT k) 0)) := hid (own_empty wr (Nat.le_refl _))
      go_upto_region 8 with fail
      go_wp2
      obtain ⟨wo, hwo⟩ : ∃ wo, wr = wo := ⟨_, rfl⟩
      subst hwo
      obtain ⟨w4, hw4⟩ : ∃ w4, wr.alloc (.cells #[] 22) = w4 := ⟨_, rfl⟩
      rw [hw4] at B1 O1
      try rw [hw4]
      clear hw4
      have HWR := HI
      obtain ⟨wb, hwb⟩ : ∃ wb, wr = wb := ⟨_, rfl⟩
      rw [hwb] at B1 O1 HI HWR ⊢
      clear hwb HWR
      go_loopw [9, 10] (fun v iv wr => ∃ j : Nat, j ≤ 1 ∧ iv = .int .i64 j ∧ Own .u64 wb.heap.size 22 wr v (wdL (twT k) j) ∧ Below wb.heap.size wb wr) (fun _ iv _ => 1 - (intOf iv).toNat)
      case atStart => exact ⟨0, by omega, rfl, O1.out, B1.out⟩
      case round =>
        clear O1 B1
        obtain ⟨j, hj, rfl, hO, hB⟩ := hrel
        have HOW := hid hO
        have HB := hid hB
        clear hO hB
        by_cases hjm : j < 1
        · have j1 : (j : Int) < 1 := by omega
          have j0 : (0 : Int) ≤ (j : Int) := by omega
          have hj3 : j < 3 := by omega
          have e1 : IntKind.u64.wrap (j : Int) = (j : Int) := by rcases (by omega : j = 0 ∨ j = 1 ∨ j = 2) with rfl | rfl | rfl <;> rfl
          have e2 : min j 64 = j := by omega
          have HNX := hid (wdL_next (twT k) j)
          have e3 : ((k : Int) / 2 ^ j).tmod 2 = ((twT k j : Nat) : Int) := by
            have := HK8.out
            unfold twT
            rcases (by omega : j = 0 ∨ j = 1 ∨ j = 2) with rfl | rfl | rfl <;> rcases (by omega : k = 0 ∨ k = 1 ∨ k = 2 ∨ k = 3 ∨ k = 4 ∨ k = 5 ∨ k = 6 ∨ k = 7) with rfl | rfl | rfl | rfl | rfl | rfl | rfl | rfl <;> rfl
          have e4 : IntKind.u64.wrap ((twT k j : Nat) : Int) = ((twT k j : Nat) : Int) := by
            have : twT k j = 0 ∨ twT k j = 1 := by unfold twT; omega
            rcases this with h | h <;> rw [h] <;> rfl
          have HLI : Hid (((wdL (twT k) j).length + 1) * (IntKind.u64.bits / 8) ≤ 140737488355328) := hid (by rw [wdL_len, show IntKind.u64.bits / 8 = 8 from rfl]; omega)
          clear hj3
          generalize hzz : twT k j = z at *
          clear hzz
          go_wp2_with (refine wpList_append_ints rfl (.tmp 46) (.tmp 53) 24 rfl .u64 wb.heap.size 22 Try.underlying24 (by kernel_rfl) (by decide) _ _ rfl (HOW.out.alloc _) ⟨_, 0, none⟩ 1 1 [(z : Int)] rfl rfl (cell_new_int _ .u64 _ 22) HLI.out (Nat.le_trans HB.out.size (by simp)) wb.heap.size wb (HB.out.alloc HB.out.size _) (Nat.le_refl _) ?_; intro v2 w2 hO2 hL2 _)
          go_roundw
          case rel => exact ⟨j + 1, by omega, by go_num, by rw [HNX.out]; exact hO2, hL2⟩
          case measure => simp [intOf]; omega
        · obtain rfl : j = 1 := by omega
          clear hjm hj
          rw [show ((1 : Nat) : Int) = 1 from rfl]
          have HJ := hid (HI.out.self HB.out)
          have HJL : Hid (Below W.heap.size W wr) := hid HJ.out.low
          have HRS := hid (own_rdS HOW.out (wdL_wf HTW.out) (by rw [wdL_len]; omega))
          have HBK := hid (HBG.out k _ _ HRS.out)
          have HOKK := hid (HOK.out k)
          have HC1 := hid (HC1.out k)
          have HC2 := hid (HC2.out k)
          have HCD := hid (HCD.out k)
          have HCI := hid (HCI.out k)
          have HVL := hid (HVL.out k)
          have HER := hid (HER.out k)
          obtain ⟨R3, hR3⟩ : ∃ R3, thR 2 k D x y = R3 := ⟨_, rfl⟩
          obtain ⟨S3, hS3⟩ : ∃ S3, thS 2 k D x y = S3 := ⟨_, rfl⟩
          obtain ⟨S2, hS2⟩ : ∃ S2, thS2 2 k x y = S2 := ⟨_, rfl⟩
          obtain ⟨S1, hS1⟩ : ∃ S1, thS1 2 k x = S1 := ⟨_, rfl⟩
          obtain ⟨S0, hS0⟩ : ∃ S0, thS0 2 k = S0 := ⟨_, rfl⟩
          obtain ⟨A0, hA0⟩ : ∃ A0, thA 2 k x = A0 := ⟨_, rfl⟩
          obtain ⟨B0, hB0⟩ : ∃ B0, thB 2 k x y = B0 := ⟨_, rfl⟩
          simp only [hR3, hS3, hS2, hS1, hS0, hA0, hB0] at HBK HC1 HC2 HCD HCI HVL HER HOKK
          clear hR3 hS3 hS2 hS1 hS0 hA0 hB0
          go_upto_region 13 with (go_at_call 6; (with_reducible refine (HBK.out).mono ?_); rintro e w2 ⟨p, b, rfl, hz⟩; have Z2 := hid hz; clear hz)
          have H3 := hid ((Gy.start Z2.out).new hM (paC p b (.slice none 0 0) (.slice none 0 0)) 32)
          obtain ⟨b11, hb1⟩ : ∃ b11, w2.heap.size = b11 := ⟨_, rfl⟩
          rw [hb1] at H3
          generalize w2.alloc (.cells #[.pointer (some ⟨p, 0, none⟩), .pointer (some ⟨b, 0, none⟩), .slice none 0 0, .slice none 0 0] 32) = w3' at *
          rw [hb1]
          clear hb1 HBK HRS
          go_upto_region 15 with fail
          go_cut [13, 14] from 63 to 74 (fun q13 q14 wx => ∃ b13 b14, q13 = .pointer (some ⟨b13, 0, none⟩) ∧ q14 = .pointer (some ⟨b14, 0, none⟩) ∧ Gy Pm wr.heap.size (fun _ => False) wr w2 wx p b S2 S0 [(b14, .cells (wdV B0) 39 (0, 0)), (b13, .cells (wdV A0) 39 (0, 0)), (b11, .cells (paC p b (.slice none 0 0) (.slice none 0 0)) 32 (0, 0))])
          case first =>
            have G0 := hid (H3.out.self hM ((Below.refl _ w3').drew))
            refine wp_region_noPanic ?_
            refine wp_region_held_drew (S := fun w' => w'.heap[b11]? = some (.cells (paC p b (.slice none 0 0) (.slice none 0 0)) 32 (0, 0)) ∧ w'.heap[W.heap.size]? = some (.cells (asC false K x y mv) 26 (0, 0))) (by kernel_rfl) (⟨G0.out.bl 0 rfl, (HJ.out.self G0.out.z.low).bl 1 rfl⟩) (fun h0 => ?_)
            generalize w3'.drew = y0 at *
            refine wpAnyH_take (i := 0) (v := .pointer (some ⟨b11, 0, none⟩)) rfl (by kernel_rfl) (by kernel_rfl) (by kernel_rfl) (fun _ _ _ h => h) (.inl ⟨by rfl, fun w hw => by clear hw; go_simp⟩) h0 ?_
            try simp only [Act.put, lay_out]
            refine wpAnyH_take (i := 1) (v := .pointer (some ⟨p, 0, none⟩)) rfl (by kernel_rfl) (by kernel_rfl) (by kernel_rfl) (fun _ _ _ h => h) (.inl ⟨by rfl, fun w' hw => by have hc := row_c (i := 0) (u := .pointer (some ⟨p, 0, none⟩)) hw.1 rfl; clear hw; go_simp⟩) h0 ?_
            try simp only [Act.put, lay_out]
            refine wpAnyH_take (i := 2) (v := .int .i64 2) rfl (by kernel_rfl) (by kernel_rfl) (by kernel_rfl) (fun _ _ _ h => h) (.inl ⟨by rfl, fun w hw => by clear hw; go_simp⟩) h0 ?_
            try simp only [Act.put, lay_out]
            refine wpAnyH_take (i := 3) (v := .pointer (some ⟨W.heap.size, 2, none⟩)) rfl (by kernel_rfl) (by kernel_rfl) (by kernel_rfl) (fun _ _ _ h => h) (.inl ⟨by rfl, fun w hw => by clear hw; go_simp⟩) h0 ?_
            try simp only [Act.put, lay_out]
            refine wpAnyH_take (i := 4) (v := .agg (w3 x)) rfl (by kernel_rfl) (by kernel_rfl) (by kernel_rfl) (fun _ _ _ h => h) (yields_load_w3 (by rfl) _ rfl W.heap.size 2 x rfl (fun w h => asC_x h.2)) h0 ?_
            try simp only [Act.put, lay_out]
            refine wpAnyH_take (i := 6) (v := .pointer (some ⟨b11, 0, none⟩)) rfl (by kernel_rfl) (by kernel_rfl) (by kernel_rfl) (fun _ _ _ h => h) (.inl ⟨by rfl, fun w hw => by clear hw; go_simp⟩) h0 ?_
            try simp only [Act.put, lay_out]
            refine wpAnyH_take (i := 7) (v := .pointer (some ⟨p, 0, none⟩)) rfl (by kernel_rfl) (by kernel_rfl) (by kernel_rfl) (fun _ _ _ h => h) (.inl ⟨by rfl, fun w' hw => by have hc := row_c (i := 0) (u := .pointer (some ⟨p, 0, none⟩)) hw.1 rfl; clear hw; go_simp⟩) h0 ?_
            try simp only [Act.put, lay_out]
            refine wpAnyH_take (i := 8) (v := .int .i64 2) rfl (by kernel_rfl) (by kernel_rfl) (by kernel_rfl) (fun _ _ _ h => h) (.inl ⟨by rfl, fun w hw => by clear hw; go_simp⟩) h0 ?_
            try simp only [Act.put, lay_out]
            refine wpAnyH_take (i := 9) (v := .pointer (some ⟨W.heap.size, 5, none⟩)) rfl (by kernel_rfl) (by kernel_rfl) (by kernel_rfl) (fun _ _ _ h => h) (.inl ⟨by rfl, fun w hw => by clear hw; go_simp⟩) h0 ?_
            try simp only [Act.put, lay_out]
            refine wpAnyH_take (i := 10) (v := .agg (w3 y)) rfl (by kernel_rfl) (by kernel_rfl) (by kernel_rfl) (fun _ _ _ h => h) (yields_load_w3 (by rfl) _ rfl W.heap.size 5 y rfl (fun w h => asC_y h.2)) h0 ?_
            try simp only [Act.put, lay_out]
            refine wpAnyH_ready (rs := [5, 12, 13]) (by kernel_rfl) (by simp) (AllReadyH.cons rfl (fun K hK => ?_) (AllReadyH.cons rfl (fun K hK => ?_) (AllReadyH.cons rfl (fun K hK => ?_) AllReadyH.nil)))
            · rw [if_pos (by rfl)]
              go_simp
              go_at_call 11
              (with_reducible refine (HC1.out _ _ _ _ _ _ G0.out).mono ?_); rintro e y1 ⟨rfl, hz⟩
              have G1 := hid hz
              clear hz
              refine hK.out _ _ (⟨G1.out.bl 0 rfl, (HJ.out.self G1.out.z.low).bl 1 rfl⟩) (fun h1x => ?_)
              clear hK K
              try simp only [Act.put, lay_out]
              refine wpAnyH_ready (rs := [11, 12, 13]) (by kernel_rfl) (by simp) (AllReadyH.cons rfl (fun K hK => ?_) (AllReadyH.cons rfl (fun K hK => ?_) (AllReadyH.cons rfl (fun K hK => ?_) AllReadyH.nil)))
              · rw [if_pos (by rfl)]
                go_simp
                go_at_call 11
                (with_reducible refine (HC2.out _ _ _ _ _ _ G1.out).mono ?_); rintro e y2 ⟨rfl, hz⟩
                have G2 := hid hz
                clear hz
                refine hK.out _ _ (⟨G2.out.bl 0 rfl, (HJ.out.self G2.out.z.low).bl 1 rfl⟩) (fun h2x => ?_)
                clear hK K
                try simp only [Act.put, lay_out]
                refine wpAnyH_ready (rs := [12, 13]) (by kernel_rfl) (by simp) (AllReadyH.cons rfl (fun K hK => ?_) (AllReadyH.cons rfl (fun K hK => ?_) AllReadyH.nil))
                · rw [if_pos (by rfl)]
                  go_simp
                  have G3 := hid (G2.out.new hM #[.int .i64 0, .int .i64 0, .int .i64 0] 39)
                  refine hK.out _ _ (⟨G3.out.bl 1 rfl, (HJ.out.self G3.out.z.low).bl 1 rfl⟩) (fun h3x => ?_)
                  clear hK K
                  try simp only [Act.put, lay_out]
                  generalize y2.alloc (.cells #[.int .i64 0, .int .i64 0, .int .i64 0] 39) = y3 at *
                  refine wpAnyH_ready (rs := [13]) (by kernel_rfl) (by simp) (AllReadyH.cons rfl (fun K hK => ?_) AllReadyH.nil)
                  rw [if_pos (by rfl)]
                  go_simp
                  have G4 := hid (G3.out.new hM #[.int .i64 0, .int .i64 0, .int .i64 0] 39)
                  refine hK.out _ _ (⟨G4.out.bl 2 rfl, (HJ.out.self G4.out.z.low).bl 1 rfl⟩) (fun h4x => ?_)
                  clear hK K
                  try simp only [Act.put, lay_out]
                  generalize y3.alloc (.cells #[.int .i64 0, .int .i64 0, .int .i64 0] 39) = y4 at *
                  have G5 := hid G4.out.swap
                  refine wpAnyH_ready (rs := [14]) (by kernel_rfl) (by simp) (AllReadyH.cons rfl (fun K hK => ?_) AllReadyH.nil)
                  rw [if_pos (by rfl)]
                  refine wp_store_row 39 _ _ rfl (y2.heap.size) (wdV A0) rfl rfl 39 _ (G5.out.bl 0 rfl) (by kernel_rfl) rfl (by kernel_rfl) ?_
                  have G6 := hid (G5.out.row hM (wdV A0))
                  refine hK.out _ _ (⟨G6.out.bl 2 rfl, (HJ.out.self G6.out.z.low).bl 1 rfl⟩) (fun h5x => ?_)
                  clear hK K
                  try simp only [Act.put, lay_out]
                  have G7 := hid G6.out.swap
                  refine wpAnyH_ready (rs := [15]) (by kernel_rfl) (by simp) (AllReadyH.cons rfl (fun K hK => ?_) AllReadyH.nil)
                  rw [if_pos (by rfl)]
                  refine wp_store_row 39 _ _ rfl (y3.heap.size) (wdV B0) rfl rfl 39 _ (G7.out.bl 0 rfl) (by kernel_rfl) rfl (by kernel_rfl) ?_
                  have G8 := hid (G7.out.row hM (wdV B0))
                  refine hK.out _ _ (⟨G8.out.bl 2 rfl, (HJ.out.self G8.out.z.low).bl 1 rfl⟩) (fun h6x => ?_)
                  clear hK K
                  try simp only [Act.put, lay_out]
                  refine wpAnyH_done (by kernel_rfl) ?_ _
                  refine NoPanic.normal ?_
                  clear h0 h1x h2x h3x h4x h5x h6x
                  try simp only [Act.put, lay_out]
                  go_wp2_with fail
                  go_meet
                  exact ⟨_, _, rfl, rfl, G8.out⟩
                · rw [if_pos (by rfl)]
                  go_simp
                  have G3 := hid (G2.out.new hM #[.int .i64 0, .int .i64 0, .int .i64 0] 39)
                  refine hK.out _ _ (⟨G3.out.bl 1 rfl, (HJ.out.self G3.out.z.low).bl 1 rfl⟩) (fun h3x => ?_)
                  clear hK K
                  try simp only [Act.put, lay_out]
                  generalize y2.alloc (.cells #[.int .i64 0, .int .i64 0, .int .i64 0] 39) = y3 at *
                  refine wpAnyH_ready (rs := [12]) (by kernel_rfl) (by simp) (AllReadyH.cons rfl (fun K hK => ?_) AllReadyH.nil)
                  rw [if_pos (by rfl)]
                  go_simp
                  have G4 := hid (G3.out.new hM #[.int .i64 0, .int .i64 0, .int .i64 0] 39)
                  refine hK.out _ _ (⟨G4.out.bl 2 rfl, (HJ.out.self G4.out.z.low).bl 1 rfl⟩) (fun h4x => ?_)
                  clear hK K
                  try simp only [Act.put, lay_out]
                  generalize y3.alloc (.cells #[.int .i64 0, .int .i64 0, .int .i64 0] 39) = y4 at *
                  refine wpAnyH_ready (rs := [14]) (by kernel_rfl) (by simp) (AllReadyH.cons rfl (fun K hK => ?_) AllReadyH.nil)
                  rw [if_pos (by rfl)]
                  refine wp_store_row 39 _ _ rfl (y3.heap.size) (wdV A0) rfl rfl 39 _ (G4.out.bl 0 rfl) (by kernel_rfl) rfl (by kernel_rfl) ?_
                  have G5 := hid (G4.out.row hM (wdV A0))
                  refine hK.out _ _ (⟨G5.out.bl 2 rfl, (HJ.out.self G5.out.z.low).bl 1 rfl⟩) (fun h5x => ?_)
                  clear hK K
                  try simp only [Act.put, lay_out]
                  have G6 := hid G5.out.swap
                  refine wpAnyH_ready (rs := [15]) (by kernel_rfl) (by simp) (AllReadyH.cons rfl (fun K hK => ?_) AllReadyH.nil)
                  rw [if_pos (by rfl)]
                  refine wp_store_row 39 _ _ rfl (y2.heap.size) (wdV B0) rfl rfl 39 _ (G6.out.bl 0 rfl) (by kernel_rfl) rfl (by kernel_rfl) ?_
                  have G7 := hid (G6.out.row hM (wdV B0))
                  refine hK.out _ _ (⟨G7.out.bl 2 rfl, (HJ.out.self G7.out.z.low).bl 1 rfl⟩) (fun h6x => ?_)
                  clear hK K
                  try simp only [Act.put, lay_out]
                  refine wpAnyH_done (by kernel_rfl) ?_ _
                  refine NoPanic.normal ?_
                  clear h0 h1x h2x h3x h4x h5x h6x
                  try simp only [Act.put, lay_out]
                  go_wp2_with fail
                  go_meet
                  exact ⟨_, _, rfl, rfl, G7.out⟩
              · rw [if_pos (by rfl)]
                go_simp
                have G2 := hid (G1.out.new hM #[.int .i64 0, .int .i64 0, .int .i64 0] 39)
                refine hK.out _ _ (⟨G2.out.bl 1 rfl, (HJ.out.self G2.out.z.low).bl 1 rfl⟩) (fun h2x => ?_)
                clear hK K
                try simp only [Act.put, lay_out]
                generalize y1.alloc (.cells #[.int .i64 0, .int .i64 0, .int .i64 0] 39) = y2 at *
                refine wpAnyH_ready (rs := [11, 13]) (by kernel_rfl) (by simp) (AllReadyH.cons rfl (fun K hK => ?_) (AllReadyH.cons rfl (fun K hK => ?_) AllReadyH.nil))
                · rw [if_pos (by rfl)]
                  go_simp
                  go_at_call 11
                  (with_reducible refine (HC2.out _ _ _ _ _ _ G2.out).mono ?_); rintro e y3 ⟨rfl, hz⟩
                  have G3 := hid hz
                  clear hz
                  refine hK.out _ _ (⟨G3.out.bl 1 rfl, (HJ.out.self G3.out.z.low).bl 1 rfl⟩) (fun h3x => ?_)
                  clear hK K
                  try simp only [Act.put, lay_out]
                  refine wpAnyH_ready (rs := [13]) (by kernel_rfl) (by simp) (AllReadyH.cons rfl (fun K hK => ?_) AllReadyH.nil)
                  rw [if_pos (by rfl)]
                  go_simp
                  have G4 := hid (G3.out.new hM #[.int .i64 0, .int .i64 0, .int .i64 0] 39)
                  refine hK.out _ _ (⟨G4.out.bl 2 rfl, (HJ.out.self G4.out.z.low).bl 1 rfl⟩) (fun h4x => ?_)
                  clear hK K
                  try simp only [Act.put, lay_out]
                  generalize y3.alloc (.cells #[.int .i64 0, .int .i64 0, .int .i64 0] 39) = y4 at *
                  have G5 := hid G4.out.swap
                  refine wpAnyH_ready (rs := [14]) (by kernel_rfl) (by simp) (AllReadyH.cons rfl (fun K hK => ?_) AllReadyH.nil)
                  rw [if_pos (by rfl)]
                  refine wp_store_row 39 _ _ rfl (y1.heap.size) (wdV A0) rfl rfl 39 _ (G5.out.bl 0 rfl) (by kernel_rfl) rfl (by kernel_rfl) ?_
                  have G6 := hid (G5.out.row hM (wdV A0))
                  refine hK.out _ _ (⟨G6.out.bl 2 rfl, (HJ.out.self G6.out.z.low).bl 1 rfl⟩) (fun h5x => ?_)
                  clear hK K
                  try simp only [Act.put, lay_out]
                  have G7 := hid G6.out.swap
                  refine wpAnyH_ready (rs := [15]) (by kernel_rfl) (by simp) (AllReadyH.cons rfl (fun K hK => ?_) AllReadyH.nil)
                  rw [if_pos (by rfl)]
                  refine wp_store_row 39 _ _ rfl (y3.heap.size) (wdV B0) rfl rfl 39 _ (G7.out.bl 0 rfl) (by kernel_rfl) rfl (by kernel_rfl) ?_
                  have G8 := hid (G7.out.row hM (wdV B0))
                  refine hK.out _ _ (⟨G8.out.bl 2 rfl, (HJ.out.self G8.out.z.low).bl 1 rfl⟩) (fun h6x => ?_)
                  clear hK K
                  try simp only [Act.put, lay_out]
                  refine wpAnyH_done (by kernel_rfl) ?_ _
                  refine NoPanic.normal ?_
                  clear h0 h1x h2x h3x h4x h5x h6x
                  try simp only [Act.put, lay_out]
                  go_wp2_with fail
                  go_meet
                  exact ⟨_, _, rfl, rfl, G8.out⟩
                · rw [if_pos (by rfl)]
                  go_simp
                  have G3 := hid (G2.out.new hM #[.int .i64 0, .int .i64 0, .int .i64 0] 39)
                  refine hK.out _ _ (⟨G3.out.bl 2 rfl, (HJ.out.self G3.out.z.low).bl 1 rfl⟩) (fun h3x => ?_)
                  clear hK K
                  try simp only [Act.put, lay_out]
                  generalize y2.alloc (.cells #[.int .i64 0, .int .i64 0, .int .i64 0] 39) = y3 at *
                  refine wpAnyH_ready (rs := [11]) (by kernel_rfl) (by simp) (AllReadyH.cons rfl (fun K hK => ?_) AllReadyH.nil)
                  rw [if_pos (by rfl)]
                  go_simp
                  go_at_call 11
                  (with_reducible refine (HC2.out _ _ _ _ _ _ G3.out).mono ?_); rintro e y4 ⟨rfl, hz⟩
                  have G4 := hid hz
                  clear hz
                  refine hK.out _ _ (⟨G4.out.bl 2 rfl, (HJ.out.self G4.out.z.low).bl 1 rfl⟩) (fun h4x => ?_)
                  clear hK K
                  try simp only [Act.put, lay_out]
                  have G5 := hid G4.out.swap
                  refine wpAnyH_ready (rs := [14]) (by kernel_rfl) (by simp) (AllReadyH.cons rfl (fun K hK => ?_) AllReadyH.nil)
                  rw [if_pos (by rfl)]
                  refine wp_store_row 39 _ _ rfl (y1.heap.size) (wdV A0) rfl rfl 39 _ (G5.out.bl 0 rfl) (by kernel_rfl) rfl (by kernel_rfl) ?_
                  have G6 := hid (G5.out.row hM (wdV A0))
                  refine hK.out _ _ (⟨G6.out.bl 2 rfl, (HJ.out.self G6.out.z.low).bl 1 rfl⟩) (fun h5x => ?_)
                  clear hK K
                  try simp only [Act.put, lay_out]
                  have G7 := hid G6.out.swap
                  refine wpAnyH_ready (rs := [15]) (by kernel_rfl) (by simp) (AllReadyH.cons rfl (fun K hK => ?_) AllReadyH.nil)
                  rw [if_pos (by rfl)]
                  refine wp_store_row 39 _ _ rfl (y2.heap.size) (wdV B0) rfl rfl 39 _ (G7.out.bl 0 rfl) (by kernel_rfl) rfl (by kernel_rfl) ?_
                  have G8 := hid (G7.out.row hM (wdV B0))
                  refine hK.out _ _ (⟨G8.out.bl 2 rfl, (HJ.out.self G8.out.z.low).bl 1 rfl⟩) (fun h6x => ?_)
                  clear hK K
                  try simp only [Act.put, lay_out]
                  refine wpAnyH_done (by kernel_rfl) ?_ _
                  refine NoPanic.normal ?_
                  clear h0 h1x h2x h3x h4x h5x h6x
                  try simp only [Act.put, lay_out]
                  go_wp2_with fail
                  go_meet
                  exact ⟨_, _, rfl, rfl, G8.out⟩
              · rw [if_pos (by rfl)]
                go_simp
                have G2 := hid (G1.out.new hM #[.int .i64 0, .int .i64 0, .int .i64 0] 39)
                refine hK.out _ _ (⟨G2.out.bl 1 rfl, (HJ.out.self G2.out.z.low).bl 1 rfl⟩) (fun h2x => ?_)
                clear hK K
                try simp only [Act.put, lay_out]
                generalize y1.alloc (.cells #[.int .i64 0, .int .i64 0, .int .i64 0] 39) = y2 at *
                refine wpAnyH_ready (rs := [11, 12]) (by kernel_rfl) (by simp) (AllReadyH.cons rfl (fun K hK => ?_) (AllReadyH.cons rfl (fun K hK => ?_) AllReadyH.nil))
                · rw [if_pos (by rfl)]
                  go_simp
                  go_at_call 11
                  (with_reducible refine (HC2.out _ _ _ _ _ _ G2.out).mono ?_); rintro e y3 ⟨rfl, hz⟩
                  have G3 := hid hz
                  clear hz
                  refine hK.out _ _ (⟨G3.out.bl 1 rfl, (HJ.out.self G3.out.z.low).bl 1 rfl⟩) (fun h3x => ?_)
                  clear hK K
                  try simp only [Act.put, lay_out]
                  refine wpAnyH_ready (rs := [12]) (by kernel_rfl) (by simp) (AllReadyH.cons rfl (fun K hK => ?_) AllReadyH.nil)
                  rw [if_pos (by rfl)]
                  go_simp
                  have G4 := hid (G3.out.new hM #[.int .i64 0, .int .i64 0, .int .i64 0] 39)
                  refine hK.out _ _ (⟨G4.out.bl 2 rfl, (HJ.out.self G4.out.z.low).bl 1 rfl⟩) (fun h4x => ?_)
                  clear hK K
                  try simp only [Act.put, lay_out]
                  generalize y3.alloc (.cells #[.int .i64 0, .int .i64 0, .int .i64 0] 39) = y4 at *
                  refine wpAnyH_ready (rs := [14]) (by kernel_rfl) (by simp) (AllReadyH.cons rfl (fun K hK => ?_) AllReadyH.nil)
                  rw [if_pos (by rfl)]
                  refine wp_store_row 39 _ _ rfl (y3.heap.size) (wdV A0) rfl rfl 39 _ (G4.out.bl 0 rfl) (by kernel_rfl) rfl (by kernel_rfl) ?_
                  have G5 := hid (G4.out.row hM (wdV A0))
                  refine hK.out _ _ (⟨G5.out.bl 2 rfl, (HJ.out.self G5.out.z.low).bl 1 rfl⟩) (fun h5x => ?_)
                  clear hK K
                  try simp only [Act.put, lay_out]
                  have G6 := hid G5.out.swap
                  refine wpAnyH_ready (rs := [15]) (by kernel_rfl) (by simp) (AllReadyH.cons rfl (fun K hK => ?_) AllReadyH.nil)
                  rw [if_pos (by rfl)]
                  refine wp_store_row 39 _ _ rfl (y1.heap.size) (wdV B0) rfl rfl 39 _ (G6.out.bl 0 rfl) (by kernel_rfl) rfl (by kernel_rfl) ?_
                  have G7 := hid (G6.out.row hM (wdV B0))
                  refine hK.out _ _ (⟨G7.out.bl 2 rfl, (HJ.out.self G7.out.z.low).bl 1 rfl⟩) (fun h6x => ?_)
                  clear hK K
                  try simp only [Act.put, lay_out]
                  refine wpAnyH_done (by kernel_rfl) ?_ _
                  refine NoPanic.normal ?_
                  clear h0 h1x h2x h3x h4x h5x h6x
                  try simp only [Act.put, lay_out]
                  go_wp2_with fail
                  go_meet
                  exact ⟨_, _, rfl, rfl, G7.out⟩
                · rw [if_pos (by rfl)]
                  go_simp
                  have G3 := hid (G2.out.new hM #[.int .i64 0, .int .i64 0, .int .i64 0] 39)
                  refine hK.out _ _ (⟨G3.out.bl 2 rfl, (HJ.out.self G3.out.z.low).bl 1 rfl⟩) (fun h3x => ?_)
                  clear hK K
                  try simp only [Act.put, lay_out]
                  generalize y2.alloc (.cells #[.int .i64 0, .int .i64 0, .int .i64 0] 39) = y3 at *
                  refine wpAnyH_ready (rs := [11]) (by kernel_rfl) (by simp) (AllReadyH.cons rfl (fun K hK => ?_) AllReadyH.nil)
                  rw [if_pos (by rfl)]
                  go_simp
                  go_at_call 11
                  (with_reducible refine (HC2.out _ _ _ _ _ _ G3.out).mono ?_); rintro e y4 ⟨rfl, hz⟩
                  have G4 := hid hz
                  clear hz
                  refine hK.out _ _ (⟨G4.out.bl 2 rfl, (HJ.out.self G4.out.z.low).bl 1 rfl⟩) (fun h4x => ?_)
                  clear hK K
                  try simp only [Act.put, lay_out]
                  refine wpAnyH_ready (rs := [14]) (by kernel_rfl) (by simp) (AllReadyH.cons rfl (fun K hK => ?_) AllReadyH.nil)
                  rw [if_pos (by rfl)]
                  refine wp_store_row 39 _ _ rfl (y2.heap.size) (wdV A0) rfl rfl 39 _ (G4.out.bl 0 rfl) (by kernel_rfl) rfl (by kernel_rfl) ?_
                  have G5 := hid (G4.out.row hM (wdV A0))
                  refine hK.out _ _ (⟨G5.out.bl 2 rfl, (HJ.out.self G5.out.z.low).bl 1 rfl⟩) (fun h5x => ?_)
                  clear hK K
                  try simp only [Act.put, lay_out]
                  have G6 := hid G5.out.swap
                  refine wpAnyH_ready (rs := [15]) (by kernel_rfl) (by simp) (AllReadyH.cons rfl (fun K hK => ?_) AllReadyH.nil)
                  rw [if_pos (by rfl)]
                  refine wp_store_row 39 _ _ rfl (y1.heap.size) (wdV B0) rfl rfl 39 _ (G6.out.bl 0 rfl) (by kernel_rfl) rfl (by kernel_rfl) ?_
                  have G7 := hid (G6.out.row hM (wdV B0))
                  refine hK.out _ _ (⟨G7.out.bl 2 rfl, (HJ.out.self G7.out.z.low).bl 1 rfl⟩) (fun h6x => ?_)
                  clear hK K
                  try simp only [Act.put, lay_out]
                  refine wpAnyH_done (by kernel_rfl) ?_ _
                  refine NoPanic.normal ?_
                  clear h0 h1x h2x h3x h4x h5x h6x
                  try simp only [Act.put, lay_out]
                  go_wp2_with fail
                  go_meet
                  exact ⟨_, _, rfl, rfl, G7.out⟩
            · rw [if_pos (by rfl)]
              go_simp
              have G1 := hid (G0.out.new hM #[.int .i64 0, .int .i64 0, .int .i64 0] 39)
              refine hK.out _ _ (⟨G1.out.bl 1 rfl, (HJ.out.self G1.out.z.low).bl 1 rfl⟩) (fun h1x => ?_)
              clear hK K
              try simp only [Act.put, lay_out]
              generalize y0.alloc (.cells #[.int .i64 0, .int .i64 0, .int .i64 0] 39) = y1 at *
              refine wpAnyH_ready (rs := [5, 13]) (by kernel_rfl) (by simp) (AllReadyH.cons rfl (fun K hK => ?_) (AllReadyH.cons rfl (fun K hK => ?_) AllReadyH.nil))
              · rw [if_pos (by rfl)]
                go_simp
                go_at_call 11
                (with_reducible refine (HC1.out _ _ _ _ _ _ G1.out).mono ?_); rintro e y2 ⟨rfl, hz⟩
                have G2 := hid hz
                clear hz
                refine hK.out _ _ (⟨G2.out.bl 1 rfl, (HJ.out.self G2.out.z.low).bl 1 rfl⟩) (fun h2x => ?_)
                clear hK K
                try simp only [Act.put, lay_out]
                refine wpAnyH_ready (rs := [11, 13]) (by kernel_rfl) (by simp) (AllReadyH.cons rfl (fun K hK => ?_) (AllReadyH.cons rfl (fun K hK => ?_) AllReadyH.nil))
                · rw [if_pos (by rfl)]
                  go_simp
                  go_at_call 11
                  (with_reducible refine (HC2.out _ _ _ _ _ _ G2.out).mono ?_); rintro e y3 ⟨rfl, hz⟩
                  have G3 := hid hz
                  clear hz
                  refine hK.out _ _ (⟨G3.out.bl 1 rfl, (HJ.out.self G3.out.z.low).bl 1 rfl⟩) (fun h3x => ?_)
                  clear hK K
                  try simp only [Act.put, lay_out]
                  refine wpAnyH_ready (rs := [13]) (by kernel_rfl) (by simp) (AllReadyH.cons rfl (fun K hK => ?_) AllReadyH.nil)
                  rw [if_pos (by rfl)]
                  go_simp
                  have G4 := hid (G3.out.new hM #[.int .i64 0, .int .i64 0, .int .i64 0] 39)
                  refine hK.out _ _ (⟨G4.out.bl 2 rfl, (HJ.out.self G4.out.z.low).bl 1 rfl⟩) (fun h4x => ?_)
                  clear hK K
                  try simp only [Act.put, lay_out]
                  generalize y3.alloc (.cells #[.int .i64 0, .int .i64 0, .int .i64 0] 39) = y4 at *
                  have G5 := hid G4.out.swap
                  refine wpAnyH_ready (rs := [14]) (by kernel_rfl) (by simp) (AllReadyH.cons rfl (fun K hK => ?_) AllReadyH.nil)
                  rw [if_pos (by rfl)]
                  refine wp_store_row 39 _ _ rfl (y0.heap.size) (wdV A0) rfl rfl 39 _ (G5.out.bl 0 rfl) (by kernel_rfl) rfl (by kernel_rfl) ?_
                  have G6 := hid (G5.out.row hM (wdV A0))
                  refine hK.out _ _ (⟨G6.out.bl 2 rfl, (HJ.out.self G6.out.z.low).bl 1 rfl⟩) (fun h5x => ?_)
                  clear hK K
                  try simp only [Act.put, lay_out]
                  have G7 := hid G6.out.swap
                  refine wpAnyH_ready (rs := [15]) (by kernel_rfl) (by simp) (AllReadyH.cons rfl (fun K hK => ?_) AllReadyH.nil)
                  rw [if_pos (by rfl)]
                  refine wp_store_row 39 _ _ rfl (y3.heap.size) (wdV B0) rfl rfl 39 _ (G7.out.bl 0 rfl) (by kernel_rfl) rfl (by kernel_rfl) ?_
                  have G8 := hid (G7.out.row hM (wdV B0))
                  refine hK.out _ _ (⟨G8.out.bl 2 rfl, (HJ.out.self G8.out.z.low).bl 1 rfl⟩) (fun h6x => ?_)
                  clear hK K
                  try simp only [Act.put, lay_out]
                  refine wpAnyH_done (by kernel_rfl) ?_ _
                  refine NoPanic.normal ?_
                  clear h0 h1x h2x h3x h4x h5x h6x
                  try simp only [Act.put, lay_out]
                  go_wp2_with fail
                  go_meet
                  exact ⟨_, _, rfl, rfl, G8.out⟩
                · rw [if_pos (by rfl)]
                  go_simp
                  have G3 := hid (G2.out.new hM #[.int .i64 0, .int .i64 0, .int .i64 0] 39)
                  refine hK.out _ _ (⟨G3.out.bl 2 rfl, (HJ.out.self G3.out.z.low).bl 1 rfl⟩) (fun h3x => ?_)
                  clear hK K
                  try simp only [Act.put, lay_out]
                  generalize y2.alloc (.cells #[.int .i64 0, .int .i64 0, .int .i64 0] 39) = y3 at *
                  refine wpAnyH_ready (rs := [11]) (by kernel_rfl) (by simp) (AllReadyH.cons rfl (fun K hK => ?_) AllReadyH.nil)
                  rw [if_pos (by rfl)]
                  go_simp
                  go_at_call 11
                  (with_reducible refine (HC2.out _ _ _ _ _ _ G3.out).mono ?_); rintro e y4 ⟨rfl, hz⟩
                  have G4 := hid hz
                  clear hz
                  refine hK.out _ _ (⟨G4.out.bl 2 rfl, (HJ.out.self G4.out.z.low).bl 1 rfl⟩) (fun h4x => ?_)
                  clear hK K
                  try simp only [Act.put, lay_out]
                  have G5 := hid G4.out.swap
                  refine wpAnyH_ready (rs := [14]) (by kernel_rfl) (by simp) (AllReadyH.cons rfl (fun K hK => ?_) AllReadyH.nil)
                  rw [if_pos (by rfl)]
                  refine wp_store_row 39 _ _ rfl (y0.heap.size) (wdV A0) rfl rfl 39 _ (G5.out.bl 0 rfl) (by kernel_rfl) rfl (by kernel_rfl) ?_
                  have G6 := hid (G5.out.row hM (wdV A0))
                  refine hK.out _ _ (⟨G6.out.bl 2 rfl, (HJ.out.self G6.out.z.low).bl 1 rfl⟩) (fun h5x => ?_)
                  clear hK K
                  try simp only [Act.put, lay_out]
                  have G7 := hid G6.out.swap
                  refine wpAnyH_ready (rs := [15]) (by kernel_rfl) (by simp) (AllReadyH.cons rfl (fun K hK => ?_) AllReadyH.nil)
                  rw [if_pos (by rfl)]
                  refine wp_store_row 39 _ _ rfl (y2.heap.size) (wdV B0) rfl rfl 39 _ (G7.out.bl 0 rfl) (by kernel_rfl) rfl (by kernel_rfl) ?_
                  have G8 := hid (G7.out.row hM (wdV B0))
                  refine hK.out _ _ (⟨G8.out.bl 2 rfl, (HJ.out.self G8.out.z.low).bl 1 rfl⟩) (fun h6x => ?_)
                  clear hK K
                  try simp only [Act.put, lay_out]
                  refine wpAnyH_done (by kernel_rfl) ?_ _
                  refine NoPanic.normal ?_
                  clear h0 h1x h2x h3x h4x h5x h6x
                  try simp only [Act.put, lay_out]
                  go_wp2_with fail
                  go_meet
                  exact ⟨_, _, rfl, rfl, G8.out⟩
              · rw [if_pos (by rfl)]
                go_simp
                have G2 := hid (G1.out.new hM #[.int .i64 0, .int .i64 0, .int .i64 0] 39)
                refine hK.out _ _ (⟨G2.out.bl 2 rfl, (HJ.out.self G2.out.z.low).bl 1 rfl⟩) (fun h2x => ?_)
                clear hK K
                try simp only [Act.put, lay_out]
                generalize y1.alloc (.cells #[.int .i64 0, .int .i64 0, .int .i64 0] 39) = y2 at *
                refine wpAnyH_ready (rs := [5]) (by kernel_rfl) (by simp) (AllReadyH.cons rfl (fun K hK => ?_) AllReadyH.nil)
                rw [if_pos (by rfl)]
                go_simp
                go_at_call 11
                (with_reducible refine (HC1.out _ _ _ _ _ _ G2.out).mono ?_); rintro e y3 ⟨rfl, hz⟩
                have G3 := hid hz
                clear hz
                refine hK.out _ _ (⟨G3.out.bl 2 rfl, (HJ.out.self G3.out.z.low).bl 1 rfl⟩) (fun h3x => ?_)
                clear hK K
                try simp only [Act.put, lay_out]
                refine wpAnyH_ready (rs := [11]) (by kernel_rfl) (by simp) (AllReadyH.cons rfl (fun K hK => ?_) AllReadyH.nil)
                rw [if_pos (by rfl)]
                go_simp
                go_at_call 11
                (with_reducible refine (HC2.out _ _ _ _ _ _ G3.out).mono ?_); rintro e y4 ⟨rfl, hz⟩
                have G4 := hid hz
                clear hz
                refine hK.out _ _ (⟨G4.out.bl 2 rfl, (HJ.out.self G4.out.z.low).bl 1 rfl⟩) (fun h4x => ?_)
                clear hK K
                try simp only [Act.put, lay_out]
                have G5 := hid G4.out.swap
                refine wpAnyH_ready (rs := [14]) (by kernel_rfl) (by simp) (AllReadyH.cons rfl (fun K hK => ?_) AllReadyH.nil)
                rw [if_pos (by rfl)]
                refine wp_store_row 39 _ _ rfl (y0.heap.size) (wdV A0) rfl rfl 39 _ (G5.out.bl 0 rfl) (by kernel_rfl) rfl (by kernel_rfl) ?_
                have G6 := hid (G5.out.row hM (wdV A0))
                refine hK.out _ _ (⟨G6.out.bl 2 rfl, (HJ.out.self G6.out.z.low).bl 1 rfl⟩) (fun h5x => ?_)
                clear hK K
                try simp only [Act.put, lay_out]
                have G7 := hid G6.out.swap
                refine wpAnyH_ready (rs := [15]) (by kernel_rfl) (by simp) (AllReadyH.cons rfl (fun K hK => ?_) AllReadyH.nil)
                rw [if_pos (by rfl)]
                refine wp_store_row 39 _ _ rfl (y1.heap.size) (wdV B0) rfl rfl 39 _ (G7.out.bl 0 rfl) (by kernel_rfl) rfl (by kernel_rfl) ?_
                have G8 := hid (G7.out.row hM (wdV B0))
                refine hK.out _ _ (⟨G8.out.bl 2 rfl, (HJ.out.self G8.out.z.low).bl 1 rfl⟩) (fun h6x => ?_)
                clear hK K
                try simp only [Act.put, lay_out]
                refine wpAnyH_done (by kernel_rfl) ?_ _
                refine NoPanic.normal ?_
                clear h0 h1x h2x h3x h4x h5x h6x
                try simp only [Act.put, lay_out]
                go_wp2_with fail
                go_meet
                exact ⟨_, _, rfl, rfl, G8.out⟩
            · rw [if_pos (by rfl)]
              go_simp
              have G1 := hid (G0.out.new hM #[.int .i64 0, .int .i64 0, .int .i64 0] 39)
              refine hK.out _ _ (⟨G1.out.bl 1 rfl, (HJ.out.self G1.out.z.low).bl 1 rfl⟩) (fun h1x => ?_)
              clear hK K
              try simp only [Act.put, lay_out]
              generalize y0.alloc (.cells #[.int .i64 0, .int .i64 0, .int .i64 0] 39) = y1 at *
              refine wpAnyH_ready (rs := [5, 12]) (by kernel_rfl) (by simp) (AllReadyH.cons rfl (fun K hK => ?_) (AllReadyH.cons rfl (fun K hK => ?_) AllReadyH.nil))
              · rw [if_pos (by rfl)]
                go_simp
                go_at_call 11
                (with_reducible refine (HC1.out _ _ _ _ _ _ G1.out).mono ?_); rintro e y2 ⟨rfl, hz⟩
                have G2 := hid hz
                clear hz
                refine hK.out _ _ (⟨G2.out.bl 1 rfl, (HJ.out.self G2.out.z.low).bl 1 rfl⟩) (fun h2x => ?_)
                clear hK K
                try simp only [Act.put, lay_out]
                refine wpAnyH_ready (rs := [11, 12]) (by kernel_rfl) (by simp) (AllReadyH.cons rfl (fun K hK => ?_) (AllReadyH.cons rfl (fun K hK => ?_) AllReadyH.nil))
                · rw [if_pos (by rfl)]
                  go_simp
                  go_at_call 11
                  (with_reducible refine (HC2.out _ _ _ _ _ _ G2.out).mono ?_); rintro e y3 ⟨rfl, hz⟩
                  have G3 := hid hz
                  clear hz
                  refine hK.out _ _ (⟨G3.out.bl 1 rfl, (HJ.out.self G3.out.z.low).bl 1 rfl⟩) (fun h3x => ?_)
                  clear hK K
                  try simp only [Act.put, lay_out]
                  refine wpAnyH_ready (rs := [12]) (by kernel_rfl) (by simp) (AllReadyH.cons rfl (fun K hK => ?_) AllReadyH.nil)
                  rw [if_pos (by rfl)]
                  go_simp
                  have G4 := hid (G3.out.new hM #[.int .i64 0, .int .i64 0, .int .i64 0] 39)
                  refine hK.out _ _ (⟨G4.out.bl 2 rfl, (HJ.out.self G4.out.z.low).bl 1 rfl⟩) (fun h4x => ?_)
                  clear hK K
                  try simp only [Act.put, lay_out]
                  generalize y3.alloc (.cells #[.int .i64 0, .int .i64 0, .int .i64 0] 39) = y4 at *
                  refine wpAnyH_ready (rs := [14]) (by kernel_rfl) (by simp) (AllReadyH.cons rfl (fun K hK => ?_) AllReadyH.nil)
                  rw [if_pos (by rfl)]
                  refine wp_store_row 39 _ _ rfl (y3.heap.size) (wdV A0) rfl rfl 39 _ (G4.out.bl 0 rfl) (by kernel_rfl) rfl (by kernel_rfl) ?_
                  have G5 := hid (G4.out.row hM (wdV A0))
                  refine hK.out _ _ (⟨G5.out.bl 2 rfl, (HJ.out.self G5.out.z.low).bl 1 rfl⟩) (fun h5x => ?_)
                  clear hK K
                  try simp only [Act.put, lay_out]
                  have G6 := hid G5.out.swap
                  refine wpAnyH_ready (rs := [15]) (by kernel_rfl) (by simp) (AllReadyH.cons rfl (fun K hK => ?_) AllReadyH.nil)
                  rw [if_pos (by rfl)]
                  refine wp_store_row 39 _ _ rfl (y0.heap.size) (wdV B0) rfl rfl 39 _ (G6.out.bl 0 rfl) (by kernel_rfl) rfl (by kernel_rfl) ?_
                  have G7 := hid (G6.out.row hM (wdV B0))
                  refine hK.out _ _ (⟨G7.out.bl 2 rfl, (HJ.out.self G7.out.z.low).bl 1 rfl⟩) (fun h6x => ?_)
                  clear hK K
                  try simp only [Act.put, lay_out]
                  refine wpAnyH_done (by kernel_rfl) ?_ _
                  refine NoPanic.normal ?_
                  clear h0 h1x h2x h3x h4x h5x h6x
                  try simp only [Act.put, lay_out]
                  go_wp2_with fail
                  go_meet
                  exact ⟨_, _, rfl, rfl, G7.out⟩
                · rw [if_pos (by rfl)]
                  go_simp
                  have G3 := hid (G2.out.new hM #[.int .i64 0, .int .i64 0, .int .i64 0] 39)
                  refine hK.out _ _ (⟨G3.out.bl 2 rfl, (HJ.out.self G3.out.z.low).bl 1 rfl⟩) (fun h3x => ?_)
                  clear hK K
                  try simp only [Act.put, lay_out]
                  generalize y2.alloc (.cells #[.int .i64 0, .int .i64 0, .int .i64 0] 39) = y3 at *
                  refine wpAnyH_ready (rs := [11]) (by kernel_rfl) (by simp) (AllReadyH.cons rfl (fun K hK => ?_) AllReadyH.nil)
                  rw [if_pos (by rfl)]
                  go_simp
                  go_at_call 11
                  (with_reducible refine (HC2.out _ _ _ _ _ _ G3.out).mono ?_); rintro e y4 ⟨rfl, hz⟩
                  have G4 := hid hz
                  clear hz
                  refine hK.out _ _ (⟨G4.out.bl 2 rfl, (HJ.out.self G4.out.z.low).bl 1 rfl⟩) (fun h4x => ?_)
                  clear hK K
                  try simp only [Act.put, lay_out]
                  refine wpAnyH_ready (rs := [14]) (by kernel_rfl) (by simp) (AllReadyH.cons rfl (fun K hK => ?_) AllReadyH.nil)
                  rw [if_pos (by rfl)]
                  refine wp_store_row 39 _ _ rfl (y2.heap.size) (wdV A0) rfl rfl 39 _ (G4.out.bl 0 rfl) (by kernel_rfl) rfl (by kernel_rfl) ?_
                  have G5 := hid (G4.out.row hM (wdV A0))
                  refine hK.out _ _ (⟨G5.out.bl 2 rfl, (HJ.out.self G5.out.z.low).bl 1 rfl⟩) (fun h5x => ?_)
                  clear hK K
                  try simp only [Act.put, lay_out]
                  have G6 := hid G5.out.swap
                  refine wpAnyH_ready (rs := [15]) (by kernel_rfl) (by simp) (AllReadyH.cons rfl (fun K hK => ?_) AllReadyH.nil)
                  rw [if_pos (by rfl)]
                  refine wp_store_row 39 _ _ rfl (y0.heap.size) (wdV B0) rfl rfl 39 _ (G6.out.bl 0 rfl) (by kernel_rfl) rfl (by kernel_rfl) ?_
                  have G7 := hid (G6.out.row hM (wdV B0))
                  refine hK.out _ _ (⟨G7.out.bl 2 rfl, (HJ.out.self G7.out.z.low).bl 1 rfl⟩) (fun h6x => ?_)
                  clear hK K
                  try simp only [Act.put, lay_out]
                  refine wpAnyH_done (by kernel_rfl) ?_ _
                  refine NoPanic.normal ?_
                  clear h0 h1x h2x h3x h4x h5x h6x
                  try simp only [Act.put, lay_out]
                  go_wp2_with fail
                  go_meet
                  exact ⟨_, _, rfl, rfl, G7.out⟩
              · rw [if_pos (by rfl)]
                go_simp
                have G2 := hid (G1.out.new hM #[.int .i64 0, .int .i64 0, .int .i64 0] 39)
                refine hK.out _ _ (⟨G2.out.bl 2 rfl, (HJ.out.self G2.out.z.low).bl 1 rfl⟩) (fun h2x => ?_)
                clear hK K
                try simp only [Act.put, lay_out]
                generalize y1.alloc (.cells #[.int .i64 0, .int .i64 0, .int .i64 0] 39) = y2 at *
                refine wpAnyH_ready (rs := [5]) (by kernel_rfl) (by simp) (AllReadyH.cons rfl (fun K hK => ?_) AllReadyH.nil)
                rw [if_pos (by rfl)]
                go_simp
                go_at_call 11
                (with_reducible refine (HC1.out _ _ _ _ _ _ G2.out).mono ?_); rintro e y3 ⟨rfl, hz⟩
                have G3 := hid hz
                clear hz
                refine hK.out _ _ (⟨G3.out.bl 2 rfl, (HJ.out.self G3.out.z.low).bl 1 rfl⟩) (fun h3x => ?_)
                clear hK K
                try simp only [Act.put, lay_out]
                refine wpAnyH_ready (rs := [11]) (by kernel_rfl) (by simp) (AllReadyH.cons rfl (fun K hK => ?_) AllReadyH.nil)
                rw [if_pos (by rfl)]
                go_simp
                go_at_call 11
                (with_reducible refine (HC2.out _ _ _ _ _ _ G3.out).mono ?_); rintro e y4 ⟨rfl, hz⟩
                have G4 := hid hz
                clear hz
                refine hK.out _ _ (⟨G4.out.bl 2 rfl, (HJ.out.self G4.out.z.low).bl 1 rfl⟩) (fun h4x => ?_)
                clear hK K
                try simp only [Act.put, lay_out]
                refine wpAnyH_ready (rs := [14]) (by kernel_rfl) (by simp) (AllReadyH.cons rfl (fun K hK => ?_) AllReadyH.nil)
                rw [if_pos (by rfl)]
                refine wp_store_row 39 _ _ rfl (y1.heap.size) (wdV A0) rfl rfl 39 _ (G4.out.bl 0 rfl) (by kernel_rfl) rfl (by kernel_rfl) ?_
                have G5 := hid (G4.out.row hM (wdV A0))
                refine hK.out _ _ (⟨G5.out.bl 2 rfl, (HJ.out.self G5.out.z.low).bl 1 rfl⟩) (fun h5x => ?_)
                clear hK K
                try simp only [Act.put, lay_out]
                have G6 := hid G5.out.swap
                refine wpAnyH_ready (rs := [15]) (by kernel_rfl) (by simp) (AllReadyH.cons rfl (fun K hK => ?_) AllReadyH.nil)
                rw [if_pos (by rfl)]
                refine wp_store_row 39 _ _ rfl (y0.heap.size) (wdV B0) rfl rfl 39 _ (G6.out.bl 0 rfl) (by kernel_rfl) rfl (by kernel_rfl) ?_
                have G7 := hid (G6.out.row hM (wdV B0))
                refine hK.out _ _ (⟨G7.out.bl 2 rfl, (HJ.out.self G7.out.z.low).bl 1 rfl⟩) (fun h6x => ?_)
                clear hK K
                try simp only [Act.put, lay_out]
                refine wpAnyH_done (by kernel_rfl) ?_ _
                refine NoPanic.normal ?_
                clear h0 h1x h2x h3x h4x h5x h6x
                try simp only [Act.put, lay_out]
                go_wp2_with fail
                go_meet
                exact ⟨_, _, rfl, rfl, G7.out⟩
          case rest =>
            obtain ⟨b13, b14, rfl, rfl, hcut⟩ := hcut
            have H4 := hid hcut
            clear hcut H3
            go_upto_region 17 with fail
            have H5 := hid (H4.out.new hM #[.int .i64 0, .int .i64 0, .int .i64 0] 39)
            obtain ⟨b15, hb5⟩ : ∃ b15, wc.heap.size = b15 := ⟨_, rfl⟩
            rw [hb5] at H5
            generalize wc.alloc (.cells #[.int .i64 0, .int .i64 0, .int .i64 0] 39) = w5 at *
            rw [hb5]
            clear hb5 H4
            have HA := hid ((HJ.out.self H5.out.z.low).bl 1 rfl)
            have c1 := row_c (i := 0) (u := .pointer (some ⟨p, 0, none⟩)) (H5.out.bl 3 rfl) rfl
            have cK := row_c (i := 1) (u := .int .i64 K) HA.out rfl
            go_upto_if 78 with fail
            go_cut [] from 79 to 88 (fun wx => Gy Pm wr.heap.size (fun _ => False) wr w2 wx p b S3 S0 [(b15, .cells (wdV R3) 39 (0, 0)), (b14, .cells (wdV B0) 39 (0, 0)), (b13, .cells (wdV A0) 39 (0, 0)), (b11, .cells (paC p b (.slice none 0 0) (.slice none 0 0)) 32 (0, 0))])
            case first =>
              cases D
              · go_wp2_with (first
                  | (refine step_load_row rfl 39 _ rfl b13 39 (wdV A0) _ rfl (H5.out.bl 2 rfl) Try.underlying39 rfl (by kernel_rfl) ?_)
                  | (refine step_load_row rfl 39 _ rfl b14 39 (wdV B0) _ rfl (H5.out.bl 1 rfl) Try.underlying39 rfl (by kernel_rfl) ?_)
                  | (go_at_call 22; (with_reducible refine (HCI.out _ _ _ _ _ _ rfl HJL.out H5.out).mono ?_); rintro e w8 ⟨rfl, hb⟩; have H8 := hid hb; clear hb c1)
                  | (refine step_store_row rfl 39 _ _ rfl b15 39 _ (wdV R3) rfl rfl (H8.out.bl 0 rfl) (by kernel_rfl) rfl (by kernel_rfl) ?_))
                go_meet
                exact H8.out.row hM (wdV R3)
              · go_wp2_with (first
                  | (refine step_load_row rfl 39 _ rfl b13 39 (wdV A0) _ rfl (H5.out.bl 2 rfl) Try.underlying39 rfl (by kernel_rfl) ?_)
                  | (refine step_load_row rfl 39 _ rfl b14 39 (wdV B0) _ rfl (H5.out.bl 1 rfl) Try.underlying39 rfl (by kernel_rfl) ?_)
                  | (go_at_call 21; (with_reducible refine (HCD.out _ _ _ _ _ _ rfl HJL.out H5.out).mono ?_); rintro e w8 ⟨rfl, hb⟩; have H8 := hid hb; clear hb c1)
                  | (refine step_store_row rfl 39 _ _ rfl b15 39 _ (wdV R3) rfl rfl (H8.out.bl 0 rfl) (by kernel_rfl) rfl (by kernel_rfl) ?_))
                go_meet
                exact H8.out.row hM (wdV R3)
            case rest =>
              have H9 := hid hcut
              clear hcut H5 HA cK c1 HC1 HC2 HCD HCI
              have c1 := row_c (i := 0) (u := .pointer (some ⟨p, 0, none⟩)) (H9.out.bl 3 rfl) rfl
              go_upto_region 21 with (go_at_call 19; (with_reducible refine (HVL.out _ _ _ _ _ _ H9.out).mono ?_); rintro e w10 ⟨⟨v, rfl, hv⟩, hz⟩; have H10 := hid hz; have V10 := hid hv; clear hz hv c1)
              have c1 := row_c (i := 0) (u := .pointer (some ⟨p, 0, none⟩)) (H10.out.bl 3 rfl) rfl
              go_upto_region 23 with (go_at_call 23; (with_reducible refine (HER.out _ _ _ _ _ _ H10.out).mono ?_); rintro e w11 ⟨rfl, hb⟩; have H11 := hid (H10.out.self hM hb); have V11 := hid (V10.out.self hb); clear hb c1)
              obtain ⟨va, vc, rfl, hp⟩ := (rd_wr V11.out).at_
              have HL0 : 0 < S3.L := by obtain ⟨q, _, h2, _⟩ := HOKK.out 0 (by decide); omega
              obtain ⟨g, off, rfl, hg, hc⟩ := hp HL0
              have HCV := hid hc
              have HX := hid (HJ.out.self H11.out.z.low)
              clear hp hg hc HL0 HVL HER H9 H10 V10 V11 HJ
              go_wp2
              obtain ⟨wo, hwo⟩ : ∃ wo, w11 = wo := ⟨_, rfl⟩
              subst hwo
              obtain ⟨L3, hL3⟩ : ∃ L3, S3.L = L3 := ⟨_, rfl⟩
              simp only [hL3] at HOKK HCV ⊢
              go_loopw [17, 18] (fun rv iv wr => ∃ i : Nat, i ≤ 2 ∧ iv = .int .i64 i ∧ rv = .int .i64 (rowT 2 D a8 b8 o k i : Nat) ∧ Below w11.heap.size w11 wr) (fun _ iv _ => 2 - (intOf iv).toNat)
              case atStart => exact ⟨0, by omega, rfl, rfl, Below.refl _ _⟩
              case round =>
                obtain ⟨i, hi, rfl, rfl, hJ⟩ := hrel
                have HJ := hid hJ
                clear hJ
                by_cases hin : i < 2
                · have i0 : (0 : Int) ≤ (i : Int) := by omega
                  have i3 : (i : Int) < 3 := by omega
                  have in_ : (i : Int) < 2 := by omega
                  have HRS : Hid (rowT 2 D a8 b8 o k (i + 1) = if i = o then rowT 2 D a8 b8 o k i else rowT 2 D a8 b8 o k i * 2 + tbN 2 D a8 b8 k i) := hid rfl
                  by_cases hio : i = o
                  · have q2 : ((i : Int) == (o : Int)) = true := by simp; omega
                    rw [if_pos hio] at HRS
                    clear hio
                    go_wp2
                    go_roundw
                    case rel => exact ⟨i + 1, by omega, by go_num, by rw [HRS.out], HJ.out⟩
                    case measure => simp [intOf]; omega
                  · have q2 : ((i : Int) == (o : Int)) = false := by simp; omega
                    rw [if_neg hio] at HRS
                    clear hio
                    obtain ⟨q, eq, lq, vq⟩ := HOKK.out i hin
                    have cR := tcell_self (row_c (i := i) (H11.out.bl 0 rfl) (wdV_at R3 i (by omega))) HJ.out
                    rw [eq] at cR
                    have cV := tcell_self (HCV.out q lq) HJ.out
                    have n0 : decide ((q : Int) < 0) = false := decide_eq_false (by omega)
                    have n1 : decide ((L3 : Int) ≤ (q : Int)) = false := decide_eq_false (by omega)
                    have n2 : decide ((q : Int) ≥ (L3 : Int)) = false := decide_eq_false (by omega)
                    have g0 : (0 : Int) ≤ (q : Int) := by omega
                    have g1 : (q : Int) < (L3 : Int) := by omega
                    have hrow := rowT_lt (n := 2) (dom := D) (a := a8) (b := b8) (o := o) (k := k) (i := i) (by omega)
                    have hp8 : 2 ^ i ≤ 8 := by rcases (by omega : i = 0 ∨ i = 1 ∨ i = 2) with rfl | rfl | rfl <;> decide
                    have hfF := tbN_lt 2 D a8 b8 k i
                    have m1 : (S3.v q : Int) % 2 = ((tbN 2 D a8 b8 k i : Nat) : Int) := by omega
                    have m2 : ((S3.v q : Nat) : Int).tmod 2 = ((tbN 2 D a8 b8 k i : Nat) : Int) := by rw [Int.tmod_eq_emod_of_nonneg (by omega)]; omega
                    have e5 : IntKind.i64.wrap ((rowT 2 D a8 b8 o k i : Nat) * 2 : Int) = ((rowT 2 D a8 b8 o k i * 2 : Nat) : Int) := by rw [IntKind.wrap_i64]; omega
                    have e6 : IntKind.i64.wrap ((tbN 2 D a8 b8 k i : Nat) : Int) = ((tbN 2 D a8 b8 k i : Nat) : Int) := by rw [IntKind.wrap_i64]; omega
                    have e7 : IntKind.i64.wrap (((rowT 2 D a8 b8 o k i * 2 : Nat) : Int) + ((tbN 2 D a8 b8 k i : Nat) : Int)) = ((rowT 2 D a8 b8 o k i * 2 + tbN 2 D a8 b8 k i : Nat) : Int) := by rw [IntKind.wrap_i64]; omega
                    obtain ⟨r3, hr3⟩ : ∃ r3, rowT 2 D a8 b8 o k i * 2 + tbN 2 D a8 b8 k i = r3 := ⟨_, rfl⟩
                    rw [hr3] at e7 HRS
                    obtain ⟨r2, hr2⟩ : ∃ r2, rowT 2 D a8 b8 o k i * 2 = r2 := ⟨_, rfl⟩
                    rw [hr2] at e5 e7
                    obtain ⟨r1, hr1⟩ : ∃ r1, rowT 2 D a8 b8 o k i = r1 := ⟨_, rfl⟩
                    rw [hr1] at e5 ⊢
                    generalize tbN 2 D a8 b8 k i = fF at *
                    generalize S3.v q = z at *
                    clear hrow hp8 hfF hr3 hr2 hr1 eq lq vq
                    go_wp2
                    go_roundw
                    case rel => exact ⟨i + 1, by omega, by go_num, by rw [HRS.out], HJ.out⟩
                    case measure => simp [intOf]; omega
                · obtain rfl : i = 2 := by omega
                  clear hin hi HOKK HCV
                  rw [show ((2 : Nat) : Int) = 2 from rfl]
                  have HX2 := hid (HX.out.self HJ.out)
                  have hrow := HRK.out
                  have hcl := cntT_le (n := 2) (dom := D) (a := a8) (b := b8) (o := o) (k := k) (rowT 2 D a8 b8 o k 2)
                  have HCS : Hid (ia 4 (cntT 2 D a8 b8 o (k + 1)) = (ia 4 (cntT 2 D a8 b8 o k)).setIfInBounds (rowT 2 D a8 b8 o k 2) (.int .i64 (((cntT 2 D a8 b8 o k) (rowT 2 D a8 b8 o k 2) + 1 : Nat) : Int))) := hid (by rw [ia_set]; rfl)
                  have cC := row_c (i := rowT 2 D a8 b8 o k 2) (HX2.out.bl 0 rfl) (ia_get _ (by omega))
                  have fC := frozen_of_row wr bC (rowT 2 D a8 b8 o k 2) _ _ (HX2.out.bl 0 rfl)
                  have g0 : (0 : Int) ≤ (rowT 2 D a8 b8 o k 2 : Int) := by omega
                  have g8 : (rowT 2 D a8 b8 o k 2 : Int) < 4 := by omega
                  have hk8 := HK8.out
                  have e1 : IntKind.i64.wrap (((cntT 2 D a8 b8 o k) (rowT 2 D a8 b8 o k 2) : Nat) + 1 : Int) = (((cntT 2 D a8 b8 o k) (rowT 2 D a8 b8 o k 2) + 1 : Nat) : Int) := by rw [IntKind.wrap_i64]; omega
                  obtain ⟨c1, hc1⟩ : ∃ c1, (cntT 2 D a8 b8 o k) (rowT 2 D a8 b8 o k 2) + 1 = c1 := ⟨_, rfl⟩
                  rw [hc1] at HCS e1
                  generalize (cntT 2 D a8 b8 o k) (rowT 2 D a8 b8 o k 2) = c0 at *
                  obtain ⟨r, hr⟩ : ∃ r, rowT 2 D a8 b8 o k 2 = r := ⟨_, rfl⟩
                  rw [hr] at HCS cC fC g0 g8 ⊢
                  clear hrow hcl hc1 hr hk8
                  have hkk := HKK.out
                  go_wp2
                  go_roundw
                  case rel => exact ⟨k + 1, by omega, by go_num, by rw [HCS.out]; exact HX2.out.cell r (.int .i64 (c1 : Int))⟩
                  case measure => simp [intOf]; omega
    · obtain rfl : k = 2 := by omega
      rw [show ((2 : Nat) : Int) = 2 from rfl]
      clear hlt
      obtain ⟨CF, hCF⟩ : ∃ CF, (cntT 2 D a8 b8 o 2) = CF := ⟨_, rfl⟩
      rw [hCF] at HI HEV
      clear hCF HBG HC1 HC2 HCD HCI HVL HER HOK HRL
      go_wp2
      obtain ⟨wo, hwo⟩ : ∃ wo, wr = wo := ⟨_, rfl⟩
      subst hwo
      go_loopw [20] (fun iv wr => ∃ i : Nat, i ≤ 2 ∧ iv = .int .i64 i ∧ Bx W.heap.size W wr [(bC, .cells (ia 4 CF) 58 (0, 0)), (W.heap.size, .cells (asC false K x y mv) 26 (0, 0))]) (fun iv _ => 2 - (intOf iv).toNat)
      case atStart => exact ⟨0, by omega, rfl, HI.out⟩
      case round =>
        clear HI
        obtain ⟨i, hi, rfl, hJ⟩ := hrel
        have HJ := hid hJ
        clear hJ
        by_cases hin : i < 2
        · have j1 : (i : Int) < 2 := by omega
          have j0 : (0 : Int) ≤ (i : Int) := by omega
          have j8 : (i : Int) < 4 := by omega
          have cC := row_c (i := i) (HJ.out.bl 0 rfl) (ia_get CF (by omega))
          have h1 := HEV.out i hin
          have e1 : IntKind.i64.wrap ((CF i : Int) * 2) = 2 := by rw [IntKind.wrap_i64]; omega
          generalize CF i = c at *
          clear h1
          go_wp2
          go_roundw
          case rel => exact ⟨i + 1, by omega, by go_num, HJ.out⟩
          case measure => simp [intOf]; omega
        · obtain rfl : i = 2 := by omega
          rw [show ((2 : Nat) : Int) = 2 from rfl]
          clear hin
          have HAL := hid HJ.out.low
          go_wp2_with (go_at_call 17; (with_reducible refine (HAW.out _ HAL.out).mono ?_); rintro e wz ⟨rfl, hb⟩; have HZ := hid (HJ.out.self hb); clear hb)
          go_ret
          exact ⟨rfl, HZ.out.low⟩
set_option maxHeartbeats 25600000 in
theorem teven3_core {Pm : World → Nat → Ms → (Nat → Prop) → Prop} (hM : Mach Pm) (hN : MachN Pm) {V : World → (Nat → Prop) → Prop} (hT : TmI Pm V) (K : Int) (x y : Nat → Nat) (hx : ∀ i, x i < 2 ^ 64) (hy : ∀ i, y i < 2 ^ 64) (mv : Value) (O : Nat) (hO : O < 256) (W : World)
    (hV : ∀ (w' : World) (F : Nat → Prop), Below W.heap.size W w' → (∀ k, F k → W.heap.size ≤ k) → V w' F) :
    Calls Try.prog 4 #[.agg (asC true K x y mv), .int .u8 (O : Int)] W fun e w' => e = .returned (.bool true) ∧ Below W.heap.size W w' := by
  obtain ⟨D, hD⟩ : ∃ D, (K == 2) = D := ⟨_, rfl⟩
  have HV := hid hV
  have HFN : Hid (∀ w, Calls Try.prog 5 #[.agg (asC true K x y mv)] w fun e w' => e = .returned (.int .i64 3) ∧ Below w.heap.size w w') := hid (fun w => fn_any true K x y mv w)
  have HBG : Hid (∀ (k : Nat) (wx : World) (v : Value), RdS .u64 wx (fun g => g < wx.heap.size) v (wdL (twT k) 3) → Calls Try.prog 6 #[.int .i64 3, v, .int .i64 60] wx fun e w' => ∃ p b, e = .returned (.tuple #[.agg (paC p b (.slice none 0 0) (.slice none 0 0)), .bool true]) ∧ Bz Pm wx.heap.size (fun _ => False) wx w' p b (thS0 3 k) (thS0 3 k)) := hid (fun k wx v h => lbegins_any hM hN ((3 : Nat) : Int) 60 (by decide) (by decide) (by decide) (twT k) 3 v wx h)
  have HC1 := hid (fun (k : Nat) (W0 w0' wx : World) (p b : Nat) (bs : List (Nat × Obj)) (h : Gy Pm W0.heap.size (fun _ => False) W0 w0' wx p b (thS0 3 k) (thS0 3 k) bs) => h.lift (f := 11) (args := #[.pointer (some ⟨p, 0, none⟩), .int .i64 3, .agg (w3 x)]) (E := fun e => e = .returned (.agg (wdV (thA 3 k x)))) (S1' := thS1 3 k x) (fun X W hz => qlaid hM x hx hz (thS0_bq (by decide)) (by decide) (nn := 3) (by decide)))
  have HC2 := hid (fun (k : Nat) (W0 w0' wx : World) (p b : Nat) (bs : List (Nat × Obj)) (h : Gy Pm W0.heap.size (fun _ => False) W0 w0' wx p b (thS1 3 k x) (thS0 3 k) bs) => h.lift (f := 11) (args := #[.pointer (some ⟨p, 0, none⟩), .int .i64 3, .agg (w3 y)]) (E := fun e => e = .returned (.agg (wdV (thB 3 k x y)))) (S1' := thS2 3 k x y) (fun X W hz => qlaid hM y hy hz (thS1_bq (by decide) hx).1 (by decide) (nn := 3) (by decide)))
  have HCD := hid (fun (k : Nat) (W0 w0' wx : World) (p b : Nat) (bs : List (Nat × Obj)) (hd : D = true) (hb : Below W.heap.size W W0) (h : Gy Pm W0.heap.size (fun _ => False) W0 w0' wx p b (thS2 3 k x y) (thS0 3 k) bs) => h.lift (f := 21) (args := #[.pointer (some ⟨p, 0, none⟩), .agg (wdV (thA 3 k x)), .agg (wdV (thB 3 k x y))]) (E := fun e => e = .returned (.agg (wdV (thR 3 k D x y)))) (S1' := thS 3 k D x y) (fun X W' hz => by
    rw [hd]
    exact qdom hM hT (thA 3 k x) (thB 3 k x y) hz (fun F hF => HV.out wx F (hb.trans (h.z.low.mono hb.size)) (fun j hj => Nat.le_trans hb.size (hF j hj))) (thS2_bq (by decide) hx hy).1 (by decide) (by rw [thS2_n]; decide) (thS1_bq (by decide) hx).2 (thS2_bq (by decide) hx hy).2))
  have HCI := hid (fun (k : Nat) (W0 w0' wx : World) (p b : Nat) (bs : List (Nat × Obj)) (hd : D = false) (hb : Below W.heap.size W W0) (h : Gy Pm W0.heap.size (fun _ => False) W0 w0' wx p b (thS2 3 k x y) (thS0 3 k) bs) => h.lift (f := 22) (args := #[.pointer (some ⟨p, 0, none⟩), .agg (wdV (thA 3 k x)), .agg (wdV (thB 3 k x y))]) (E := fun e => e = .returned (.agg (wdV (thR 3 k D x y)))) (S1' := thS 3 k D x y) (fun X W' hz => by
    rw [hd]
    exact qisw hM hT (thA 3 k x) (thB 3 k x y) hz (fun F hF => HV.out wx F (hb.trans (h.z.low.mono hb.size)) (fun j hj => Nat.le_trans hb.size (hF j hj))) (thS2_bq (by decide) hx hy).1 (by decide) (by rw [thS2_n]; decide) (thS1_bq (by decide) hx).2 (thS2_bq (by decide) hx hy).2))
  have HVL := hid (fun (k : Nat) (W0 w0' wx : World) (p b : Nat) (bs : List (Nat × Obj)) (h : Gy Pm W0.heap.size (fun _ => False) W0 w0' wx p b (thS 3 k D x y) (thS0 3 k) bs) => h.asks hM (E := fun e w' => ∃ v, e = .returned v ∧ Rd .u64 w' v (wdL (thS 3 k D x y).v (thS 3 k D x y).L)) (f := 19) (args := #[.pointer (some ⟨p, 0, none⟩)]) (fun X W hz => (zvalues hM hz (thS_bq (by decide) hx hy D) (by decide)).mono fun _ _ ⟨v, e1, e2, e3⟩ => ⟨⟨v, e1, by rw [thS_keep] at e2; exact e2⟩, e3⟩))
  have HER : Hid (∀ (k : Nat) (W0 w0' wx : World) (p b : Nat) (bs : List (Nat × Obj)) (h : Gy Pm W0.heap.size (fun _ => False) W0 w0' wx p b (thS 3 k D x y) (thS0 3 k) bs), Calls Try.prog 23 #[.pointer (some ⟨p, 0, none⟩)] wx fun e w' => e = .returned (.int .i64 0) ∧ Below wx.heap.size wx w') := hid (fun k W0 w0' wx p b bs h => (zerr hM h.z (thS_bq (by decide) hx hy D) (by decide)).mono fun e w' ⟨e1, e3⟩ => ⟨by rw [(th_ok (by decide) k D x y).1] at e1; exact e1, e3⟩)
  have HOK := hid (fun (k : Nat) => (th_ok (n := 3) (by decide) k D x y).2)
  have HAW := hid (fun (w : World) (h : Below W.heap.size W w) => tawake2_any hM hN hT w (fun w' F hb hF => HV.out w' F (h.trans (hb.mono h.size)) (fun j hj => Nat.le_trans h.size (hF j hj))))
  obtain ⟨a8, ha8⟩ : ∃ a8, bit3 x = a8 := ⟨_, rfl⟩
  obtain ⟨b8, hb8⟩ : ∃ b8, bit3 y = b8 := ⟨_, rfl⟩
  have HA8 : Hid (a8 < 8) := hid (by rw [← ha8]; exact bit3_lt x)
  have HB8 : Hid (b8 < 8) := hid (by rw [← hb8]; exact bit3_lt y)
  simp only [ha8, hb8] at HOK
  obtain ⟨o, ho⟩ : ∃ o, O % 3 = o := ⟨_, rfl⟩
  have HO : Hid (o < 3) := hid (by rw [← ho]; exact Nat.mod_lt _ (by decide))
  have HEV := hid (evenT3 D a8 HA8.out b8 HB8.out o HO.out)
  have HRL := hid (rowT3 D a8 HA8.out b8 HB8.out o HO.out)
  have eo : ((O : Int)).tmod 3 = (o : Int) := by rw [Int.tmod_eq_emod_of_nonneg (by omega)]; omega
  have eO : IntKind.i64.wrap (O : Int) = (O : Int) := by rw [IntKind.wrap_i64]; omega
  have H1 := hid ((Bx.start W).new (asC true K x y mv) 26)
  obtain ⟨w1, hw1⟩ : ∃ w1, W.alloc (.cells (asC true K x y mv) 26) = w1 := ⟨_, rfl⟩
  rw [hw1] at H1
  have HW := hid hw1
  have HZ4 : Hid (ia 4 (cntT 3 D a8 b8 o 0) = #[.int .i64 0, .int .i64 0, .int .i64 0, .int .i64 0]) := hid rfl
  clear hw1 ho ha8 hb8 hx hy hV hO
  go_enter Try.func4, Try.ntmps4
  go_upto_region 1 with fail
  rw [HW.out]
  go_upto_region 3 with (first
    | (refine step_load_row rfl 26 _ rfl W.heap.size 26 (asC true K x y mv) _ rfl (H1.out.bl 0 rfl) Try.underlying26 rfl (by kernel_rfl) ?_)
    | (go_at_call 5; (with_reducible refine (HFN.out _).mono ?_); rintro e w2 ⟨rfl, hb⟩; have H2 := hid (H1.out.self hb); clear hb))
  have H3 := hid (H2.out.new (ia 4 (cntT 3 D a8 b8 o 0)) 58)
  obtain ⟨bC, hbC⟩ : ∃ bC, w2.heap.size = bC := ⟨_, rfl⟩
  rw [hbC] at H3
  obtain ⟨w3', hw3⟩ : ∃ w3', w2.alloc (.cells (ia 4 (cntT 3 D a8 b8 o 0)) 58) = w3' := ⟨_, rfl⟩
  rw [hw3] at H3
  rw [HZ4.out] at hw3
  have HW3 := hid hw3
  clear hw3
  go_upto_region 4 with fail
  rw [HW3.out]
  try rw [hbC]
  clear hbC HFN HZ4 HW HW3 H1 H2
  go_wp2
  go_loopw [8] (fun iv wr => ∃ k : Nat, k ≤ 8 ∧ iv = .int .i64 k ∧ Bx W.heap.size W wr [(bC, .cells (ia 4 (cntT 3 D a8 b8 o k)) 58 (0, 0)), (W.heap.size, .cells (asC true K x y mv) 26 (0, 0))]) (fun iv _ => 8 - (intOf iv).toNat)
  case atStart => exact ⟨0, by omega, rfl, H3.out⟩
  case round =>
    clear H3
    obtain ⟨k, hk, rfl, hI⟩ := hrel
    have HI := hid hI
    clear hI
    by_cases hlt : k < 8
    · have q0 : decide ((k : Int) < 8) = true := decide_eq_true (by omega)
      have q1 : decide ((k : Int) < 8) = true := decide_eq_true (by omega)
      have HK8 : Hid (k < 8) := hid (by omega)
      have HKK : Hid (k < 8) := hid hlt
      have HRK := hid (HRL.out k HK8.out)
      have HTW : Hid (∀ i, twT k i < 2 ^ 64) := hid (fun i => by unfold twT; omega)
      have B1 := hid ((Below.refl wr.heap.size wr).alloc (Nat.le_refl _) (.cells #[] 22))
      have O1 : Hid (Own .u64 wr.heap.size 22 (wr.alloc (.cells #[] 22)) (.slice (some ⟨wr.heap.size, 0, none⟩) 0 0) (wdL (twT k) 0)) := hid (own_empty wr (Nat.le_refl _))
      go_upto_region 8 with fail
      go_wp2
      obtain ⟨wo, hwo⟩ : ∃ wo, wr = wo := ⟨_, rfl⟩
      subst hwo
      obtain ⟨w4, hw4⟩ : ∃ w4, wr.alloc (.cells #[] 22) = w4 := ⟨_, rfl⟩
      rw [hw4] at B1 O1
      try rw [hw4]
      clear hw4
      have HWR := HI
      obtain ⟨wb, hwb⟩ : ∃ wb, wr = wb := ⟨_, rfl⟩
      rw [hwb] at B1 O1 HI HWR ⊢
      clear hwb HWR
      go_loopw [9, 10] (fun v iv wr => ∃ j : Nat, j ≤ 3 ∧ iv = .int .i64 j ∧ Own .u64 wb.heap.size 22 wr v (wdL (twT k) j) ∧ Below wb.heap.size wb wr) (fun _ iv _ => 3 - (intOf iv).toNat)
      case atStart => exact ⟨0, by omega, rfl, O1.out, B1.out⟩
      case round =>
        clear O1 B1
        obtain ⟨j, hj, rfl, hO, hB⟩ := hrel
        have HOW := hid hO
        have HB := hid hB
        clear hO hB
        by_cases hjm : j < 3
        · have j1 : (j : Int) < 3 := by omega
          have j0 : (0 : Int) ≤ (j : Int) := by omega
          have hj3 : j < 3 := by omega
          have e1 : IntKind.u64.wrap (j : Int) = (j : Int) := by rcases (by omega : j = 0 ∨ j = 1 ∨ j = 2) with rfl | rfl | rfl <;> rfl
          have e2 : min j 64 = j := by omega
          have HNX := hid (wdL_next (twT k) j)
          have e3 : ((k : Int) / 2 ^ j).tmod 2 = ((twT k j : Nat) : Int) := by
            have := HK8.out
            unfold twT
            rcases (by omega : j = 0 ∨ j = 1 ∨ j = 2) with rfl | rfl | rfl <;> rcases (by omega : k = 0 ∨ k = 1 ∨ k = 2 ∨ k = 3 ∨ k = 4 ∨ k = 5 ∨ k = 6 ∨ k = 7) with rfl | rfl | rfl | rfl | rfl | rfl | rfl | rfl <;> rfl
          have e4 : IntKind.u64.wrap ((twT k j : Nat) : Int) = ((twT k j : Nat) : Int) := by
            have : twT k j = 0 ∨ twT k j = 1 := by unfold twT; omega
            rcases this with h | h <;> rw [h] <;> rfl
          have HLI : Hid (((wdL (twT k) j).length + 1) * (IntKind.u64.bits / 8) ≤ 140737488355328) := hid (by rw [wdL_len, show IntKind.u64.bits / 8 = 8 from rfl]; omega)
          clear hj3
          generalize hzz : twT k j = z at *
          clear hzz
          go_wp2_with (refine wpList_append_ints rfl (.tmp 46) (.tmp 53) 24 rfl .u64 wb.heap.size 22 Try.underlying24 (by kernel_rfl) (by decide) _ _ rfl (HOW.out.alloc _) ⟨_, 0, none⟩ 1 1 [(z : Int)] rfl rfl (cell_new_int _ .u64 _ 22) HLI.out (Nat.le_trans HB.out.size (by simp)) wb.heap.size wb (HB.out.alloc HB.out.size _) (Nat.le_refl _) ?_; intro v2 w2 hO2 hL2 _)
          go_roundw
          case rel => exact ⟨j + 1, by omega, by go_num, by rw [HNX.out]; exact hO2, hL2⟩
          case measure => simp [intOf]; omega
        · obtain rfl : j = 3 := by omega
          clear hjm hj
          rw [show ((3 : Nat) : Int) = 3 from rfl]
          have HJ := hid (HI.out.self HB.out)
          have HJL : Hid (Below W.heap.size W wr) := hid HJ.out.low
          have HRS := hid (own_rdS HOW.out (wdL_wf HTW.out) (by rw [wdL_len]; omega))
          have HBK := hid (HBG.out k _ _ HRS.out)
          have HOKK := hid (HOK.out k)
          have HC1 := hid (HC1.out k)
          have HC2 := hid (HC2.out k)
          have HCD := hid (HCD.out k)
          have HCI := hid (HCI.out k)
          have HVL := hid (HVL.out k)
          have HER := hid (HER.out k)
          obtain ⟨R3, hR3⟩ : ∃ R3, thR 3 k D x y = R3 := ⟨_, rfl⟩
          obtain ⟨S3, hS3⟩ : ∃ S3, thS 3 k D x y = S3 := ⟨_, rfl⟩
          obtain ⟨S2, hS2⟩ : ∃ S2, thS2 3 k x y = S2 := ⟨_, rfl⟩
          obtain ⟨S1, hS1⟩ : ∃ S1, thS1 3 k x = S1 := ⟨_, rfl⟩
          obtain ⟨S0, hS0⟩ : ∃ S0, thS0 3 k = S0 := ⟨_, rfl⟩
          obtain ⟨A0, hA0⟩ : ∃ A0, thA 3 k x = A0 := ⟨_, rfl⟩
          obtain ⟨B0, hB0⟩ : ∃ B0, thB 3 k x y = B0 := ⟨_, rfl⟩
          simp only [hR3, hS3, hS2, hS1, hS0, hA0, hB0] at HBK HC1 HC2 HCD HCI HVL HER HOKK
          clear hR3 hS3 hS2 hS1 hS0 hA0 hB0
          go_upto_region 13 with (go_at_call 6; (with_reducible refine (HBK.out).mono ?_); rintro e w2 ⟨p, b, rfl, hz⟩; have Z2 := hid hz; clear hz)
          have H3 := hid ((Gy.start Z2.out).new hM (paC p b (.slice none 0 0) (.slice none 0 0)) 32)
          obtain ⟨b11, hb1⟩ : ∃ b11, w2.heap.size = b11 := ⟨_, rfl⟩
          rw [hb1] at H3
          generalize w2.alloc (.cells #[.pointer (some ⟨p, 0, none⟩), .pointer (some ⟨b, 0, none⟩), .slice none 0 0, .slice none 0 0] 32) = w3' at *
          rw [hb1]
          clear hb1 HBK HRS
          go_upto_region 15 with fail
          go_cut [13, 14] from 63 to 74 (fun q13 q14 wx => ∃ b13 b14, q13 = .pointer (some ⟨b13, 0, none⟩) ∧ q14 = .pointer (some ⟨b14, 0, none⟩) ∧ Gy Pm wr.heap.size (fun _ => False) wr w2 wx p b S2 S0 [(b14, .cells (wdV B0) 39 (0, 0)), (b13, .cells (wdV A0) 39 (0, 0)), (b11, .cells (paC p b (.slice none 0 0) (.slice none 0 0)) 32 (0, 0))])
          case first =>
            have G0 := hid (H3.out.self hM ((Below.refl _ w3').drew))
            refine wp_region_noPanic ?_
            refine wp_region_held_drew (S := fun w' => w'.heap[b11]? = some (.cells (paC p b (.slice none 0 0) (.slice none 0 0)) 32 (0, 0)) ∧ w'.heap[W.heap.size]? = some (.cells (asC true K x y mv) 26 (0, 0))) (by kernel_rfl) (⟨G0.out.bl 0 rfl, (HJ.out.self G0.out.z.low).bl 1 rfl⟩) (fun h0 => ?_)
            generalize w3'.drew = y0 at *
            refine wpAnyH_take (i := 0) (v := .pointer (some ⟨b11, 0, none⟩)) rfl (by kernel_rfl) (by kernel_rfl) (by kernel_rfl) (fun _ _ _ h => h) (.inl ⟨by rfl, fun w hw => by clear hw; go_simp⟩) h0 ?_
            try simp only [Act.put, lay_out]
            refine wpAnyH_take (i := 1) (v := .pointer (some ⟨p, 0, none⟩)) rfl (by kernel_rfl) (by kernel_rfl) (by kernel_rfl) (fun _ _ _ h => h) (.inl ⟨by rfl, fun w' hw => by have hc := row_c (i := 0) (u := .pointer (some ⟨p, 0, none⟩)) hw.1 rfl; clear hw; go_simp⟩) h0 ?_
            try simp only [Act.put, lay_out]
            refine wpAnyH_take (i := 2) (v := .int .i64 3) rfl (by kernel_rfl) (by kernel_rfl) (by kernel_rfl) (fun _ _ _ h => h) (.inl ⟨by rfl, fun w hw => by clear hw; go_simp⟩) h0 ?_
            try simp only [Act.put, lay_out]
            refine wpAnyH_take (i := 3) (v := .pointer (some ⟨W.heap.size, 2, none⟩)) rfl (by kernel_rfl) (by kernel_rfl) (by kernel_rfl) (fun _ _ _ h => h) (.inl ⟨by rfl, fun w hw => by clear hw; go_simp⟩) h0 ?_
            try simp only [Act.put, lay_out]
            refine wpAnyH_take (i := 4) (v := .agg (w3 x)) rfl (by kernel_rfl) (by kernel_rfl) (by kernel_rfl) (fun _ _ _ h => h) (yields_load_w3 (by rfl) _ rfl W.heap.size 2 x rfl (fun w h => asC_x h.2)) h0 ?_
            try simp only [Act.put, lay_out]
            refine wpAnyH_take (i := 6) (v := .pointer (some ⟨b11, 0, none⟩)) rfl (by kernel_rfl) (by kernel_rfl) (by kernel_rfl) (fun _ _ _ h => h) (.inl ⟨by rfl, fun w hw => by clear hw; go_simp⟩) h0 ?_
            try simp only [Act.put, lay_out]
            refine wpAnyH_take (i := 7) (v := .pointer (some ⟨p, 0, none⟩)) rfl (by kernel_rfl) (by kernel_rfl) (by kernel_rfl) (fun _ _ _ h => h) (.inl ⟨by rfl, fun w' hw => by have hc := row_c (i := 0) (u := .pointer (some ⟨p, 0, none⟩)) hw.1 rfl; clear hw; go_simp⟩) h0 ?_
            try simp only [Act.put, lay_out]
            refine wpAnyH_take (i := 8) (v := .int .i64 3) rfl (by kernel_rfl) (by kernel_rfl) (by kernel_rfl) (fun _ _ _ h => h) (.inl ⟨by rfl, fun w hw => by clear hw; go_simp⟩) h0 ?_
            try simp only [Act.put, lay_out]
            refine wpAnyH_take (i := 9) (v := .pointer (some ⟨W.heap.size, 5, none⟩)) rfl (by kernel_rfl) (by kernel_rfl) (by kernel_rfl) (fun _ _ _ h => h) (.inl ⟨by rfl, fun w hw => by clear hw; go_simp⟩) h0 ?_
            try simp only [Act.put, lay_out]
            refine wpAnyH_take (i := 10) (v := .agg (w3 y)) rfl (by kernel_rfl) (by kernel_rfl) (by kernel_rfl) (fun _ _ _ h => h) (yields_load_w3 (by rfl) _ rfl W.heap.size 5 y rfl (fun w h => asC_y h.2)) h0 ?_
            try simp only [Act.put, lay_out]
            refine wpAnyH_ready (rs := [5, 12, 13]) (by kernel_rfl) (by simp) (AllReadyH.cons rfl (fun K hK => ?_) (AllReadyH.cons rfl (fun K hK => ?_) (AllReadyH.cons rfl (fun K hK => ?_) AllReadyH.nil)))
            · rw [if_pos (by rfl)]
              go_simp
              go_at_call 11
              (with_reducible refine (HC1.out _ _ _ _ _ _ G0.out).mono ?_); rintro e y1 ⟨rfl, hz⟩
              have G1 := hid hz
              clear hz
              refine hK.out _ _ (⟨G1.out.bl 0 rfl, (HJ.out.self G1.out.z.low).bl 1 rfl⟩) (fun h1x => ?_)
              clear hK K
              try simp only [Act.put, lay_out]
              refine wpAnyH_ready (rs := [11, 12, 13]) (by kernel_rfl) (by simp) (AllReadyH.cons rfl (fun K hK => ?_) (AllReadyH.cons rfl (fun K hK => ?_) (AllReadyH.cons rfl (fun K hK => ?_) AllReadyH.nil)))
              · rw [if_pos (by rfl)]
                go_simp
                go_at_call 11
                (with_reducible refine (HC2.out _ _ _ _ _ _ G1.out).mono ?_); rintro e y2 ⟨rfl, hz⟩
                have G2 := hid hz
                clear hz
                refine hK.out _ _ (⟨G2.out.bl 0 rfl, (HJ.out.self G2.out.z.low).bl 1 rfl⟩) (fun h2x => ?_)
                clear hK K
                try simp only [Act.put, lay_out]
                refine wpAnyH_ready (rs := [12, 13]) (by kernel_rfl) (by simp) (AllReadyH.cons rfl (fun K hK => ?_) (AllReadyH.cons rfl (fun K hK => ?_) AllReadyH.nil))
                · rw [if_pos (by rfl)]
                  go_simp
                  have G3 := hid (G2.out.new hM #[.int .i64 0, .int .i64 0, .int .i64 0] 39)
                  refine hK.out _ _ (⟨G3.out.bl 1 rfl, (HJ.out.self G3.out.z.low).bl 1 rfl⟩) (fun h3x => ?_)
                  clear hK K
                  try simp only [Act.put, lay_out]
                  generalize y2.alloc (.cells #[.int .i64 0, .int .i64 0, .int .i64 0] 39) = y3 at *
                  refine wpAnyH_ready (rs := [13]) (by kernel_rfl) (by simp) (AllReadyH.cons rfl (fun K hK => ?_) AllReadyH.nil)
                  rw [if_pos (by rfl)]
                  go_simp
                  have G4 := hid (G3.out.new hM #[.int .i64 0, .int .i64 0, .int .i64 0] 39)
                  refine hK.out _ _ (⟨G4.out.bl 2 rfl, (HJ.out.self G4.out.z.low).bl 1 rfl⟩) (fun h4x => ?_)
                  clear hK K
                  try simp only [Act.put, lay_out]
                  generalize y3.alloc (.cells #[.int .i64 0, .int .i64 0, .int .i64 0] 39) = y4 at *
                  have G5 := hid G4.out.swap
                  refine wpAnyH_ready (rs := [14]) (by kernel_rfl) (by simp) (AllReadyH.cons rfl (fun K hK => ?_) AllReadyH.nil)
                  rw [if_pos (by rfl)]
                  refine wp_store_row 39 _ _ rfl (y2.heap.size) (wdV A0) rfl rfl 39 _ (G5.out.bl 0 rfl) (by kernel_rfl) rfl (by kernel_rfl) ?_
                  have G6 := hid (G5.out.row hM (wdV A0))
                  refine hK.out _ _ (⟨G6.out.bl 2 rfl, (HJ.out.self G6.out.z.low).bl 1 rfl⟩) (fun h5x => ?_)
                  clear hK K
                  try simp only [Act.put, lay_out]
                  have G7 := hid G6.out.swap
                  refine wpAnyH_ready (rs := [15]) (by kernel_rfl) (by simp) (AllReadyH.cons rfl (fun K hK => ?_) AllReadyH.nil)
                  rw [if_pos (by rfl)]
                  refine wp_store_row 39 _ _ rfl (y3.heap.size) (wdV B0) rfl rfl 39 _ (G7.out.bl 0 rfl) (by kernel_rfl) rfl (by kernel_rfl) ?_
                  have G8 := hid (G7.out.row hM (wdV B0))
                  refine hK.out _ _ (⟨G8.out.bl 2 rfl, (HJ.out.self G8.out.z.low).bl 1 rfl⟩) (fun h6x => ?_)
                  clear hK K
                  try simp only [Act.put, lay_out]
                  refine wpAnyH_done (by kernel_rfl) ?_ _
                  refine NoPanic.normal ?_
                  clear h0 h1x h2x h3x h4x h5x h6x
                  try simp only [Act.put, lay_out]
                  go_wp2_with fail
                  go_meet
                  exact ⟨_, _, rfl, rfl, G8.out⟩
                · rw [if_pos (by rfl)]
                  go_simp
                  have G3 := hid (G2.out.new hM #[.int .i64 0, .int .i64 0, .int .i64 0] 39)
                  refine hK.out _ _ (⟨G3.out.bl 1 rfl, (HJ.out.self G3.out.z.low).bl 1 rfl⟩) (fun h3x => ?_)
                  clear hK K
                  try simp only [Act.put, lay_out]
                  generalize y2.alloc (.cells #[.int .i64 0, .int .i64 0, .int .i64 0] 39) = y3 at *
                  refine wpAnyH_ready (rs := [12]) (by kernel_rfl) (by simp) (AllReadyH.cons rfl (fun K hK => ?_) AllReadyH.nil)
                  rw [if_pos (by rfl)]
                  go_simp
                  have G4 := hid (G3.out.new hM #[.int .i64 0, .int .i64 0, .int .i64 0] 39)
                  refine hK.out _ _ (⟨G4.out.bl 2 rfl, (HJ.out.self G4.out.z.low).bl 1 rfl⟩) (fun h4x => ?_)
                  clear hK K
                  try simp only [Act.put, lay_out]
                  generalize y3.alloc (.cells #[.int .i64 0, .int .i64 0, .int .i64 0] 39) = y4 at *
                  refine wpAnyH_ready (rs := [14]) (by kernel_rfl) (by simp) (AllReadyH.cons rfl (fun K hK => ?_) AllReadyH.nil)
                  rw [if_pos (by rfl)]
                  refine wp_store_row 39 _ _ rfl (y3.heap.size) (wdV A0) rfl rfl 39 _ (G4.out.bl 0 rfl) (by kernel_rfl) rfl (by kernel_rfl) ?_
                  have G5 := hid (G4.out.row hM (wdV A0))
                  refine hK.out _ _ (⟨G5.out.bl 2 rfl, (HJ.out.self G5.out.z.low).bl 1 rfl⟩) (fun h5x => ?_)
                  clear hK K
                  try simp only [Act.put, lay_out]
                  have G6 := hid G5.out.swap
                  refine wpAnyH_ready (rs := [15]) (by kernel_rfl) (by simp) (AllReadyH.cons rfl (fun K hK => ?_) AllReadyH.nil)
                  rw [if_pos (by rfl)]
                  refine wp_store_row 39 _ _ rfl (y2.heap.size) (wdV B0) rfl rfl 39 _ (G6.out.bl 0 rfl) (by kernel_rfl) rfl (by kernel_rfl) ?_
                  have G7 := hid (G6.out.row hM (wdV B0))
                  refine hK.out _ _ (⟨G7.out.bl 2 rfl, (HJ.out.self G7.out.z.low).bl 1 rfl⟩) (fun h6x => ?_)
                  clear hK K
                  try simp only [Act.put, lay_out]
                  refine wpAnyH_done (by kernel_rfl) ?_ _
                  refine NoPanic.normal ?_
                  clear h0 h1x h2x h3x h4x h5x h6x
                  try simp only [Act.put, lay_out]
                  go_wp2_with fail
                  go_meet
                  exact ⟨_, _, rfl, rfl, G7.out⟩
              · rw [if_pos (by rfl)]
                go_simp
                have G2 := hid (G1.out.new hM #[.int .i64 0, .int .i64 0, .int .i64 0] 39)
                refine hK.out _ _ (⟨G2.out.bl 1 rfl, (HJ.out.self G2.out.z.low).bl 1 rfl⟩) (fun h2x => ?_)
                clear hK K
                try simp only [Act.put, lay_out]
                generalize y1.alloc (.cells #[.int .i64 0, .int .i64 0, .int .i64 0] 39) = y2 at *
                refine wpAnyH_ready (rs := [11, 13]) (by kernel_rfl) (by simp) (AllReadyH.cons rfl (fun K hK => ?_) (AllReadyH.cons rfl (fun K hK => ?_) AllReadyH.nil))
                · rw [if_pos (by rfl)]
                  go_simp
                  go_at_call 11
                  (with_reducible refine (HC2.out _ _ _ _ _ _ G2.out).mono ?_); rintro e y3 ⟨rfl, hz⟩
                  have G3 := hid hz
                  clear hz
                  refine hK.out _ _ (⟨G3.out.bl 1 rfl, (HJ.out.self G3.out.z.low).bl 1 rfl⟩) (fun h3x => ?_)
                  clear hK K
                  try simp only [Act.put, lay_out]
                  refine wpAnyH_ready (rs := [13]) (by kernel_rfl) (by simp) (AllReadyH.cons rfl (fun K hK => ?_) AllReadyH.nil)
                  rw [if_pos (by rfl)]
                  go_simp
                  have G4 := hid (G3.out.new hM #[.int .i64 0, .int .i64 0, .int .i64 0] 39)
                  refine hK.out _ _ (⟨G4.out.bl 2 rfl, (HJ.out.self G4.out.z.low).bl 1 rfl⟩) (fun h4x => ?_)
                  clear hK K
                  try simp only [Act.put, lay_out]
                  generalize y3.alloc (.cells #[.int .i64 0, .int .i64 0, .int .i64 0] 39) = y4 at *
                  have G5 := hid G4.out.swap
                  refine wpAnyH_ready (rs := [14]) (by kernel_rfl) (by simp) (AllReadyH.cons rfl (fun K hK => ?_) AllReadyH.nil)
                  rw [if_pos (by rfl)]
                  refine wp_store_row 39 _ _ rfl (y1.heap.size) (wdV A0) rfl rfl 39 _ (G5.out.bl 0 rfl) (by kernel_rfl) rfl (by kernel_rfl) ?_
                  have G6 := hid (G5.out.row hM (wdV A0))
                  refine hK.out _ _ (⟨G6.out.bl 2 rfl, (HJ.out.self G6.out.z.low).bl 1 rfl⟩) (fun h5x => ?_)
                  clear hK K
                  try simp only [Act.put, lay_out]
                  have G7 := hid G6.out.swap
                  refine wpAnyH_ready (rs := [15]) (by kernel_rfl) (by simp) (AllReadyH.cons rfl (fun K hK => ?_) AllReadyH.nil)
                  rw [if_pos (by rfl)]
                  refine wp_store_row 39 _ _ rfl (y3.heap.size) (wdV B0) rfl rfl 39 _ (G7.out.bl 0 rfl) (by kernel_rfl) rfl (by kernel_rfl) ?_
                  have G8 := hid (G7.out.row hM (wdV B0))
                  refine hK.out _ _ (⟨G8.out.bl 2 rfl, (HJ.out.self G8.out.z.low).bl 1 rfl⟩) (fun h6x => ?_)
                  clear hK K
                  try simp only [Act.put, lay_out]
                  refine wpAnyH_done (by kernel_rfl) ?_ _
                  refine NoPanic.normal ?_
                  clear h0 h1x h2x h3x h4x h5x h6x
                  try simp only [Act.put, lay_out]
                  go_wp2_with fail
                  go_meet
                  exact ⟨_, _, rfl, rfl, G8.out⟩
                · rw [if_pos (by rfl)]
                  go_simp
                  have G3 := hid (G2.out.new hM #[.int .i64 0, .int .i64 0, .int .i64 0] 39)
                  refine hK.out _ _ (⟨G3.out.bl 2 rfl, (HJ.out.self G3.out.z.low).bl 1 rfl⟩) (fun h3x => ?_)
                  clear hK K
                  try simp only [Act.put, lay_out]
                  generalize y2.alloc (.cells #[.int .i64 0, .int .i64 0, .int .i64 0] 39) = y3 at *
                  refine wpAnyH_ready (rs := [11]) (by kernel_rfl) (by simp) (AllReadyH.cons rfl (fun K hK => ?_) AllReadyH.nil)
                  rw [if_pos (by rfl)]
                  go_simp
                  go_at_call 11
                  (with_reducible refine (HC2.out _ _ _ _ _ _ G3.out).mono ?_); rintro e y4 ⟨rfl, hz⟩
                  have G4 := hid hz
                  clear hz
                  refine hK.out _ _ (⟨G4.out.bl 2 rfl, (HJ.out.self G4.out.z.low).bl 1 rfl⟩) (fun h4x => ?_)
                  clear hK K
                  try simp only [Act.put, lay_out]
                  have G5 := hid G4.out.swap
                  refine wpAnyH_ready (rs := [14]) (by kernel_rfl) (by simp) (AllReadyH.cons rfl (fun K hK => ?_) AllReadyH.nil)
                  rw [if_pos (by rfl)]
                  refine wp_store_row 39 _ _ rfl (y1.heap.size) (wdV A0) rfl rfl 39 _ (G5.out.bl 0 rfl) (by kernel_rfl) rfl (by kernel_rfl) ?_
                  have G6 := hid (G5.out.row hM (wdV A0))
                  refine hK.out _ _ (⟨G6.out.bl 2 rfl, (HJ.out.self G6.out.z.low).bl 1 rfl⟩) (fun h5x => ?_)
                  clear hK K
                  try simp only [Act.put, lay_out]
                  have G7 := hid G6.out.swap
                  refine wpAnyH_ready (rs := [15]) (by kernel_rfl) (by simp) (AllReadyH.cons rfl (fun K hK => ?_) AllReadyH.nil)
                  rw [if_pos (by rfl)]
                  refine wp_store_row 39 _ _ rfl (y2.heap.size) (wdV B0) rfl rfl 39 _ (G7.out.bl 0 rfl) (by kernel_rfl) rfl (by kernel_rfl) ?_
                  have G8 := hid (G7.out.row hM (wdV B0))
                  refine hK.out _ _ (⟨G8.out.bl 2 rfl, (HJ.out.self G8.out.z.low).bl 1 rfl⟩) (fun h6x => ?_)
                  clear hK K
                  try simp only [Act.put, lay_out]
                  refine wpAnyH_done (by kernel_rfl) ?_ _
                  refine NoPanic.normal ?_
                  clear h0 h1x h2x h3x h4x h5x h6x
                  try simp only [Act.put, lay_out]
                  go_wp2_with fail
                  go_meet
                  exact ⟨_, _, rfl, rfl, G8.out⟩
              · rw [if_pos (by rfl)]
                go_simp
                have G2 := hid (G1.out.new hM #[.int .i64 0, .int .i64 0, .int .i64 0] 39)
                refine hK.out _ _ (⟨G2.out.bl 1 rfl, (HJ.out.self G2.out.z.low).bl 1 rfl⟩) (fun h2x => ?_)
                clear hK K
                try simp only [Act.put, lay_out]
                generalize y1.alloc (.cells #[.int .i64 0, .int .i64 0, .int .i64 0] 39) = y2 at *
                refine wpAnyH_ready (rs := [11, 12]) (by kernel_rfl) (by simp) (AllReadyH.cons rfl (fun K hK => ?_) (AllReadyH.cons rfl (fun K hK => ?_) AllReadyH.nil))
                · rw [if_pos (by rfl)]
                  go_simp
                  go_at_call 11
                  (with_reducible refine (HC2.out _ _ _ _ _ _ G2.out).mono ?_); rintro e y3 ⟨rfl, hz⟩
                  have G3 := hid hz
                  clear hz
                  refine hK.out _ _ (⟨G3.out.bl 1 rfl, (HJ.out.self G3.out.z.low).bl 1 rfl⟩) (fun h3x => ?_)
                  clear hK K
                  try simp only [Act.put, lay_out]
                  refine wpAnyH_ready (rs := [12]) (by kernel_rfl) (by simp) (AllReadyH.cons rfl (fun K hK => ?_) AllReadyH.nil)
                  rw [if_pos (by rfl)]
                  go_simp
                  have G4 := hid (G3.out.new hM #[.int .i64 0, .int .i64 0, .int .i64 0] 39)
                  refine hK.out _ _ (⟨G4.out.bl 2 rfl, (HJ.out.self G4.out.z.low).bl 1 rfl⟩) (fun h4x => ?_)
                  clear hK K
                  try simp only [Act.put, lay_out]
                  generalize y3.alloc (.cells #[.int .i64 0, .int .i64 0, .int .i64 0] 39) = y4 at *
                  refine wpAnyH_ready (rs := [14]) (by kernel_rfl) (by simp) (AllReadyH.cons rfl (fun K hK => ?_) AllReadyH.nil)
                  rw [if_pos (by rfl)]
                  refine wp_store_row 39 _ _ rfl (y3.heap.size) (wdV A0) rfl rfl 39 _ (G4.out.bl 0 rfl) (by kernel_rfl) rfl (by kernel_rfl) ?_
                  have G5 := hid (G4.out.row hM (wdV A0))
                  refine hK.out _ _ (⟨G5.out.bl 2 rfl, (HJ.out.self G5.out.z.low).bl 1 rfl⟩) (fun h5x => ?_)
                  clear hK K
                  try simp only [Act.put, lay_out]
                  have G6 := hid G5.out.swap
                  refine wpAnyH_ready (rs := [15]) (by kernel_rfl) (by simp) (AllReadyH.cons rfl (fun K hK => ?_) AllReadyH.nil)
                  rw [if_pos (by rfl)]
                  refine wp_store_row 39 _ _ rfl (y1.heap.size) (wdV B0) rfl rfl 39 _ (G6.out.bl 0 rfl) (by kernel_rfl) rfl (by kernel_rfl) ?_
                  have G7 := hid (G6.out.row hM (wdV B0))
                  refine hK.out _ _ (⟨G7.out.bl 2 rfl, (HJ.out.self G7.out.z.low).bl 1 rfl⟩) (fun h6x => ?_)
                  clear hK K
                  try simp only [Act.put, lay_out]
                  refine wpAnyH_done (by kernel_rfl) ?_ _
                  refine NoPanic.normal ?_
                  clear h0 h1x h2x h3x h4x h5x h6x
                  try simp only [Act.put, lay_out]
                  go_wp2_with fail
                  go_meet
                  exact ⟨_, _, rfl, rfl, G7.out⟩
                · rw [if_pos (by rfl)]
                  go_simp
                  have G3 := hid (G2.out.new hM #[.int .i64 0, .int .i64 0, .int .i64 0] 39)
                  refine hK.out _ _ (⟨G3.out.bl 2 rfl, (HJ.out.self G3.out.z.low).bl 1 rfl⟩) (fun h3x => ?_)
                  clear hK K
                  try simp only [Act.put, lay_out]
                  generalize y2.alloc (.cells #[.int .i64 0, .int .i64 0, .int .i64 0] 39) = y3 at *
                  refine wpAnyH_ready (rs := [11]) (by kernel_rfl) (by simp) (AllReadyH.cons rfl (fun K hK => ?_) AllReadyH.nil)
                  rw [if_pos (by rfl)]
                  go_simp
                  go_at_call 11
                  (with_reducible refine (HC2.out _ _ _ _ _ _ G3.out).mono ?_); rintro e y4 ⟨rfl, hz⟩
                  have G4 := hid hz
                  clear hz
                  refine hK.out _ _ (⟨G4.out.bl 2 rfl, (HJ.out.self G4.out.z.low).bl 1 rfl⟩) (fun h4x => ?_)
                  clear hK K
                  try simp only [Act.put, lay_out]
                  refine wpAnyH_ready (rs := [14]) (by kernel_rfl) (by simp) (AllReadyH.cons rfl (fun K hK => ?_) AllReadyH.nil)
                  rw [if_pos (by rfl)]
                  refine wp_store_row 39 _ _ rfl (y2.heap.size) (wdV A0) rfl rfl 39 _ (G4.out.bl 0 rfl) (by kernel_rfl) rfl (by kernel_rfl) ?_
                  have G5 := hid (G4.out.row hM (wdV A0))
                  refine hK.out _ _ (⟨G5.out.bl 2 rfl, (HJ.out.self G5.out.z.low).bl 1 rfl⟩) (fun h5x => ?_)
                  clear hK K
                  try simp only [Act.put, lay_out]
                  have G6 := hid G5.out.swap
                  refine wpAnyH_ready (rs := [15]) (by kernel_rfl) (by simp) (AllReadyH.cons rfl (fun K hK => ?_) AllReadyH.nil)
                  rw [if_pos (by rfl)]
                  refine wp_store_row 39 _ _ rfl (y1.heap.size) (wdV B0) rfl rfl 39 _ (G6.out.bl 0 rfl) (by kernel_rfl) rfl (by kernel_rfl) ?_
                  have G7 := hid (G6.out.row hM (wdV B0))
                  refine hK.out _ _ (⟨G7.out.bl 2 rfl, (HJ.out.self G7.out.z.low).bl 1 rfl⟩) (fun h6x => ?_)
                  clear hK K
                  try simp only [Act.put, lay_out]
                  refine wpAnyH_done (by kernel_rfl) ?_ _
                  refine NoPanic.normal ?_
                  clear h0 h1x h2x h3x h4x h5x h6x
                  try simp only [Act.put, lay_out]
                  go_wp2_with fail
                  go_meet
                  exact ⟨_, _, rfl, rfl, G7.out⟩
            · rw [if_pos (by rfl)]
              go_simp
              have G1 := hid (G0.out.new hM #[.int .i64 0, .int .i64 0, .int .i64 0] 39)
              refine hK.out _ _ (⟨G1.out.bl 1 rfl, (HJ.out.self G1.out.z.low).bl 1 rfl⟩) (fun h1x => ?_)
              clear hK K
              try simp only [Act.put, lay_out]
              generalize y0.alloc (.cells #[.int .i64 0, .int .i64 0, .int .i64 0] 39) = y1 at *
              refine wpAnyH_ready (rs := [5, 13]) (by kernel_rfl) (by simp) (AllReadyH.cons rfl (fun K hK => ?_) (AllReadyH.cons rfl (fun K hK => ?_) AllReadyH.nil))
              · rw [if_pos (by rfl)]
                go_simp
                go_at_call 11
                (with_reducible refine (HC1.out _ _ _ _ _ _ G1.out).mono ?_); rintro e y2 ⟨rfl, hz⟩
                have G2 := hid hz
                clear hz
                refine hK.out _ _ (⟨G2.out.bl 1 rfl, (HJ.out.self G2.out.z.low).bl 1 rfl⟩) (fun h2x => ?_)
                clear hK K
                try simp only [Act.put, lay_out]
                refine wpAnyH_ready (rs := [11, 13]) (by kernel_rfl) (by simp) (AllReadyH.cons rfl (fun K hK => ?_) (AllReadyH.cons rfl (fun K hK => ?_) AllReadyH.nil))
                · rw [if_pos (by rfl)]
                  go_simp
                  go_at_call 11
                  (with_reducible refine (HC2.out _ _ _ _ _ _ G2.out).mono ?_); rintro e y3 ⟨rfl, hz⟩
                  have G3 := hid hz
                  clear hz
                  refine hK.out _ _ (⟨G3.out.bl 1 rfl, (HJ.out.self G3.out.z.low).bl 1 rfl⟩) (fun h3x => ?_)
                  clear hK K
                  try simp only [Act.put, lay_out]
                  refine wpAnyH_ready (rs := [13]) (by kernel_rfl) (by simp) (AllReadyH.cons rfl (fun K hK => ?_) AllReadyH.nil)
                  rw [if_pos (by rfl)]
                  go_simp
                  have G4 := hid (G3.out.new hM #[.int .i64 0, .int .i64 0, .int .i64 0] 39)
                  refine hK.out _ _ (⟨G4.out.bl 2 rfl, (HJ.out.self G4.out.z.low).bl 1 rfl⟩) (fun h4x => ?_)
                  clear hK K
                  try simp only [Act.put, lay_out]
                  generalize y3.alloc (.cells #[.int .i64 0, .int .i64 0, .int .i64 0] 39) = y4 at *
                  have G5 := hid G4.out.swap
                  refine wpAnyH_ready (rs := [14]) (by kernel_rfl) (by simp) (AllReadyH.cons rfl (fun K hK => ?_) AllReadyH.nil)
                  rw [if_pos (by rfl)]
                  refine wp_store_row 39 _ _ rfl (y0.heap.size) (wdV A0) rfl rfl 39 _ (G5.out.bl 0 rfl) (by kernel_rfl) rfl (by kernel_rfl) ?_
                  have G6 := hid (G5.out.row hM (wdV A0))
                  refine hK.out _ _ (⟨G6.out.bl 2 rfl, (HJ.out.self G6.out.z.low).bl 1 rfl⟩) (fun h5x => ?_)
                  clear hK K
                  try simp only [Act.put, lay_out]
                  have G7 := hid G6.out.swap
                  refine wpAnyH_ready (rs := [15]) (by kernel_rfl) (by simp) (AllReadyH.cons rfl (fun K hK => ?_) AllReadyH.nil)
                  rw [if_pos (by rfl)]
                  refine wp_store_row 39 _ _ rfl (y3.heap.size) (wdV B0) rfl rfl 39 _ (G7.out.bl 0 rfl) (by kernel_rfl) rfl (by kernel_rfl) ?_
                  have G8 := hid (G7.out.row hM (wdV B0))
                  refine hK.out _ _ (⟨G8.out.bl 2 rfl, (HJ.out.self G8.out.z.low).bl 1 rfl⟩) (fun h6x => ?_)
                  clear hK K
                  try simp only [Act.put, lay_out]
                  refine wpAnyH_done (by kernel_rfl) ?_ _
                  refine NoPanic.normal ?_
                  clear h0 h1x h2x h3x h4x h5x h6x
                  try simp only [Act.put, lay_out]
                  go_wp2_with fail
                  go_meet
                  exact ⟨_, _, rfl, rfl, G8.out⟩
                · rw [if_pos (by rfl)]
                  go_simp
                  have G3 := hid (G2.out.new hM #[.int .i64 0, .int .i64 0, .int .i64 0] 39)
                  refine hK.out _ _ (⟨G3.out.bl 2 rfl, (HJ.out.self G3.out.z.low).bl 1 rfl⟩) (fun h3x => ?_)
                  clear hK K
                  try simp only [Act.put, lay_out]
                  generalize y2.alloc (.cells #[.int .i64 0, .int .i64 0, .int .i64 0] 39) = y3 at *
                  refine wpAnyH_ready (rs := [11]) (by kernel_rfl) (by simp) (AllReadyH.cons rfl (fun K hK => ?_) AllReadyH.nil)
                  rw [if_pos (by rfl)]
                  go_simp
                  go_at_call 11
                  (with_reducible refine (HC2.out _ _ _ _ _ _ G3.out).mono ?_); rintro e y4 ⟨rfl, hz⟩
                  have G4 := hid hz
                  clear hz
                  refine hK.out _ _ (⟨G4.out.bl 2 rfl, (HJ.out.self G4.out.z.low).bl 1 rfl⟩) (fun h4x => ?_)
                  clear hK K
                  try simp only [Act.put, lay_out]
                  have G5 := hid G4.out.swap
                  refine wpAnyH_ready (rs := [14]) (by kernel_rfl) (by simp) (AllReadyH.cons rfl (fun K hK => ?_) AllReadyH.nil)
                  rw [if_pos (by rfl)]
                  refine wp_store_row 39 _ _ rfl (y0.heap.size) (wdV A0) rfl rfl 39 _ (G5.out.bl 0 rfl) (by kernel_rfl) rfl (by kernel_rfl) ?_
                  have G6 := hid (G5.out.row hM (wdV A0))
                  refine hK.out _ _ (⟨G6.out.bl 2 rfl, (HJ.out.self G6.out.z.low).bl 1 rfl⟩) (fun h5x => ?_)
                  clear hK K
                  try simp only [Act.put, lay_out]
                  have G7 := hid G6.out.swap
                  refine wpAnyH_ready (rs := [15]) (by kernel_rfl) (by simp) (AllReadyH.cons rfl (fun K hK => ?_) AllReadyH.nil)
                  rw [if_pos (by rfl)]
                  refine wp_store_row 39 _ _ rfl (y2.heap.size) (wdV B0) rfl rfl 39 _ (G7.out.bl 0 rfl) (by kernel_rfl) rfl (by kernel_rfl) ?_
                  have G8 := hid (G7.out.row hM (wdV B0))
                  refine hK.out _ _ (⟨G8.out.bl 2 rfl, (HJ.out.self G8.out.z.low).bl 1 rfl⟩) (fun h6x => ?_)
                  clear hK K
                  try simp only [Act.put, lay_out]
                  refine wpAnyH_done (by kernel_rfl) ?_ _
                  refine NoPanic.normal ?_
                  clear h0 h1x h2x h3x h4x h5x h6x
                  try simp only [Act.put, lay_out]
                  go_wp2_with fail
                  go_meet
                  exact ⟨_, _, rfl, rfl, G8.out⟩
              · rw [if_pos (by rfl)]
                go_simp
                have G2 := hid (G1.out.new hM #[.int .i64 0, .int .i64 0, .int .i64 0] 39)
                refine hK.out _ _ (⟨G2.out.bl 2 rfl, (HJ.out.self G2.out.z.low).bl 1 rfl⟩) (fun h2x => ?_)
                clear hK K
                try simp only [Act.put, lay_out]
                generalize y1.alloc (.cells #[.int .i64 0, .int .i64 0, .int .i64 0] 39) = y2 at *
                refine wpAnyH_ready (rs := [5]) (by kernel_rfl) (by simp) (AllReadyH.cons rfl (fun K hK => ?_) AllReadyH.nil)
                rw [if_pos (by rfl)]
                go_simp
                go_at_call 11
                (with_reducible refine (HC1.out _ _ _ _ _ _ G2.out).mono ?_); rintro e y3 ⟨rfl, hz⟩
                have G3 := hid hz
                clear hz
                refine hK.out _ _ (⟨G3.out.bl 2 rfl, (HJ.out.self G3.out.z.low).bl 1 rfl⟩) (fun h3x => ?_)
                clear hK K
                try simp only [Act.put, lay_out]
                refine wpAnyH_ready (rs := [11]) (by kernel_rfl) (by simp) (AllReadyH.cons rfl (fun K hK => ?_) AllReadyH.nil)
                rw [if_pos (by rfl)]
                go_simp
                go_at_call 11
                (with_reducible refine (HC2.out _ _ _ _ _ _ G3.out).mono ?_); rintro e y4 ⟨rfl, hz⟩
                have G4 := hid hz
                clear hz
                refine hK.out _ _ (⟨G4.out.bl 2 rfl, (HJ.out.self G4.out.z.low).bl 1 rfl⟩) (fun h4x => ?_)
                clear hK K
                try simp only [Act.put, lay_out]
                have G5 := hid G4.out.swap
                refine wpAnyH_ready (rs := [14]) (by kernel_rfl) (by simp) (AllReadyH.cons rfl (fun K hK => ?_) AllReadyH.nil)
                rw [if_pos (by rfl)]
                refine wp_store_row 39 _ _ rfl (y0.heap.size) (wdV A0) rfl rfl 39 _ (G5.out.bl 0 rfl) (by kernel_rfl) rfl (by kernel_rfl) ?_
                have G6 := hid (G5.out.row hM (wdV A0))
                refine hK.out _ _ (⟨G6.out.bl 2 rfl, (HJ.out.self G6.out.z.low).bl 1 rfl⟩) (fun h5x => ?_)
                clear hK K
                try simp only [Act.put, lay_out]
                have G7 := hid G6.out.swap
                refine wpAnyH_ready (rs := [15]) (by kernel_rfl) (by simp) (AllReadyH.cons rfl (fun K hK => ?_) AllReadyH.nil)
                rw [if_pos (by rfl)]
                refine wp_store_row 39 _ _ rfl (y1.heap.size) (wdV B0) rfl rfl 39 _ (G7.out.bl 0 rfl) (by kernel_rfl) rfl (by kernel_rfl) ?_
                have G8 := hid (G7.out.row hM (wdV B0))
                refine hK.out _ _ (⟨G8.out.bl 2 rfl, (HJ.out.self G8.out.z.low).bl 1 rfl⟩) (fun h6x => ?_)
                clear hK K
                try simp only [Act.put, lay_out]
                refine wpAnyH_done (by kernel_rfl) ?_ _
                refine NoPanic.normal ?_
                clear h0 h1x h2x h3x h4x h5x h6x
                try simp only [Act.put, lay_out]
                go_wp2_with fail
                go_meet
                exact ⟨_, _, rfl, rfl, G8.out⟩
            · rw [if_pos (by rfl)]
              go_simp
              have G1 := hid (G0.out.new hM #[.int .i64 0, .int .i64 0, .int .i64 0] 39)
              refine hK.out _ _ (⟨G1.out.bl 1 rfl, (HJ.out.self G1.out.z.low).bl 1 rfl⟩) (fun h1x => ?_)
              clear hK K
              try simp only [Act.put, lay_out]
              generalize y0.alloc (.cells #[.int .i64 0, .int .i64 0, .int .i64 0] 39) = y1 at *
              refine wpAnyH_ready (rs := [5, 12]) (by kernel_rfl) (by simp) (AllReadyH.cons rfl (fun K hK => ?_) (AllReadyH.cons rfl (fun K hK => ?_) AllReadyH.nil))
              · rw [if_pos (by rfl)]
                go_simp
                go_at_call 11
                (with_reducible refine (HC1.out _ _ _ _ _ _ G1.out).mono ?_); rintro e y2 ⟨rfl, hz⟩
                have G2 := hid hz
                clear hz
                refine hK.out _ _ (⟨G2.out.bl 1 rfl, (HJ.out.self G2.out.z.low).bl 1 rfl⟩) (fun h2x => ?_)
                clear hK K
                try simp only [Act.put, lay_out]
                refine wpAnyH_ready (rs := [11, 12]) (by kernel_rfl) (by simp) (AllReadyH.cons rfl (fun K hK => ?_) (AllReadyH.cons rfl (fun K hK => ?_) AllReadyH.nil))
                · rw [if_pos (by rfl)]
                  go_simp
                  go_at_call 11
                  (with_reducible refine (HC2.out _ _ _ _ _ _ G2.out).mono ?_); rintro e y3 ⟨rfl, hz⟩
                  have G3 := hid hz
                  clear hz
                  refine hK.out _ _ (⟨G3.out.bl 1 rfl, (HJ.out.self G3.out.z.low).bl 1 rfl⟩) (fun h3x => ?_)
                  clear hK K
                  try simp only [Act.put, lay_out]
                  refine wpAnyH_ready (rs := [12]) (by kernel_rfl) (by simp) (AllReadyH.cons rfl (fun K hK => ?_) AllReadyH.nil)
                  rw [if_pos (by rfl)]
                  go_simp
                  have G4 := hid (G3.out.new hM #[.int .i64 0, .int .i64 0, .int .i64 0] 39)
                  refine hK.out _ _ (⟨G4.out.bl 2 rfl, (HJ.out.self G4.out.z.low).bl 1 rfl⟩) (fun h4x => ?_)
                  clear hK K
                  try simp only [Act.put, lay_out]
                  generalize y3.alloc (.cells #[.int .i64 0, .int .i64 0, .int .i64 0] 39) = y4 at *
                  refine wpAnyH_ready (rs := [14]) (by kernel_rfl) (by simp) (AllReadyH.cons rfl (fun K hK => ?_) AllReadyH.nil)
                  rw [if_pos (by rfl)]
                  refine wp_store_row 39 _ _ rfl (y3.heap.size) (wdV A0) rfl rfl 39 _ (G4.out.bl 0 rfl) (by kernel_rfl) rfl (by kernel_rfl) ?_
                  have G5 := hid (G4.out.row hM (wdV A0))
                  refine hK.out _ _ (⟨G5.out.bl 2 rfl, (HJ.out.self G5.out.z.low).bl 1 rfl⟩) (fun h5x => ?_)
                  clear hK K
                  try simp only [Act.put, lay_out]
                  have G6 := hid G5.out.swap
                  refine wpAnyH_ready (rs := [15]) (by kernel_rfl) (by simp) (AllReadyH.cons rfl (fun K hK => ?_) AllReadyH.nil)
                  rw [if_pos (by rfl)]
                  refine wp_store_row 39 _ _ rfl (y0.heap.size) (wdV B0) rfl rfl 39 _ (G6.out.bl 0 rfl) (by kernel_rfl) rfl (by kernel_rfl) ?_
                  have G7 := hid (G6.out.row hM (wdV B0))
                  refine hK.out _ _ (⟨G7.out.bl 2 rfl, (HJ.out.self G7.out.z.low).bl 1 rfl⟩) (fun h6x => ?_)
                  clear hK K
                  try simp only [Act.put, lay_out]
                  refine wpAnyH_done (by kernel_rfl) ?_ _
                  refine NoPanic.normal ?_
                  clear h0 h1x h2x h3x h4x h5x h6x
                  try simp only [Act.put, lay_out]
                  go_wp2_with fail
                  go_meet
                  exact ⟨_, _, rfl, rfl, G7.out⟩
                · rw [if_pos (by rfl)]
                  go_simp
                  have G3 := hid (G2.out.new hM #[.int .i64 0, .int .i64 0, .int .i64 0] 39)
                  refine hK.out _ _ (⟨G3.out.bl 2 rfl, (HJ.out.self G3.out.z.low).bl 1 rfl⟩) (fun h3x => ?_)
                  clear hK K
                  try simp only [Act.put, lay_out]
                  generalize y2.alloc (.cells #[.int .i64 0, .int .i64 0, .int .i64 0] 39) = y3 at *
                  refine wpAnyH_ready (rs := [11]) (by kernel_rfl) (by simp) (AllReadyH.cons rfl (fun K hK => ?_) AllReadyH.nil)
                  rw [if_pos (by rfl)]
                  go_simp
                  go_at_call 11
                  (with_reducible refine (HC2.out _ _ _ _ _ _ G3.out).mono ?_); rintro e y4 ⟨rfl, hz⟩
                  have G4 := hid hz
                  clear hz
                  refine hK.out _ _ (⟨G4.out.bl 2 rfl, (HJ.out.self G4.out.z.low).bl 1 rfl⟩) (fun h4x => ?_)
                  clear hK K
                  try simp only [Act.put, lay_out]
                  refine wpAnyH_ready (rs := [14]) (by kernel_rfl) (by simp) (AllReadyH.cons rfl (fun K hK => ?_) AllReadyH.nil)
                  rw [if_pos (by rfl)]
                  refine wp_store_row 39 _ _ rfl (y2.heap.size) (wdV A0) rfl rfl 39 _ (G4.out.bl 0 rfl) (by kernel_rfl) rfl (by kernel_rfl) ?_
                  have G5 := hid (G4.out.row hM (wdV A0))
                  refine hK.out _ _ (⟨G5.out.bl 2 rfl, (HJ.out.self G5.out.z.low).bl 1 rfl⟩) (fun h5x => ?_)
                  clear hK K
                  try simp only [Act.put, lay_out]
                  have G6 := hid G5.out.swap
                  refine wpAnyH_ready (rs := [15]) (by kernel_rfl) (by simp) (AllReadyH.cons rfl (fun K hK => ?_) AllReadyH.nil)
                  rw [if_pos (by rfl)]
                  refine wp_store_row 39 _ _ rfl (y0.heap.size) (wdV B0) rfl rfl 39 _ (G6.out.bl 0 rfl) (by kernel_rfl) rfl (by kernel_rfl) ?_
                  have G7 := hid (G6.out.row hM (wdV B0))
                  refine hK.out _ _ (⟨G7.out.bl 2 rfl, (HJ.out.self G7.out.z.low).bl 1 rfl⟩) (fun h6x => ?_)
                  clear hK K
                  try simp only [Act.put, lay_out]
                  refine wpAnyH_done (by kernel_rfl) ?_ _
                  refine NoPanic.normal ?_
                  clear h0 h1x h2x h3x h4x h5x h6x
                  try simp only [Act.put, lay_out]
                  go_wp2_with fail
                  go_meet
                  exact ⟨_, _, rfl, rfl, G7.out⟩
              · rw [if_pos (by rfl)]
                go_simp
                have G2 := hid (G1.out.new hM #[.int .i64 0, .int .i64 0, .int .i64 0] 39)
                refine hK.out _ _ (⟨G2.out.bl 2 rfl, (HJ.out.self G2.out.z.low).bl 1 rfl⟩) (fun h2x => ?_)
                clear hK K
                try simp only [Act.put, lay_out]
                generalize y1.alloc (.cells #[.int .i64 0, .int .i64 0, .int .i64 0] 39) = y2 at *
                refine wpAnyH_ready (rs := [5]) (by kernel_rfl) (by simp) (AllReadyH.cons rfl (fun K hK => ?_) AllReadyH.nil)
                rw [if_pos (by rfl)]
                go_simp
                go_at_call 11
                (with_reducible refine (HC1.out _ _ _ _ _ _ G2.out).mono ?_); rintro e y3 ⟨rfl, hz⟩
                have G3 := hid hz
                clear hz
                refine hK.out _ _ (⟨G3.out.bl 2 rfl, (HJ.out.self G3.out.z.low).bl 1 rfl⟩) (fun h3x => ?_)
                clear hK K
                try simp only [Act.put, lay_out]
                refine wpAnyH_ready (rs := [11]) (by kernel_rfl) (by simp) (AllReadyH.cons rfl (fun K hK => ?_) AllReadyH.nil)
                rw [if_pos (by rfl)]
                go_simp
                go_at_call 11
                (with_reducible refine (HC2.out _ _ _ _ _ _ G3.out).mono ?_); rintro e y4 ⟨rfl, hz⟩
                have G4 := hid hz
                clear hz
                refine hK.out _ _ (⟨G4.out.bl 2 rfl, (HJ.out.self G4.out.z.low).bl 1 rfl⟩) (fun h4x => ?_)
                clear hK K
                try simp only [Act.put, lay_out]
                refine wpAnyH_ready (rs := [14]) (by kernel_rfl) (by simp) (AllReadyH.cons rfl (fun K hK => ?_) AllReadyH.nil)
                rw [if_pos (by rfl)]
                refine wp_store_row 39 _ _ rfl (y1.heap.size) (wdV A0) rfl rfl 39 _ (G4.out.bl 0 rfl) (by kernel_rfl) rfl (by kernel_rfl) ?_
                have G5 := hid (G4.out.row hM (wdV A0))
                refine hK.out _ _ (⟨G5.out.bl 2 rfl, (HJ.out.self G5.out.z.low).bl 1 rfl⟩) (fun h5x => ?_)
                clear hK K
                try simp only [Act.put, lay_out]
                have G6 := hid G5.out.swap
                refine wpAnyH_ready (rs := [15]) (by kernel_rfl) (by simp) (AllReadyH.cons rfl (fun K hK => ?_) AllReadyH.nil)
                rw [if_pos (by rfl)]
                refine wp_store_row 39 _ _ rfl (y0.heap.size) (wdV B0) rfl rfl 39 _ (G6.out.bl 0 rfl) (by kernel_rfl) rfl (by kernel_rfl) ?_
                have G7 := hid (G6.out.row hM (wdV B0))
                refine hK.out _ _ (⟨G7.out.bl 2 rfl, (HJ.out.self G7.out.z.low).bl 1 rfl⟩) (fun h6x => ?_)
                clear hK K
                try simp only [Act.put, lay_out]
                refine wpAnyH_done (by kernel_rfl) ?_ _
                refine NoPanic.normal ?_
                clear h0 h1x h2x h3x h4x h5x h6x
                try simp only [Act.put, lay_out]
                go_wp2_with fail
                go_meet
                exact ⟨_, _, rfl, rfl, G7.out⟩
          case rest =>
            obtain ⟨b13, b14, rfl, rfl, hcut⟩ := hcut
            have H4 := hid hcut
            clear hcut H3
            go_upto_region 17 with fail
            have H5 := hid (H4.out.new hM #[.int .i64 0, .int .i64 0, .int .i64 0] 39)
            obtain ⟨b15, hb5⟩ : ∃ b15, wc.heap.size = b15 := ⟨_, rfl⟩
            rw [hb5] at H5
            generalize wc.alloc (.cells #[.int .i64 0, .int .i64 0, .int .i64 0] 39) = w5 at *
            rw [hb5]
            clear hb5 H4
            have HA := hid ((HJ.out.self H5.out.z.low).bl 1 rfl)
            have c1 := row_c (i := 0) (u := .pointer (some ⟨p, 0, none⟩)) (H5.out.bl 3 rfl) rfl
            have cK := row_c (i := 1) (u := .int .i64 K) HA.out rfl
            go_upto_if 78 with fail
            go_cut [] from 79 to 88 (fun wx => Gy Pm wr.heap.size (fun _ => False) wr w2 wx p b S3 S0 [(b15, .cells (wdV R3) 39 (0, 0)), (b14, .cells (wdV B0) 39 (0, 0)), (b13, .cells (wdV A0) 39 (0, 0)), (b11, .cells (paC p b (.slice none 0 0) (.slice none 0 0)) 32 (0, 0))])
            case first =>
              cases D
              · go_wp2_with (first
                  | (refine step_load_row rfl 39 _ rfl b13 39 (wdV A0) _ rfl (H5.out.bl 2 rfl) Try.underlying39 rfl (by kernel_rfl) ?_)
                  | (refine step_load_row rfl 39 _ rfl b14 39 (wdV B0) _ rfl (H5.out.bl 1 rfl) Try.underlying39 rfl (by kernel_rfl) ?_)
                  | (go_at_call 22; (with_reducible refine (HCI.out _ _ _ _ _ _ rfl HJL.out H5.out).mono ?_); rintro e w8 ⟨rfl, hb⟩; have H8 := hid hb; clear hb c1)
                  | (refine step_store_row rfl 39 _ _ rfl b15 39 _ (wdV R3) rfl rfl (H8.out.bl 0 rfl) (by kernel_rfl) rfl (by kernel_rfl) ?_))
                go_meet
                exact H8.out.row hM (wdV R3)
              · go_wp2_with (first
                  | (refine step_load_row rfl 39 _ rfl b13 39 (wdV A0) _ rfl (H5.out.bl 2 rfl) Try.underlying39 rfl (by kernel_rfl) ?_)
                  | (refine step_load_row rfl 39 _ rfl b14 39 (wdV B0) _ rfl (H5.out.bl 1 rfl) Try.underlying39 rfl (by kernel_rfl) ?_)
                  | (go_at_call 21; (with_reducible refine (HCD.out _ _ _ _ _ _ rfl HJL.out H5.out).mono ?_); rintro e w8 ⟨rfl, hb⟩; have H8 := hid hb; clear hb c1)
                  | (refine step_store_row rfl 39 _ _ rfl b15 39 _ (wdV R3) rfl rfl (H8.out.bl 0 rfl) (by kernel_rfl) rfl (by kernel_rfl) ?_))
                go_meet
                exact H8.out.row hM (wdV R3)
            case rest =>
              have H9 := hid hcut
              clear hcut H5 HA cK c1 HC1 HC2 HCD HCI
              have c1 := row_c (i := 0) (u := .pointer (some ⟨p, 0, none⟩)) (H9.out.bl 3 rfl) rfl
              go_upto_region 21 with (go_at_call 19; (with_reducible refine (HVL.out _ _ _ _ _ _ H9.out).mono ?_); rintro e w10 ⟨⟨v, rfl, hv⟩, hz⟩; have H10 := hid hz; have V10 := hid hv; clear hz hv c1)
              have c1 := row_c (i := 0) (u := .pointer (some ⟨p, 0, none⟩)) (H10.out.bl 3 rfl) rfl
              go_upto_region 23 with (go_at_call 23; (with_reducible refine (HER.out _ _ _ _ _ _ H10.out).mono ?_); rintro e w11 ⟨rfl, hb⟩; have H11 := hid (H10.out.self hM hb); have V11 := hid (V10.out.self hb); clear hb c1)
              obtain ⟨va, vc, rfl, hp⟩ := (rd_wr V11.out).at_
              have HL0 : 0 < S3.L := by obtain ⟨q, _, h2, _⟩ := HOKK.out 0 (by decide); omega
              obtain ⟨g, off, rfl, hg, hc⟩ := hp HL0
              have HCV := hid hc
              have HX := hid (HJ.out.self H11.out.z.low)
              clear hp hg hc HL0 HVL HER H9 H10 V10 V11 HJ
              go_wp2
              obtain ⟨wo, hwo⟩ : ∃ wo, w11 = wo := ⟨_, rfl⟩
              subst hwo
              obtain ⟨L3, hL3⟩ : ∃ L3, S3.L = L3 := ⟨_, rfl⟩
              simp only [hL3] at HOKK HCV ⊢
              go_loopw [17, 18] (fun rv iv wr => ∃ i : Nat, i ≤ 3 ∧ iv = .int .i64 i ∧ rv = .int .i64 (rowT 3 D a8 b8 o k i : Nat) ∧ Below w11.heap.size w11 wr) (fun _ iv _ => 3 - (intOf iv).toNat)
              case atStart => exact ⟨0, by omega, rfl, rfl, Below.refl _ _⟩
              case round =>
                obtain ⟨i, hi, rfl, rfl, hJ⟩ := hrel
                have HJ := hid hJ
                clear hJ
                by_cases hin : i < 3
                · have i0 : (0 : Int) ≤ (i : Int) := by omega
                  have i3 : (i : Int) < 3 := by omega
                  have in_ : (i : Int) < 3 := by omega
                  have HRS : Hid (rowT 3 D a8 b8 o k (i + 1) = if i = o then rowT 3 D a8 b8 o k i else rowT 3 D a8 b8 o k i * 2 + tbN 3 D a8 b8 k i) := hid rfl
                  by_cases hio : i = o
                  · have q2 : ((i : Int) == (o : Int)) = true := by simp; omega
                    rw [if_pos hio] at HRS
                    clear hio
                    go_wp2
                    go_roundw
                    case rel => exact ⟨i + 1, by omega, by go_num, by rw [HRS.out], HJ.out⟩
                    case measure => simp [intOf]; omega
                  · have q2 : ((i : Int) == (o : Int)) = false := by simp; omega
                    rw [if_neg hio] at HRS
                    clear hio
                    obtain ⟨q, eq, lq, vq⟩ := HOKK.out i hin
                    have cR := tcell_self (row_c (i := i) (H11.out.bl 0 rfl) (wdV_at R3 i (by omega))) HJ.out
                    rw [eq] at cR
                    have cV := tcell_self (HCV.out q lq) HJ.out
                    have n0 : decide ((q : Int) < 0) = false := decide_eq_false (by omega)
                    have n1 : decide ((L3 : Int) ≤ (q : Int)) = false := decide_eq_false (by omega)
                    have n2 : decide ((q : Int) ≥ (L3 : Int)) = false := decide_eq_false (by omega)
                    have g0 : (0 : Int) ≤ (q : Int) := by omega
                    have g1 : (q : Int) < (L3 : Int) := by omega
                    have hrow := rowT_lt (n := 3) (dom := D) (a := a8) (b := b8) (o := o) (k := k) (i := i) (by omega)
                    have hp8 : 2 ^ i ≤ 8 := by rcases (by omega : i = 0 ∨ i = 1 ∨ i = 2) with rfl | rfl | rfl <;> decide
                    have hfF := tbN_lt 3 D a8 b8 k i
                    have m1 : (S3.v q : Int) % 2 = ((tbN 3 D a8 b8 k i : Nat) : Int) := by omega
                    have m2 : ((S3.v q : Nat) : Int).tmod 2 = ((tbN 3 D a8 b8 k i : Nat) : Int) := by rw [Int.tmod_eq_emod_of_nonneg (by omega)]; omega
                    have e5 : IntKind.i64.wrap ((rowT 3 D a8 b8 o k i : Nat) * 2 : Int) = ((rowT 3 D a8 b8 o k i * 2 : Nat) : Int) := by rw [IntKind.wrap_i64]; omega
                    have e6 : IntKind.i64.wrap ((tbN 3 D a8 b8 k i : Nat) : Int) = ((tbN 3 D a8 b8 k i : Nat) : Int) := by rw [IntKind.wrap_i64]; omega
                    have e7 : IntKind.i64.wrap (((rowT 3 D a8 b8 o k i * 2 : Nat) : Int) + ((tbN 3 D a8 b8 k i : Nat) : Int)) = ((rowT 3 D a8 b8 o k i * 2 + tbN 3 D a8 b8 k i : Nat) : Int) := by rw [IntKind.wrap_i64]; omega
                    obtain ⟨r3, hr3⟩ : ∃ r3, rowT 3 D a8 b8 o k i * 2 + tbN 3 D a8 b8 k i = r3 := ⟨_, rfl⟩
                    rw [hr3] at e7 HRS
                    obtain ⟨r2, hr2⟩ : ∃ r2, rowT 3 D a8 b8 o k i * 2 = r2 := ⟨_, rfl⟩
                    rw [hr2] at e5 e7
                    obtain ⟨r1, hr1⟩ : ∃ r1, rowT 3 D a8 b8 o k i = r1 := ⟨_, rfl⟩
                    rw [hr1] at e5 ⊢
                    generalize tbN 3 D a8 b8 k i = fF at *
                    generalize S3.v q = z at *
                    clear hrow hp8 hfF hr3 hr2 hr1 eq lq vq
                    go_wp2
                    go_roundw
                    case rel => exact ⟨i + 1, by omega, by go_num, by rw [HRS.out], HJ.out⟩
                    case measure => simp [intOf]; omega
                · obtain rfl : i = 3 := by omega
                  clear hin hi HOKK HCV
                  rw [show ((3 : Nat) : Int) = 3 from rfl]
                  have HX2 := hid (HX.out.self HJ.out)
                  have hrow := HRK.out
                  have hcl := cntT_le (n := 3) (dom := D) (a := a8) (b := b8) (o := o) (k := k) (rowT 3 D a8 b8 o k 3)
                  have HCS : Hid (ia 4 (cntT 3 D a8 b8 o (k + 1)) = (ia 4 (cntT 3 D a8 b8 o k)).setIfInBounds (rowT 3 D a8 b8 o k 3) (.int .i64 (((cntT 3 D a8 b8 o k) (rowT 3 D a8 b8 o k 3) + 1 : Nat) : Int))) := hid (by rw [ia_set]; rfl)
                  have cC := row_c (i := rowT 3 D a8 b8 o k 3) (HX2.out.bl 0 rfl) (ia_get _ (by omega))
                  have fC := frozen_of_row wr bC (rowT 3 D a8 b8 o k 3) _ _ (HX2.out.bl 0 rfl)
                  have g0 : (0 : Int) ≤ (rowT 3 D a8 b8 o k 3 : Int) := by omega
                  have g8 : (rowT 3 D a8 b8 o k 3 : Int) < 4 := by omega
                  have hk8 := HK8.out
                  have e1 : IntKind.i64.wrap (((cntT 3 D a8 b8 o k) (rowT 3 D a8 b8 o k 3) : Nat) + 1 : Int) = (((cntT 3 D a8 b8 o k) (rowT 3 D a8 b8 o k 3) + 1 : Nat) : Int) := by rw [IntKind.wrap_i64]; omega
                  obtain ⟨c1, hc1⟩ : ∃ c1, (cntT 3 D a8 b8 o k) (rowT 3 D a8 b8 o k 3) + 1 = c1 := ⟨_, rfl⟩
                  rw [hc1] at HCS e1
                  generalize (cntT 3 D a8 b8 o k) (rowT 3 D a8 b8 o k 3) = c0 at *
                  obtain ⟨r, hr⟩ : ∃ r, rowT 3 D a8 b8 o k 3 = r := ⟨_, rfl⟩
                  rw [hr] at HCS cC fC g0 g8 ⊢
                  clear hrow hcl hc1 hr hk8
                  have hkk := HKK.out
                  go_wp2
                  go_roundw
                  case rel => exact ⟨k + 1, by omega, by go_num, by rw [HCS.out]; exact HX2.out.cell r (.int .i64 (c1 : Int))⟩
                  case measure => simp [intOf]; omega
    · obtain rfl : k = 8 := by omega
      rw [show ((8 : Nat) : Int) = 8 from rfl]
      clear hlt
      obtain ⟨CF, hCF⟩ : ∃ CF, (cntT 3 D a8 b8 o 8) = CF := ⟨_, rfl⟩
      rw [hCF] at HI HEV
      clear hCF HBG HC1 HC2 HCD HCI HVL HER HOK HRL
      go_wp2
      obtain ⟨wo, hwo⟩ : ∃ wo, wr = wo := ⟨_, rfl⟩
      subst hwo
      go_loopw [20] (fun iv wr => ∃ i : Nat, i ≤ 4 ∧ iv = .int .i64 i ∧ Bx W.heap.size W wr [(bC, .cells (ia 4 CF) 58 (0, 0)), (W.heap.size, .cells (asC true K x y mv) 26 (0, 0))]) (fun iv _ => 4 - (intOf iv).toNat)
      case atStart => exact ⟨0, by omega, rfl, HI.out⟩
      case round =>
        clear HI
        obtain ⟨i, hi, rfl, hJ⟩ := hrel
        have HJ := hid hJ
        clear hJ
        by_cases hin : i < 4
        · have j1 : (i : Int) < 4 := by omega
          have j0 : (0 : Int) ≤ (i : Int) := by omega
          have j8 : (i : Int) < 4 := by omega
          have cC := row_c (i := i) (HJ.out.bl 0 rfl) (ia_get CF (by omega))
          have h1 := HEV.out i hin
          have e1 : IntKind.i64.wrap ((CF i : Int) * 4) = 8 := by rw [IntKind.wrap_i64]; omega
          generalize CF i = c at *
          clear h1
          go_wp2
          go_roundw
          case rel => exact ⟨i + 1, by omega, by go_num, HJ.out⟩
          case measure => simp [intOf]; omega
        · obtain rfl : i = 4 := by omega
          rw [show ((4 : Nat) : Int) = 4 from rfl]
          clear hin
          have HAL := hid HJ.out.low
          go_wp2_with (go_at_call 17; (with_reducible refine (HAW.out _ HAL.out).mono ?_); rintro e wz ⟨rfl, hb⟩; have HZ := hid (HJ.out.self hb); clear hb)
          go_ret
          exact ⟨rfl, HZ.out.low⟩
end Go.Proofs.Ytflfnaiklnbaiaa
