import Derived.Test.YtpjgpiieminaoaaGreatDoorProg
import Derived.Test.YtpjgpiieminaoaaGreatDoorOrw
/- Op: whether it may stand at a place, by the document. -/
namespace Go.Proofs.YtpjgpiieminaoaaGreatDoor
open Go.RowKit
set_option maxRecDepth 100000

theorem okC_int (K : Int) (C : Nat) : okC K C = (if K = 9 ∨ K = 10 ∨ K = 11 then decide ((C : Int) < 64) else if K = 2 then decide ((C : Int) < 1048576) else if K = 3 ∨ K = 4 ∨ K = 8 then true else decide ((C : Int) = 0)) := by
  unfold okC
  rw [decide_eq_decide.2 (by omega : C < 64 ↔ (C : Int) < 64), decide_eq_decide.2 (by omega : C < 1048576 ↔ (C : Int) < 1048576), decide_eq_decide.2 (by omega : C = 0 ↔ (C : Int) = 0)]
set_option maxHeartbeats 12800000 in
theorem refopright_tail (o : Op6) (at_ n : Int) (w : World) (h : (n = 2 ∨ n = 3) ∧ 1 ≤ o.K ∧ o.K ≤ 12 ∧ -1 ≤ o.D ∧ o.D < n ∧ (o.K = 12 → o.D = -1)) :
    Calls Tryz.prog 53 #[.agg #[.int .i64 o.K, .int .i64 o.D, .int .i64 o.A, .int .i64 o.B, .int .i64 o.E, .int .u64 (o.C : Int)], .int .i64 at_, .int .i64 n] w fun e w' => e = .returned (.bool (allB (rgB o at_ n) 3 && okC o.K o.C)) ∧ Below w.heap.size w w' := by
  have HB : Hid (Below w.heap.size w (w.alloc (.cells #[.int .i64 o.K, .int .i64 o.D, .int .i64 o.A, .int .i64 o.B, .int .i64 o.E, .int .u64 (o.C : Int)] 66))) := hid ((Below.refl _ _).alloc (Nat.le_refl _) _)
  have HOc := hid (fun w' => oc_box (w := w) (w' := w') o)
  have HRg := hid (fun w => refregs_any o.K n w)
  have hrb : ∀ j, rgB o at_ n j = if (j : Int) < rgN o.K n then decide (0 ≤ rgL o j ∧ rgL o j < at_) else decide (rgL o j = -1) := fun j => rfl
  have HRb := hid hrb
  have HAl := hid (fun j (hj : j < 3) (h : rgB o at_ n j = false) => allB_no hj h)
  have HRL := hid (fun (w : World) (m : Nat) (h : w.heap[m]? = some (.cells #[.int .i64 o.A, .int .i64 o.B, .int .i64 o.E] 35 (0, 0))) => rgL_cell h)
  have HOK := hid (rfl : okC o.K o.C = okC o.K o.C)
  obtain ⟨R, hR⟩ : ∃ R, rgN o.K n = R := ⟨_, rfl⟩
  rw [hR] at HRg HRb
  generalize rgB o at_ n = rb at *
  clear hrb hR
  obtain ⟨h1, h2, h3, h4, h5, h6⟩ := h
  have g0 : ((n != 2) && (n != 3)) = false := by rcases h1 with rfl | rfl <;> rfl
  obtain ⟨rl, hrl⟩ : ∃ rl, rgL o = rl := ⟨_, rfl⟩
  rw [hrl] at HRb HRL
  clear hrl
  obtain ⟨K, D, A, B, E, C⟩ := o
  simp only at *
  obtain ⟨w1, hw1⟩ : ∃ w1, w.alloc (.cells #[.int .i64 K, .int .i64 D, .int .i64 A, .int .i64 B, .int .i64 E, .int .u64 (C : Int)] 66) = w1 := ⟨_, rfl⟩
  rw [hw1] at HB HOc
  have HW1 := hid hw1
  clear hw1
  have HAb : Hid ((w1.alloc (.cells #[.int .i64 A, .int .i64 B, .int .i64 E] 35)).heap[w1.heap.size]? = some (.cells #[.int .i64 A, .int .i64 B, .int .i64 E] 35 (0, 0))) := hid (heap_alloc_new w1 _)
  have HB2 : Hid (Below w1.heap.size w1 (w1.alloc (.cells #[.int .i64 A, .int .i64 B, .int .i64 E] 35))) := hid ((Below.refl _ _).alloc (Nat.le_refl _) _)
  have HD : Hid (K = 12 → D = -1) := hid h6
  clear h6
  have hs1 : w1.heap.size = w.heap.size + 1 := by rw [← HW1.out]; simp
  have HL2 := hid (HRL.out _ _ HAb.out)
  rw [hs1] at HL2
  clear hs1
  have HO2 := hid (HOc.out _ HB2.out)
  have HB02 := hid (HB.out.trans (HB2.out.mono HB.out.size))
  have HW2 : Hid (∃ w2, w1.alloc (.cells #[.int .i64 A, .int .i64 B, .int .i64 E] 35) = w2) := hid ⟨_, rfl⟩
  rcases (Classical.em (K = 12)) with h12 | h12
  · have hd := HD.out h12
    subst h12 hd
    clear HD
    rcases h1 with rfl | rfl
    all_goals
      go_enter Tryz.func53, Tryz.ntmps53
      go_wp2
      rw [HW1.out]
      have hk := HO2.out.k
      have hc := HO2.out.c
      simp only [Nat.zero_add] at hc
      generalize w1.alloc (.cells #[.int .i64 A, .int .i64 B, .int .i64 E] 35) = w2 at *
      clear HRL HOc HAb
      have HC2 := hid (HRg.out w2)
      go_loop [8] (fun i => ∃ j : Nat, j ≤ 3 ∧ i = .int .i64 j ∧ allB rb j = true) (fun i => 3 - (intOf i).toNat)
      case atStart => exact ⟨0, by omega, rfl, rfl⟩
      case round =>
        obtain ⟨j, hj, rfl, hall⟩ := hrel
        have HJ := hid hall
        clear hall
        by_cases hlt : j < 3
        · have hx := HL2.out j hlt
          have HX := hid (HRb.out j)
          have j1 : (0 : Int) ≤ (j : Int) := by omega
          have j2 : (j : Int) < 3 := by omega
          generalize rl j = x at *
          by_cases hR : (j : Int) < R
          · by_cases x1 : 0 ≤ x
            · by_cases x2 : x < at_
              · have He : Hid (allB rb (j + 1) = true) := hid (by show (allB rb j && rb j) = true; rw [HJ.out, HX.out, if_pos hR, decide_eq_true ⟨x1, x2⟩]; rfl)
                go_wp2_with (go_at_call 73; (with_reducible refine (HC2.out).mono ?_); rintro e w' ⟨rfl, rfl⟩)
                go_round
                case rel => exact ⟨j + 1, by omega, by go_num, He.out⟩
                case measure => simp [intOf]; omega
              · have He : Hid (rb j = false) := hid (by rw [HX.out, if_pos hR, decide_eq_false (fun h => x2 h.2)])
                go_wp2_with (go_at_call 73; (with_reducible refine (HC2.out).mono ?_); rintro e w' ⟨rfl, rfl⟩)
                go_ret
                exact ⟨by rw [HAl.out j hlt He.out]; rfl, HB02.out⟩
            · have He : Hid (rb j = false) := hid (by rw [HX.out, if_pos hR, decide_eq_false (fun h => x1 h.1)])
              go_wp2_with (go_at_call 73; (with_reducible refine (HC2.out).mono ?_); rintro e w' ⟨rfl, rfl⟩)
              go_ret
              exact ⟨by rw [HAl.out j hlt He.out]; rfl, HB02.out⟩
          · by_cases x1 : x = -1
            · have He : Hid (allB rb (j + 1) = true) := hid (by show (allB rb j && rb j) = true; rw [HJ.out, HX.out, if_neg hR, decide_eq_true x1]; rfl)
              clear HX
              subst x1
              go_wp2_with (go_at_call 73; (with_reducible refine (HC2.out).mono ?_); rintro e w' ⟨rfl, rfl⟩)
              go_round
              case rel => exact ⟨j + 1, by omega, by go_num, He.out⟩
              case measure => simp [intOf]; omega
            · have He : Hid (rb j = false) := hid (by rw [HX.out, if_neg hR, decide_eq_false x1])
              have x2 : (x != -1) = true := by simpa using x1
              go_wp2_with (go_at_call 73; (with_reducible refine (HC2.out).mono ?_); rintro e w' ⟨rfl, rfl⟩)
              go_ret
              exact ⟨by rw [HAl.out j hlt He.out]; rfl, HB02.out⟩
        · obtain rfl : j = 3 := by omega
          have HF : Hid (okC 12 C = decide ((C : Int) = 0)) := hid (by simp [okC])
          go_wp2
          go_ret
          exact ⟨by rw [HJ.out, HF.out]; rfl, HB02.out⟩
  · clear HD
    rcases h1 with rfl | rfl
    all_goals
      go_enter Tryz.func53, Tryz.ntmps53
      go_wp2
      rw [HW1.out]
      have hk := HO2.out.k
      have hc := HO2.out.c
      simp only [Nat.zero_add] at hc
      generalize w1.alloc (.cells #[.int .i64 A, .int .i64 B, .int .i64 E] 35) = w2 at *
      clear HRL HOc HAb
      have HC2 := hid (HRg.out w2)
      go_loop [8] (fun i => ∃ j : Nat, j ≤ 3 ∧ i = .int .i64 j ∧ allB rb j = true) (fun i => 3 - (intOf i).toNat)
      case atStart => exact ⟨0, by omega, rfl, rfl⟩
      case round =>
        obtain ⟨j, hj, rfl, hall⟩ := hrel
        have HJ := hid hall
        clear hall
        by_cases hlt : j < 3
        · have hx := HL2.out j hlt
          have HX := hid (HRb.out j)
          have j1 : (0 : Int) ≤ (j : Int) := by omega
          have j2 : (j : Int) < 3 := by omega
          generalize rl j = x at *
          by_cases hR : (j : Int) < R
          · by_cases x1 : 0 ≤ x
            · by_cases x2 : x < at_
              · have He : Hid (allB rb (j + 1) = true) := hid (by show (allB rb j && rb j) = true; rw [HJ.out, HX.out, if_pos hR, decide_eq_true ⟨x1, x2⟩]; rfl)
                go_wp2_with (go_at_call 73; (with_reducible refine (HC2.out).mono ?_); rintro e w' ⟨rfl, rfl⟩)
                go_round
                case rel => exact ⟨j + 1, by omega, by go_num, He.out⟩
                case measure => simp [intOf]; omega
              · have He : Hid (rb j = false) := hid (by rw [HX.out, if_pos hR, decide_eq_false (fun h => x2 h.2)])
                go_wp2_with (go_at_call 73; (with_reducible refine (HC2.out).mono ?_); rintro e w' ⟨rfl, rfl⟩)
                go_ret
                exact ⟨by rw [HAl.out j hlt He.out]; rfl, HB02.out⟩
            · have He : Hid (rb j = false) := hid (by rw [HX.out, if_pos hR, decide_eq_false (fun h => x1 h.1)])
              go_wp2_with (go_at_call 73; (with_reducible refine (HC2.out).mono ?_); rintro e w' ⟨rfl, rfl⟩)
              go_ret
              exact ⟨by rw [HAl.out j hlt He.out]; rfl, HB02.out⟩
          · by_cases x1 : x = -1
            · have He : Hid (allB rb (j + 1) = true) := hid (by show (allB rb j && rb j) = true; rw [HJ.out, HX.out, if_neg hR, decide_eq_true x1]; rfl)
              clear HX
              subst x1
              go_wp2_with (go_at_call 73; (with_reducible refine (HC2.out).mono ?_); rintro e w' ⟨rfl, rfl⟩)
              go_round
              case rel => exact ⟨j + 1, by omega, by go_num, He.out⟩
              case measure => simp [intOf]; omega
            · have He : Hid (rb j = false) := hid (by rw [HX.out, if_neg hR, decide_eq_false x1])
              have x2 : (x != -1) = true := by simpa using x1
              go_wp2_with (go_at_call 73; (with_reducible refine (HC2.out).mono ?_); rintro e w' ⟨rfl, rfl⟩)
              go_ret
              exact ⟨by rw [HAl.out j hlt He.out]; rfl, HB02.out⟩
        · obtain rfl : j = 3 := by omega
          have hK : K = 1 ∨ K = 2 ∨ K = 3 ∨ K = 4 ∨ K = 5 ∨ K = 6 ∨ K = 7 ∨ K = 8 ∨ K = 9 ∨ K = 10 ∨ K = 11 := by omega
          clear h2 h3 h12
          rcases hK with rfl | rfl | rfl | rfl | rfl | rfl | rfl | rfl | rfl | rfl | rfl
          all_goals
            go_wp2
            go_ret
            exact ⟨by rw [HJ.out, okC_int]; first | (simp; done) | rfl, HB02.out⟩
theorem refopright_any (o : Op6) (at_ n : Int) (w : World) :
    Calls Tryz.prog 53 #[.agg #[.int .i64 o.K, .int .i64 o.D, .int .i64 o.A, .int .i64 o.B, .int .i64 o.E, .int .u64 (o.C : Int)], .int .i64 at_, .int .i64 n] w fun e w' => e = .returned (.bool (okOp o at_ n)) ∧ Below w.heap.size w w' := by
  by_cases h : (n = 2 ∨ n = 3) ∧ 1 ≤ o.K ∧ o.K ≤ 12 ∧ -1 ≤ o.D ∧ o.D < n ∧ (o.K = 12 → o.D = -1)
  · rw [okH_yes h]; exact refopright_tail o at_ n w h
  · rw [okH_no h]; exact refopright_head o at_ n w h
end Go.Proofs.YtpjgpiieminaoaaGreatDoor
