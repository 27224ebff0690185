import Derived.Test.YtpjgpiieminaoaaDoorProg
import Derived.Test.YtpjgpiieminaoaaDoorOrw
import Derived.Test.YtpjgpiieminaoaaDoorGen
import Derived.Deep.RegionHeld
/- Op: may an op stand, by the program. -/
namespace Go.Proofs.YtpjgpiieminaoaaDoor
open Go.RowKit
set_option maxRecDepth 100000
theorem oshares_yes (n : Int) (w : World) (h : n = 2 ∨ n = 3) : Calls Tryd.prog 69 #[.int .i64 n] w fun e w' => e = .returned (.bool true) ∧ w' = w := by
  rcases h with rfl | rfl
  all_goals
    go_enter Tryd.func69, Tryd.ntmps69
    go_wp2
    go_ret
    exact ⟨rfl, rfl⟩
theorem oshares_no (n : Int) (w : World) (h : ¬ (n = 2 ∨ n = 3)) : Calls Tryd.prog 69 #[.int .i64 n] w fun e w' => e = .returned (.bool false) ∧ w' = w := by
  have g2 : (n == 2) = false := by simp; omega
  have g3 : (n == 3) = false := by simp; omega
  clear h
  go_enter Tryd.func69, Tryd.ntmps69
  go_wp2
  go_ret
  exact ⟨rfl, rfl⟩
theorem oiskind_yes (K : Int) (w : World) (h : 1 ≤ K) (h2 : K ≤ 12) : Calls Tryd.prog 68 #[.int .i64 K] w fun e w' => e = .returned (.bool true) ∧ w' = w := by
  have q1 : decide (1 ≤ K) = true := by simp [h]
  have q2 : decide (K ≤ 12) = true := by simp [h2]
  go_enter Tryd.func68, Tryd.ntmps68
  go_wp2
  go_ret
  exact ⟨rfl, rfl⟩
theorem oiskind_no (K : Int) (w : World) (h : K < 1 ∨ 12 < K) : Calls Tryd.prog 68 #[.int .i64 K] w fun e w' => e = .returned (.bool false) ∧ w' = w := by
  by_cases h1 : 1 ≤ K
  · have q1 : decide (1 ≤ K) = true := by simp [h1]
    have q2 : decide (K ≤ 12) = false := by simp; omega
    go_enter Tryd.func68, Tryd.ntmps68
    go_wp2
    go_ret
    exact ⟨rfl, rfl⟩
  · have q1 : decide (1 ≤ K) = false := by simp; omega
    go_enter Tryd.func68, Tryd.ntmps68
    go_wp2
    go_ret
    exact ⟨rfl, rfl⟩
set_option maxHeartbeats 6400000 in
theorem oregs_any (K n : Int) (w : World) (hn : n = 2 ∨ n = 3) : Calls Tryd.prog 77 #[.int .i64 K, .int .i64 n] w fun e w' => e = .returned (.int .i64 (rgN K n)) ∧ w' = w := by
  have HS := hid (oshares_yes n w hn)
  rcases kindsL K with rfl | rfl | rfl | rfl | rfl | rfl | rfl | rfl | rfl | rfl | rfl | rfl | h
  rotate_right
  · rw [rgN_zero h]
    have q2 : ¬ K = 2 := by omega
    have q5 : ¬ K = 5 := by omega
    have q6 : ¬ K = 6 := by omega
    have q7 : ¬ K = 7 := by omega
    have q8 : ¬ K = 8 := by omega
    have q9 : ¬ K = 9 := by omega
    have q10 : ¬ K = 10 := by omega
    have q11 : ¬ K = 11 := by omega
    have q12 : ¬ K = 12 := by omega
    clear h hn
    go_enter Tryd.func77, Tryd.ntmps77
    go_wp2_with (go_at_call 69; (with_reducible refine (HS.out).mono ?_); rintro e w1 ⟨rfl, rfl⟩)
    go_ret
    exact ⟨rfl, rfl⟩
  all_goals
    rcases hn with rfl | rfl
    all_goals
      simp only [rgN, reduceIte, Int.reduceEq]
      go_enter Tryd.func77, Tryd.ntmps77
      go_wp2_with (go_at_call 69; (with_reducible refine (HS.out).mono ?_); rintro e w1 ⟨rfl, rfl⟩)
      go_ret
      exact ⟨rfl, rfl⟩
/-- The op's block. -/
theorem obox (o : Op6) (w : World) : (w.alloc (.cells #[.int .i64 o.K, .int .i64 o.D, .int .i64 o.A, .int .i64 o.B, .int .i64 o.E, .int .u64 (o.C : Int)] 52)).heap[w.heap.size]? = some (.cells #[.int .i64 o.K, .int .i64 o.D, .int .i64 o.A, .int .i64 o.B, .int .i64 o.E, .int .u64 (o.C : Int)] 52 (0, 0)) := heap_alloc_new w _
theorem orc_any (o : Op6) (w : World) : Calls Tryd.prog 72 #[.agg #[.int .i64 o.K, .int .i64 o.D, .int .i64 o.A, .int .i64 o.B, .int .i64 o.E, .int .u64 (o.C : Int)]] w fun e w' => e = .returned (.bool (okC o.K o.C)) ∧ Below w.heap.size w w' := by
  obtain ⟨K, D, A, B, E, C⟩ := o
  simp only at *
  have HB : Hid (Below w.heap.size w (w.alloc (.cells #[.int .i64 K, .int .i64 D, .int .i64 A, .int .i64 B, .int .i64 E, .int .u64 (C : Int)] 52))) := hid ((Below.refl _ _).alloc (Nat.le_refl _) _)
  have e1 : decide ((C : Int) < 64) = decide (C < 64) := by congr 1; simp; omega
  have e2 : decide ((C : Int) < 1048576) = decide (C < 1048576) := by congr 1; simp; omega
  have e3 : ((C : Int) == 0) = decide (C = 0) := by rw [Bool.eq_iff_iff]; simp
  rcases kindsL K with rfl | rfl | rfl | rfl | rfl | rfl | rfl | rfl | rfl | rfl | rfl | rfl | h
  rotate_right
  · have hq : okC K C = decide (C = 0) := by
      unfold okC
      rw [if_neg (by omega), if_neg (by omega), if_neg (by omega)]
    rw [hq]
    have q2 : ¬ K = 2 := by omega
    have q3 : ¬ K = 3 := by omega
    have q4 : ¬ K = 4 := by omega
    have q8 : ¬ K = 8 := by omega
    have q9 : ¬ K = 9 := by omega
    have q10 : ¬ K = 10 := by omega
    have q11 : ¬ K = 11 := by omega
    clear h hq e1 e2
    generalize decide (C = 0) = b at *
    go_enter Tryd.func72, Tryd.ntmps72
    go_wp2
    go_ret
    exact ⟨by first | rfl | rw [e3], HB.out⟩
  all_goals
    simp only [okC, reduceIte, Int.reduceEq, or_true, true_or, or_self]
    go_enter Tryd.func72, Tryd.ntmps72
    go_wp2
    go_ret
    exact ⟨by first | rfl | rw [e1] | rw [e2] | rw [e3], HB.out⟩
/-- The domain, and the rest. -/
def okD (o : Op6) (n : Int) : Bool := if o.K = 12 then decide (o.D = -1) else decide (-1 ≤ o.D) && decide (o.D < n)
theorem okOp_parts (o : Op6) (at_ n : Int) (hK : 1 ≤ o.K ∧ o.K ≤ 12) (hn : n = 2 ∨ n = 3) : okOp o at_ n = (allB (rgB o at_ n) 3 && okD o n && okC o.K o.C) := by
  unfold okOp okH okD
  have e : decide ((n = 2 ∨ n = 3) ∧ 1 ≤ o.K ∧ o.K ≤ 12 ∧ -1 ≤ o.D ∧ o.D < n ∧ (o.K = 12 → o.D = -1)) = (if o.K = 12 then decide (o.D = -1) else decide (-1 ≤ o.D) && decide (o.D < n)) := by
    rw [Bool.eq_iff_iff]
    by_cases h : o.K = 12
    · rw [if_pos h]
      simp only [decide_eq_true_eq]
      constructor
      · rintro ⟨_, _, _, _, _, h6⟩; exact h6 h
      · intro h6; exact ⟨hn, hK.1, hK.2, by omega, by omega, fun _ => h6⟩
    · rw [if_neg h]
      simp only [decide_eq_true_eq, Bool.and_eq_true]
      constructor
      · rintro ⟨_, _, _, h4, h5, _⟩; exact ⟨h4, h5⟩
      · rintro ⟨h4, h5⟩; exact ⟨hn, hK.1, hK.2, h4, h5, fun h' => absurd h' h⟩
  rw [e, Bool.and_comm (if o.K = 12 then _ else _)]
theorem okOp_no (o : Op6) (at_ n : Int) (h : (o.K < 1 ∨ 12 < o.K) ∨ ¬ (n = 2 ∨ n = 3)) : okOp o at_ n = false := okH_no (by omega) at_
theorem ord_any (o : Op6) (n : Int) (w : World) : Calls Tryd.prog 71 #[.agg #[.int .i64 o.K, .int .i64 o.D, .int .i64 o.A, .int .i64 o.B, .int .i64 o.E, .int .u64 (o.C : Int)], .int .i64 n] w fun e w' => e = .returned (.bool (okD o n)) ∧ Below w.heap.size w w' := by
  obtain ⟨K, D, A, B, E, C⟩ := o
  have HB : Hid (Below w.heap.size w (w.alloc (.cells #[.int .i64 K, .int .i64 D, .int .i64 A, .int .i64 B, .int .i64 E, .int .u64 (C : Int)] 52))) := hid ((Below.refl _ _).alloc (Nat.le_refl _) _)
  unfold okD
  simp only at *
  by_cases h : K = 12
  · subst h
    have e1 : (D == -1) = decide (D = -1) := by rw [Bool.eq_iff_iff]; simp
    rw [if_pos rfl, ← e1]
    clear e1
    go_enter Tryd.func71, Tryd.ntmps71
    go_wp2
    go_ret
    exact ⟨rfl, HB.out⟩
  · rw [if_neg h]
    by_cases h1 : -1 ≤ D
    · have q1 : decide (-1 ≤ D) = true := decide_eq_true h1
      rw [q1, Bool.true_and]
      go_enter Tryd.func71, Tryd.ntmps71
      go_wp2
      go_ret
      exact ⟨rfl, HB.out⟩
    · have q1 : decide (-1 ≤ D) = false := decide_eq_false h1
      rw [q1, Bool.false_and]
      go_enter Tryd.func71, Tryd.ntmps71
      go_wp2
      go_ret
      exact ⟨rfl, HB.out⟩
theorem rgL_get (o : Op6) (j : Nat) (hj : j < 3) : (#[.int .i64 o.A, .int .i64 o.B, .int .i64 o.E] : Array Value)[j]? = some (.int .i64 (rgL o j)) := by
  rcases (by omega : j = 0 ∨ j = 1 ∨ j = 2) with rfl | rfl | rfl <;> rfl
theorem rgL_index (o : Op6) (j : Nat) (hj : j < 3) (w : World) : (Instr.index 33 (.agg #[.int .i64 o.A, .int .i64 o.B, .int .i64 o.E]) (.int .i64 (j : Int))).run Tryd.prog w = .ok (.int .i64 (rgL o j)) w :=
  run_index_num w 33 3 3 _ j _ Tryd.underlying33 Tryd.underlying3 (by kernel_rfl) hj (rgL_get o j hj)
set_option maxHeartbeats 6400000 in
theorem orr_any (o : Op6) (at_ n : Int) (w : World) (hn : n = 2 ∨ n = 3) : Calls Tryd.prog 70 #[.agg #[.int .i64 o.K, .int .i64 o.D, .int .i64 o.A, .int .i64 o.B, .int .i64 o.E, .int .u64 (o.C : Int)], .int .i64 at_, .int .i64 n] w fun e w' => e = .returned (.bool (allB (rgB o at_ n) 3)) ∧ Below w.heap.size w w' := by
  have HX := hid (fun j hj w => rgL_index o j hj w)
  have HR := hid (fun w => oregs_any o.K n w hn)
  have HB : Hid (Below w.heap.size w (w.alloc (.cells #[.int .i64 o.K, .int .i64 o.D, .int .i64 o.A, .int .i64 o.B, .int .i64 o.E, .int .u64 (o.C : Int)] 52))) := hid ((Below.refl _ _).alloc (Nat.le_refl _) _)
  have HG : Hid (∀ j, rgB o at_ n j = if (j : Int) < rgN o.K n then decide (0 ≤ rgL o j ∧ rgL o j < at_) else decide (rgL o j = -1)) := hid (fun _ => rfl)
  have HA : Hid (∀ j, j < 3 → rgB o at_ n j = false → allB (rgB o at_ n) 3 = false) := hid (fun j hj h => allB_no hj h)
  have HT : Hid ((∀ j, j < 3 → rgB o at_ n j = true) → allB (rgB o at_ n) 3 = true) := hid allB_of
  generalize allB (rgB o at_ n) 3 = res at *
  generalize rgN o.K n = r at *
  generalize rgB o at_ n = gb at *
  clear hn
  go_enter Tryd.func70, Tryd.ntmps70
  go_wp2_with (go_at_call 77; (with_reducible refine (HR.out _).mono ?_); rintro e w1 ⟨rfl, rfl⟩)
  go_loop [21] (fun i => ∃ j : Nat, j ≤ 3 ∧ i = .int .i64 j ∧ ∀ k, k < j → gb k = true) (fun i => 3 - (intOf i).toNat)
  case atStart => exact ⟨0, by omega, rfl, fun k hk => by omega⟩
  case round =>
    obtain ⟨j, hj, rfl, hall⟩ := hrel
    have Hall := hid hall
    clear hall
    by_cases hlt : j < 3
    · have hidx := HX.out j hlt
      have hg := HG.out j
      have HAj := hid (HA.out j hlt)
      have j1 : (0 : Int) ≤ (j : Int) := by omega
      have j2 : (j : Int) < 3 := by omega
      generalize rgL o j = z at *
      by_cases hr : (j : Int) < r
      · rw [if_pos hr] at hg
        have hr2 : ¬ r ≤ (j : Int) := by omega
        by_cases z1 : z < 0
        · have Hf := hid (HAj.out (by rw [hg]; exact decide_eq_false (by omega)))
          clear hg
          go_wp2
          go_ret
          exact ⟨by rw [Hf.out]; rfl, HB.out⟩
        · by_cases z2 : at_ ≤ z
          · have Hf := hid (HAj.out (by rw [hg]; exact decide_eq_false (by omega)))
            clear hg
            go_wp2
            go_ret
            exact ⟨by rw [Hf.out]; rfl, HB.out⟩
          · have Hy : Hid (gb j = true) := hid (by rw [hg]; exact decide_eq_true (by omega))
            clear hg
            go_wp2
            go_round
            case rel => exact ⟨j + 1, by omega, by go_num, fun k hk => by
              by_cases e : k = j
              · subst e; exact Hy.out
              · exact Hall.out k (by omega)⟩
            case measure => simp [intOf]; omega
      · rw [if_neg hr] at hg
        have hr2 : r ≤ (j : Int) := by omega
        by_cases z1 : z = -1
        · have Hy : Hid (gb j = true) := hid (by rw [hg]; exact decide_eq_true z1)
          have zn : (z != -1) = false := by simp [z1]
          clear hg
          go_wp2
          go_round
          case rel => exact ⟨j + 1, by omega, by go_num, fun k hk => by
            by_cases e : k = j
            · subst e; exact Hy.out
            · exact Hall.out k (by omega)⟩
          case measure => simp [intOf]; omega
        · have Hf := hid (HAj.out (by rw [hg]; exact decide_eq_false z1))
          have zn : (z != -1) = true := by simp [z1]
          clear hg
          go_wp2
          go_ret
          exact ⟨by rw [Hf.out]; rfl, HB.out⟩
    · obtain rfl : j = 3 := by omega
      have Ht := hid (HT.out Hall.out)
      clear hlt hj
      go_wp2
      go_ret
      exact ⟨by rw [Ht.out]; rfl, HB.out⟩
theorem ocells {w : World} {b : Nat} {o : Op6} (h : w.heap[b]? = some (.cells #[.int .i64 o.K, .int .i64 o.D, .int .i64 o.A, .int .i64 o.B, .int .i64 o.E, .int .u64 (o.C : Int)] 52 (0, 0))) :
    w.cell? ⟨b, 0, none⟩ = some (.int .i64 o.K) ∧ w.cell? ⟨b, 1, none⟩ = some (.int .i64 o.D) ∧ w.cell? ⟨b, 2, none⟩ = some (.int .i64 o.A) ∧ w.cell? ⟨b, 3, none⟩ = some (.int .i64 o.B) ∧ w.cell? ⟨b, 4, none⟩ = some (.int .i64 o.E) ∧ w.cell? ⟨b, 5, none⟩ = some (.int .u64 (o.C : Int)) :=
  ⟨by rw [cell_of_row w _ 0 _ _ _ h]; rfl, by rw [cell_of_row w _ 1 _ _ _ h]; rfl, by rw [cell_of_row w _ 2 _ _ _ h]; rfl, by rw [cell_of_row w _ 3 _ _ _ h]; rfl, by rw [cell_of_row w _ 4 _ _ _ h]; rfl, by rw [cell_of_row w _ 5 _ _ _ h]; rfl⟩
theorem oright_head (o : Op6) (at_ : Nat) (n : Int) (w : World) (h : (o.K < 1 ∨ 12 < o.K) ∨ ¬ (n = 2 ∨ n = 3)) : Calls Tryd.prog 62 #[.agg #[.int .i64 o.K, .int .i64 o.D, .int .i64 o.A, .int .i64 o.B, .int .i64 o.E, .int .u64 (o.C : Int)], .int .i64 (at_ : Int), .int .i64 n] w fun e w' => e = .returned (.bool false) ∧ Below w.heap.size w w' := by
  have HB : Hid (Below w.heap.size w (w.alloc (.cells #[.int .i64 o.K, .int .i64 o.D, .int .i64 o.A, .int .i64 o.B, .int .i64 o.E, .int .u64 (o.C : Int)] 52))) := hid ((Below.refl _ _).alloc (Nat.le_refl _) _)
  by_cases hk : o.K < 1 ∨ 12 < o.K
  · have HI := hid (fun w => oiskind_no o.K w hk)
    clear h hk
    go_enter Tryd.func62, Tryd.ntmps62
    go_wp2_with (go_at_call 68; (with_reducible refine (HI.out _).mono ?_); rintro e w1 ⟨rfl, rfl⟩)
    go_ret
    exact ⟨rfl, HB.out⟩
  · have HI := hid (fun w => oiskind_yes o.K w (by omega) (by omega))
    have HS := hid (fun w => oshares_no n w (by omega))
    clear h hk
    go_enter Tryd.func62, Tryd.ntmps62
    go_wp2_with (first | (go_at_call 68; (with_reducible refine (HI.out _).mono ?_); rintro e w1 ⟨rfl, rfl⟩) | (go_at_call 69; (with_reducible refine (HS.out _).mono ?_); rintro e w1 ⟨rfl, rfl⟩))
    go_ret
    exact ⟨rfl, HB.out⟩
set_option maxHeartbeats 6400000 in
theorem oright_body (o : Op6) (at_ : Nat) (n : Int) (w : World) (hK : 1 ≤ o.K ∧ o.K ≤ 12) (hn : n = 2 ∨ n = 3) : Calls Tryd.prog 62 #[.agg #[.int .i64 o.K, .int .i64 o.D, .int .i64 o.A, .int .i64 o.B, .int .i64 o.E, .int .u64 (o.C : Int)], .int .i64 (at_ : Int), .int .i64 n] w fun e w' => e = .returned (.bool (okOp o at_ n)) ∧ Below w.heap.size w w' := by
  rw [okOp_parts o at_ n hK hn]
  have HI := hid (fun w => oiskind_yes o.K w hK.1 hK.2)
  have HS := hid (fun w => oshares_yes n w hn)
  have HR := hid (fun w => orr_any o at_ n w hn)
  have HD := hid (fun w => ord_any o n w)
  have HC := hid (fun w => orc_any o w)
  have HB : Hid (Below w.heap.size w (w.alloc (.cells #[.int .i64 o.K, .int .i64 o.D, .int .i64 o.A, .int .i64 o.B, .int .i64 o.E, .int .u64 (o.C : Int)] 52))) := hid ((Below.refl _ _).alloc (Nat.le_refl _) _)
  have HX := hid (obox o w)
  have ha : (0 : Int) ≤ (at_ : Int) := by omega
  generalize allB (rgB o at_ n) 3 = b1 at *
  generalize okD o n = b2 at *
  generalize okC o.K o.C = b3 at *
  clear hK hn
  go_enter Tryd.func62, Tryd.ntmps62
  cases b1
  all_goals cases b2
  all_goals
    go_wp2_with (first
      | (go_at_call 68; (with_reducible refine (HI.out _).mono ?_); rintro e w1 ⟨rfl, rfl⟩)
      | (go_at_call 69; (with_reducible refine (HS.out _).mono ?_); rintro e w1 ⟨rfl, rfl⟩)
      | (go_at_call 70; (with_reducible refine (HR.out _).mono ?_); rintro e w2 ⟨rfl, hb⟩; have HX2 := hid ((hb.block _ (by simp)).trans HX.out); have HB2 := hid (HB.out.trans (hb.mono HB.out.size)); obtain ⟨d0, d1, d2, d3, d4, d5⟩ := ocells HX2.out; clear hb)
      | (go_at_call 71; (with_reducible refine (HD.out _).mono ?_); rintro e w3 ⟨rfl, hb⟩; have HX3 := hid ((hb.block _ (Array.getElem?_eq_some_iff.1 HX2.out).1).trans HX2.out); have HB3 := hid (HB2.out.trans (hb.mono HB2.out.size)); clear d0 d1 d2 d3 d4 d5; obtain ⟨d0, d1, d2, d3, d4, d5⟩ := ocells HX3.out; clear hb)
      | (go_at_call 72; (with_reducible refine (HC.out _).mono ?_); rintro e w4 ⟨rfl, hb⟩; have HB4 := hid (HB3.out.trans (hb.mono HB3.out.size)); clear hb))
  · go_ret
    exact ⟨rfl, HB2.out⟩
  · go_ret
    exact ⟨rfl, HB2.out⟩
  · go_ret
    exact ⟨rfl, HB3.out⟩
  · go_ret
    exact ⟨rfl, HB4.out⟩
theorem oright_any (o : Op6) (at_ : Nat) (n : Int) (w : World) : Calls Tryd.prog 62 #[.agg #[.int .i64 o.K, .int .i64 o.D, .int .i64 o.A, .int .i64 o.B, .int .i64 o.E, .int .u64 (o.C : Int)], .int .i64 (at_ : Int), .int .i64 n] w fun e w' => e = .returned (.bool (okOp o at_ n)) ∧ Below w.heap.size w w' := by
  by_cases h : (o.K < 1 ∨ 12 < o.K) ∨ ¬ (n = 2 ∨ n = 3)
  · rw [okOp_no o at_ n h]
    exact oright_head o at_ n w h
  · exact oright_body o at_ n w (by omega) (by omega)
end Go.Proofs.YtpjgpiieminaoaaDoor

/- Op: what an op makes, by the program. -/
namespace Go.Proofs.YtpjgpiieminaoaaDoor
open Go.RowKit

set_option maxRecDepth 100000 in
set_option maxHeartbeats 1600000 in
theorem oev_any (K D A B E : Int) (C a b d x : Nat) (w : World) (hC : C < 2 ^ 64) (ha : a < 2 ^ 64) (hb : b < 2 ^ 64) (hd : d < 2 ^ 64) (hx : x < 2 ^ 64) :
    Calls Tryd.prog 64 #[opV K D A B E C, .int .u64 (a : Int), .int .u64 (b : Int), .int .u64 (d : Int), .int .u64 (x : Int)] w fun e w' => e = .returned (.int .u64 (evN K C a b d x : Nat)) ∧ Below w.heap.size w w' := by
  have HB : Hid (Below w.heap.size w (w.alloc (.cells #[.int .i64 K, .int .i64 D, .int .i64 A, .int .i64 B, .int .i64 E, .int .u64 (C : Int)] 52))) := hid ((Below.refl _ _).alloc (Nat.le_refl _) _)
  obtain ⟨k, hk⟩ : ∃ k, C % 64 = k := ⟨_, rfl⟩
  have hk64 : k < 64 := by omega
  have m1 : (C : Int).tmod 64 = (k : Int) := by rw [← hk]; rfl
  have m2 : IntKind.i64.wrap (k : Int) = (k : Int) := by rw [IntKind.wrap_i64]; omega
  have HR11 := hid (fun w => orot_n (x := a) (m := k) (k := (k : Int)) ha (by omega) w)
  have x1 := wx64 hx ha
  have x2 := wx64 (xr_lt hx ha) hb
  have x3 := wx64 ha hb
  have x4 := wx64 (xr_lt ha hb) hd
  have a1 := wn64 ha hb
  have a2 := wn64 ha hC
  have f6 : bits .xor .u64 IntKind.u64.max (a : Int) = (wnt a : Nat) := by
    have h := wx64 (a := 2 ^ 64 - 1) (b := a) (by decide) ha
    rw [show ((2 ^ 64 - 1 : Nat) : Int) = IntKind.u64.max from rfl] at h
    rw [h, wnt_max ha]
  have f9 : IntKind.u64.wrap ((a : Int) * 2 ^ k) = (wsl a k : Nat) := by rw [IntKind.wrap_u64]; unfold wsl; simp
  have f10 : (a : Int) / 2 ^ k = (wsr a k : Nat) := by unfold wsr; simp
  unfold evN
  rw [hk]
  clear hC ha hb hd hx hk
  generalize wnt a = na at *
  generalize x ^^^ a = xa at *
  generalize xa ^^^ b = xab at *
  generalize a ^^^ b = ab at *
  generalize ab ^^^ d = abd at *
  generalize a &&& b = anb at *
  generalize a &&& C = anc at *
  generalize rt a k = ral at *
  generalize wsl a k = asl at *
  generalize wsr a k = asr at *
  rcases kinds12 K with rfl | rfl | rfl | rfl | rfl | rfl | rfl | rfl | rfl | rfl | rfl | rfl | h
  rotate_right
  · rw [if_neg (by omega), if_neg (by omega), if_neg (by omega), if_neg (by omega), if_neg (by omega), if_neg (by omega), if_neg (by omega), if_neg (by omega), if_neg (by omega), if_neg (by omega), if_neg (by omega), if_neg (by omega)]
    have q1 : ¬ K = 1 := by omega
    have q2 : ¬ K = 2 := by omega
    have q3 : ¬ K = 3 := by omega
    have q4 : ¬ K = 4 := by omega
    have q5 : ¬ K = 5 := by omega
    have q6 : ¬ K = 6 := by omega
    have q7 : ¬ K = 7 := by omega
    have q8 : ¬ K = 8 := by omega
    have q9 : ¬ K = 9 := by omega
    have q10 : ¬ K = 10 := by omega
    have q11 : ¬ K = 11 := by omega
    have q12 : ¬ K = 12 := by omega
    clear h
    go_enter Tryd.func64, Tryd.ntmps64
    go_wp2
    go_ret
    exact ⟨rfl, HB.out⟩
  all_goals
    simp only [reduceIte, Int.reduceEq]
    go_enter Tryd.func64, Tryd.ntmps64
    go_wp2_with (first
      | (go_at_call 74; (with_reducible refine (HR11.out _).mono ?_); rintro e w1 ⟨rfl, rfl⟩))
    go_ret
    exact ⟨rfl, HB.out⟩
end Go.Proofs.YtpjgpiieminaoaaDoor

/- General: regions that draw: a condition T that holds till operation K (a store) has come up, and S that always holds. What K waits for may be taken first in every world that meets T. No program is named. -/
namespace Go.Proofs.YtpjgpiieminaoaaDoor
open Go.RowKit
section
variable {P : Program} {ops : Array Oper} {Q : Exit → Act → World → Prop} {md : Region.Mode} {S T : World → Prop} {K : Nat}

/-- Whatever order is picked from here on; S holds behind each operation, and T till K has come up. -/
def wpAnyT (P : Program) (md : Region.Mode) (ops : Array Oper) (Q : Exit → Act → World → Prop) (S T : World → Prop) (K : Nat) : Nat → Array Bool → Act → World → Prop
  | 0, listed, a, w => Region.ready md ops listed = [] ∧ Q .normal a w
  | fuel + 1, listed, a, w =>
    (Region.ready md ops listed = [] → Q .normal a w) ∧
    ∀ i ∈ Region.ready md ops listed, wpOp P ops Q i (fun a' w' => (S w' ∧ ((listed.setIfInBounds i true).getD K true = false → T w')) ∧ wpAnyT P md ops Q S T K fuel (listed.setIfInBounds i true) a' w') a w
theorem wpAny_of_t : ∀ (fuel : Nat) (listed : Array Bool) (a : Act) (w : World), wpAnyT P md ops Q S T K fuel listed a w → wpAny P md ops Q fuel listed a w
  | 0, _, _, _, h => h
  | fuel + 1, _, _, _, h => ⟨h.1, fun i hi => wpOp_mono (fun a' w' h' => wpAny_of_t fuel _ a' w' h'.2) (h.2 i hi)⟩
theorem getD_set_no {l : Array Bool} {i j : Nat} {x d : Bool} (h : i ≠ j) : (l.setIfInBounds i x).getD j d = l.getD j d := by
  simp only [Array.getD_eq_getD_getElem?, Array.getElem?_setIfInBounds_ne h]
theorem getD_two {l : Array Bool} {i : Nat} (h : l.getD i true = false) (k : l.getD i false = true) : False := by
  rw [Array.getD_eq_getD_getElem?] at h k
  cases q : l[i]? with
  | none => rw [q] at h; exact Bool.noConfusion h
  | some x => rw [q] at h k; exact Bool.noConfusion (h.symm.trans k)
/-- Whoever may come up beside i doesn't wait for i. -/
theorem beside {listed : Array Bool} {i j : Nat} {oj : Oper} (hi : i ∈ Region.ready md ops listed) (hj : j ∈ Region.ready md ops listed) (ho : ops[j]? = some oj) : ∀ e ∈ oj.after, Region.binds md e = true → e.on ≠ i := by
  intro e he hb q
  obtain ⟨_, o2, h2, hall⟩ := mem_ready.1 hj
  cases ho.symm.trans h2
  exact getD_two (mem_ready.1 hi).1 (q ▸ hall e he hb)
/-- Whoever has not come up, and doesn't wait for i, leaves i alone. -/
def Lets (md : Region.Mode) (ops : Array Oper) (i : Nat) (oi : Oper) (listed : Array Bool) : Prop :=
  ∀ j oj, ops[j]? = some oj → j ≠ i → listed.getD j true = false → (∀ e ∈ oj.after, Region.binds md e = true → e.on ≠ i) → oi.apart ops oj = true
theorem Lets.on {i j : Nat} {oi : Oper} {listed : Array Bool} (h : Lets md ops i oi listed) (hj : listed.getD j true = false) : Lets md ops i oi (listed.setIfInBounds j true) := by
  intro k ok h1 h2 h3 h4
  by_cases e : j = k
  · exact h k ok h1 h2 (e ▸ hj) h4
  · exact h k ok h1 h2 (by rwa [getD_set_no e] at h3) h4
/-- What is shown behind each operation. -/
def Shows (S T : World → Prop) (K : Nat) (listed : Array Bool) (w : World) : Prop := S w ∧ (listed.getD K true = false → T w)
theorem Shows.drop {i : Nat} {l : Array Bool} {w : World} (hiK : i ≠ K) (h : Shows S T K (l.setIfInBounds i true) w) : Shows S T K l w := ⟨h.1, fun q => h.2 (by rw [getD_set_no hiK]; exact q)⟩
theorem Shows.lay {i : Nat} {l : Array Bool} {w : World} (hiK : i ≠ K) (h : Shows S T K l w) : Shows S T K (l.setIfInBounds i true) w := ⟨h.1, fun q => h.2 (by rwa [getD_set_no hiK] at q)⟩
/-- The law: i is taken first; V: what its value asks; I: what lasts while it has not come up. -/
theorem rt_first {i : Nat} {oi : Oper} {v : Value} {V : World → Prop} {I : Array Bool → Prop} (hi : ops[i]? = some oi) (hsel : ∀ (j : Nat) (o : Oper) cs b, ops[j]? = some o → o.op ≠ .select cs b)
    (hQ : ∀ c a w, Q (.panic c) (a.put oi.dst v) w → Q (.panic c) a w) (hiK : i ≠ K) (hV : ∀ l w, I l → Shows S T K l w → V w)
    (hI : ∀ l j, I l → i ∈ Region.ready md ops l → j ∈ Region.ready md ops l → j ≠ i → I (l.setIfInBounds j true)) :
    ∀ (fuel : Nat) (listed : Array Bool) (a : Act) (w : World), Lets md ops i oi listed → i ∈ Region.ready md ops listed → YieldsIf P ops V oi v a → I listed → Shows S T K listed w →
      wpAnyT P md ops Q S T K fuel (listed.setIfInBounds i true) (a.put oi.dst v) w → wpAnyT P md ops Q S T K (fuel + 1) listed a w
  | fuel, listed, a, w, hl, hr, hy, hI0, hS, H => by
    have now : wpOp P ops Q i (fun a' w' => Shows S T K (listed.setIfInBounds i true) w' ∧ wpAnyT P md ops Q S T K fuel (listed.setIfInBounds i true) a' w') a w := hy.wpOp hi (hV _ _ hI0 hS) ⟨hS.lay hiK, H⟩
    refine ⟨fun q => absurd hr (by rw [q]; exact List.not_mem_nil), fun j hj => ?_⟩
    rcases Nat.decEq j i with hji | rfl
    case isTrue => exact now
    case isFalse =>
      match fuel, H, now with
      | 0, H, _ => exact absurd (ready_mono hj hji) (by rw [H.1]; exact List.not_mem_nil)
      | fuel + 1, H, _ =>
        obtain ⟨h0, oj, hoj, _⟩ := mem_ready.1 hj
        refine wpOp_mono (fun a' w' h3 => ?_) (wpOp_putIf hoj (hl j oj hoj hji h0 (beside hr hj hoj)) (fun cs b => hsel i oi cs b hi) (fun cs b => hsel j oj cs b hoj) hQ hy (H.2 j (ready_mono hj hji)))
        have hc : (listed.setIfInBounds i true).setIfInBounds j true = (listed.setIfInBounds j true).setIfInBounds i true := Array.setIfInBounds_comm _ _ (fun q => hji q.symm)
        have hs : Shows S T K (listed.setIfInBounds j true) w' := Shows.drop hiK (hc ▸ h3.2.1)
        exact ⟨hs, rt_first hi hsel hQ hiK hV hI fuel _ a' w' (hl.on h0) (ready_mono hr (fun q => hji q.symm)) h3.1 (hI _ _ hI0 hr hj hji) hs (hc ▸ h3.2.2)⟩
theorem rt_takeS {i : Nat} {oi : Oper} {v : Value} {fuel : Nat} {listed : Array Bool} {a : Act} {w : World} (hi : ops[i]? = some oi)
    (hs : Region.noSelect ops = true) (hf : Region.free md ops listed i = true) (hr : (Region.ready md ops listed).contains i = true) (hiK : (i == K) = false)
    (hQ : ∀ c a w, Q (.panic c) (a.put oi.dst v) w → Q (.panic c) a w) (hy : YieldsIf P ops S oi v a) (hS : S w ∧ (listed.getD K true = false → T w))
    (h : wpAnyT P md ops Q S T K fuel (listed.setIfInBounds i true) (a.put oi.dst v) w) : wpAnyT P md ops Q S T K (fuel + 1) listed a w :=
  rt_first (V := S) (I := fun _ => True) hi (Region.noSelect_spec hs) hQ (by simpa using hiK) (fun _ _ _ q => q.1) (fun _ _ _ _ _ _ => trivial) fuel listed a w (Region.free_spec hi hf) (by simpa using hr) hy trivial hS h
theorem rt_takeT {i : Nat} {oi : Oper} {v : Value} {fuel : Nat} {listed : Array Bool} {a : Act} {w : World} (hi : ops[i]? = some oi)
    (hs : Region.noSelect ops = true) (hf : Region.free md ops listed i = true) (hr : (Region.ready md ops listed).contains i = true) (hiK : (i == K) = false)
    (hw : (match ops[K]? with | some o => o.after.any (fun e => Region.binds md e && e.on == i) | none => false) = true) (hK : listed.getD K true = false)
    (hQ : ∀ c a w, Q (.panic c) (a.put oi.dst v) w → Q (.panic c) a w) (hy : YieldsIf P ops T oi v a) (hS : S w ∧ T w)
    (h : wpAnyT P md ops Q S T K fuel (listed.setIfInBounds i true) (a.put oi.dst v) w) : wpAnyT P md ops Q S T K (fuel + 1) listed a w := by
  cases hoK : ops[K]? with
  | none => rw [hoK] at hw; cases hw
  | some oK =>
    rw [hoK] at hw
    obtain ⟨e, he, h2⟩ := Array.any_eq_true'.1 hw
    rw [Bool.and_eq_true] at h2
    exact rt_first (V := T) (I := fun l => l.getD K true = false) hi (Region.noSelect_spec hs) hQ (by simpa using hiK) (fun _ _ q k => k.2 q) (fun l j q h1 h3 h4 => by
      have hjK : j ≠ K := fun k => by subst k; exact beside h1 h3 hoK e he h2.1 (by simpa using h2.2)
      rw [getD_set_no hjK]; exact q) fuel listed a w (Region.free_spec hi hf) (by simpa using hr) hy hK ⟨hS.1, fun _ => hS.2⟩ h
/-- Each of the operations comes up next. -/
def RtReady (P : Program) (md : Region.Mode) (ops : Array Oper) (Q : Exit → Act → World → Prop) (S T : World → Prop) (K : Nat) (fuel : Nat) (listed : Array Bool) (a : Act) (w : World) (rs : List Nat) : Prop :=
  ∀ i ∈ rs, wpOp P ops Q i (fun a' w' => (S w' ∧ ((listed.setIfInBounds i true).getD K true = false → T w')) ∧ wpAnyT P md ops Q S T K fuel (listed.setIfInBounds i true) a' w') a w
theorem RtReady.nil {fuel : Nat} {listed : Array Bool} {a : Act} {w : World} : RtReady P md ops Q S T K fuel listed a w [] := fun _ h => by cases h
/-- Ahead of K: behind it S and T hold. -/
theorem RtReady.consT {fuel : Nat} {listed : Array Bool} {a : Act} {w : World} {i : Nat} {o : Oper} {rs : List Nat} (ho : ops[i]? = some o)
    (h : ∀ K' : Act → World → Prop, Shut (∀ a w, S w ∧ T w → (S w ∧ T w → wpAnyT P md ops Q S T K fuel (listed.setIfInBounds i true) a w) → K' a w) → if Region.wanted o (yielded ops a.tmps) = true then Oper.wp P o a w K' Q else K' (a.put o.dst undef) w)
    (hs : RtReady P md ops Q S T K fuel listed a w rs) : RtReady P md ops Q S T K fuel listed a w (i :: rs) := fun j hj => by
  rcases List.mem_cons.1 hj with rfl | hj
  · exact wpOp_step ho (fun K' hK => h K' (fun a w hS hW => hK a w ⟨⟨hS.1, fun _ => hS.2⟩, hW hS⟩))
  · exact hs j hj
/-- K, and what comes behind it: S alone is shown. -/
theorem RtReady.consS {fuel : Nat} {listed : Array Bool} {a : Act} {w : World} {i : Nat} {o : Oper} {rs : List Nat} (ho : ops[i]? = some o) (hk : (listed.setIfInBounds i true).getD K true = true)
    (h : ∀ K' : Act → World → Prop, Shut (∀ a w, S w → (S w → wpAnyT P md ops Q S T K fuel (listed.setIfInBounds i true) a w) → K' a w) → if Region.wanted o (yielded ops a.tmps) = true then Oper.wp P o a w K' Q else K' (a.put o.dst undef) w)
    (hs : RtReady P md ops Q S T K fuel listed a w rs) : RtReady P md ops Q S T K fuel listed a w (i :: rs) := fun j hj => by
  rcases List.mem_cons.1 hj with rfl | hj
  · exact wpOp_step ho (fun K' hK => h K' (fun a w hS hW => hK a w ⟨⟨hS, fun e => by rw [hk] at e; cases e⟩, hW hS⟩))
  · exact hs j hj
theorem rt_ready {rs : List Nat} {fuel : Nat} {listed : Array Bool} {a : Act} {w : World} (hr : Region.ready md ops listed = rs) (hne : rs ≠ [])
    (h : RtReady P md ops Q S T K fuel listed a w rs) : wpAnyT P md ops Q S T K (fuel + 1) listed a w :=
  ⟨fun h0 => absurd (hr ▸ h0) hne, hr ▸ h⟩
theorem rt_done {listed : Array Bool} {a : Act} {w : World} (hr : Region.ready md ops listed = []) (h : Q .normal a w) :
    ∀ fuel, wpAnyT P md ops Q S T K fuel listed a w
  | 0 => ⟨hr, h⟩
  | _ + 1 => ⟨fun _ => h, by rw [hr]; simp⟩
/-- The beginning. -/
theorem wp_region_rt (S T : World → Prop) (K : Nat) {id : Nat} {a : Act} {w : World} (hm : P.follows .mixedOrders = true) (hS : S w.drew ∧ T w.drew)
    (h : S w.drew ∧ T w.drew → wpAnyT P .any ops Q S T K ops.size (Array.replicate ops.size false) a w.drew) : (Code.region id ops true).wp P Q a w :=
  wp_region_any hm (wpAny_of_t _ _ _ _ (h hS))
/-- Ahead of K. -/
theorem rt_takeA {i : Nat} {oi : Oper} {v : Value} {fuel : Nat} {listed : Array Bool} {a : Act} {w : World} (hi : ops[i]? = some oi)
    (hs : Region.noSelect ops = true) (hf : Region.free md ops listed i = true) (hr : (Region.ready md ops listed).contains i = true) (hiK : (i == K) = false)
    (hQ : ∀ c a w, Q (.panic c) (a.put oi.dst v) w → Q (.panic c) a w) (hy : YieldsIf P ops S oi v a) (hS : S w ∧ T w)
    (h : wpAnyT P md ops Q S T K fuel (listed.setIfInBounds i true) (a.put oi.dst v) w) : wpAnyT P md ops Q S T K (fuel + 1) listed a w := rt_takeS hi hs hf hr hiK hQ hy ⟨hS.1, fun _ => hS.2⟩ h
/-- Behind K. -/
theorem rt_takeB {i : Nat} {oi : Oper} {v : Value} {fuel : Nat} {listed : Array Bool} {a : Act} {w : World} (hi : ops[i]? = some oi)
    (hs : Region.noSelect ops = true) (hf : Region.free md ops listed i = true) (hr : (Region.ready md ops listed).contains i = true) (hiK : (i == K) = false) (hk : listed.getD K true = true)
    (hQ : ∀ c a w, Q (.panic c) (a.put oi.dst v) w → Q (.panic c) a w) (hy : YieldsIf P ops S oi v a) (hS : S w)
    (h : wpAnyT P md ops Q S T K fuel (listed.setIfInBounds i true) (a.put oi.dst v) w) : wpAnyT P md ops Q S T K (fuel + 1) listed a w := rt_takeS hi hs hf hr hiK hQ hy ⟨hS, fun e => by rw [hk] at e; cases e⟩ h
end
end Go.Proofs.YtpjgpiieminaoaaDoor
