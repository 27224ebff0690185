import Derived.Test.YtffoinnllihdeaaProg
import Derived.Test.YtffoinnllihdeaaTra
import Derived.Test.YtffoinnllihdeaaRwg
/- Op: may an op stand, by the program. -/
namespace Go.Proofs.Ytffoinnllihdeaa
open Go.RowKit
set_option maxRecDepth 100000
theorem oshares_yes (n : Int) (w : World) (h : n = 2 ∨ n = 3) : Calls Try.prog 72 #[.int .i64 n] w fun e w' => e = .returned (.bool true) ∧ w' = w := by
  rcases h with rfl | rfl
  all_goals
    go_enter Try.func72, Try.ntmps72
    go_wp2
    go_ret
    exact ⟨rfl, rfl⟩
theorem oshares_no (n : Int) (w : World) (h : ¬ (n = 2 ∨ n = 3)) : Calls Try.prog 72 #[.int .i64 n] w fun e w' => e = .returned (.bool false) ∧ w' = w := by
  have g2 : (n == 2) = false := by simp; omega
  have g3 : (n == 3) = false := by simp; omega
  clear h
  go_enter Try.func72, Try.ntmps72
  go_wp2
  go_ret
  exact ⟨rfl, rfl⟩
theorem oiskind_yes (K : Int) (w : World) (h : 1 ≤ K) (h2 : K ≤ 12) : Calls Try.prog 71 #[.int .i64 K] w fun e w' => e = .returned (.bool true) ∧ w' = w := by
  have q1 : decide (1 ≤ K) = true := by simp [h]
  have q2 : decide (K ≤ 12) = true := by simp [h2]
  go_enter Try.func71, Try.ntmps71
  go_wp2
  go_ret
  exact ⟨rfl, rfl⟩
theorem oiskind_no (K : Int) (w : World) (h : K < 1 ∨ 12 < K) : Calls Try.prog 71 #[.int .i64 K] w fun e w' => e = .returned (.bool false) ∧ w' = w := by
  by_cases h1 : 1 ≤ K
  · have q1 : decide (1 ≤ K) = true := by simp [h1]
    have q2 : decide (K ≤ 12) = false := by simp; omega
    go_enter Try.func71, Try.ntmps71
    go_wp2
    go_ret
    exact ⟨rfl, rfl⟩
  · have q1 : decide (1 ≤ K) = false := by simp; omega
    go_enter Try.func71, Try.ntmps71
    go_wp2
    go_ret
    exact ⟨rfl, rfl⟩
set_option maxHeartbeats 6400000 in
theorem oregs_any (K n : Int) (w : World) (hn : n = 2 ∨ n = 3) : Calls Try.prog 78 #[.int .i64 K, .int .i64 n] w fun e w' => e = .returned (.int .i64 (rgN K n)) ∧ w' = w := by
  have HS := hid (oshares_yes n w hn)
  rcases kindsL K with rfl | rfl | rfl | rfl | rfl | rfl | rfl | rfl | rfl | rfl | rfl | rfl | h
  rotate_right
  · rw [rgN_zero h]
    have q2 : ¬ K = 2 := by omega
    have q5 : ¬ K = 5 := by omega
    have q6 : ¬ K = 6 := by omega
    have q7 : ¬ K = 7 := by omega
    have q8 : ¬ K = 8 := by omega
    have q9 : ¬ K = 9 := by omega
    have q10 : ¬ K = 10 := by omega
    have q11 : ¬ K = 11 := by omega
    have q12 : ¬ K = 12 := by omega
    clear h hn
    go_enter Try.func78, Try.ntmps78
    go_wp2_with (go_at_call 72; (with_reducible refine (HS.out).mono ?_); rintro e w1 ⟨rfl, rfl⟩)
    go_ret
    exact ⟨rfl, rfl⟩
  all_goals
    rcases hn with rfl | rfl
    all_goals
      simp only [rgN, reduceIte, Int.reduceEq]
      go_enter Try.func78, Try.ntmps78
      go_wp2_with (go_at_call 72; (with_reducible refine (HS.out).mono ?_); rintro e w1 ⟨rfl, rfl⟩)
      go_ret
      exact ⟨rfl, rfl⟩
/-- The op's block. -/
theorem obox (o : Op6) (w : World) : (w.alloc (.cells #[.int .i64 o.K, .int .i64 o.D, .int .i64 o.A, .int .i64 o.B, .int .i64 o.E, .int .u64 (o.C : Int)] 43)).heap[w.heap.size]? = some (.cells #[.int .i64 o.K, .int .i64 o.D, .int .i64 o.A, .int .i64 o.B, .int .i64 o.E, .int .u64 (o.C : Int)] 43 (0, 0)) := heap_alloc_new w _
theorem orc_any (o : Op6) (w : World) : Calls Try.prog 75 #[.agg #[.int .i64 o.K, .int .i64 o.D, .int .i64 o.A, .int .i64 o.B, .int .i64 o.E, .int .u64 (o.C : Int)]] w fun e w' => e = .returned (.bool (okC o.K o.C)) ∧ Below w.heap.size w w' := by
  obtain ⟨K, D, A, B, E, C⟩ := o
  simp only at *
  have HB : Hid (Below w.heap.size w (w.alloc (.cells #[.int .i64 K, .int .i64 D, .int .i64 A, .int .i64 B, .int .i64 E, .int .u64 (C : Int)] 43))) := hid ((Below.refl _ _).alloc (Nat.le_refl _) _)
  have e1 : decide ((C : Int) < 64) = decide (C < 64) := by congr 1; simp; omega
  have e2 : decide ((C : Int) < 1048576) = decide (C < 1048576) := by congr 1; simp; omega
  have e3 : ((C : Int) == 0) = decide (C = 0) := by rw [Bool.eq_iff_iff]; simp
  rcases kindsL K with rfl | rfl | rfl | rfl | rfl | rfl | rfl | rfl | rfl | rfl | rfl | rfl | h
  rotate_right
  · have hq : okC K C = decide (C = 0) := by
      unfold okC
      rw [if_neg (by omega), if_neg (by omega), if_neg (by omega)]
    rw [hq]
    have q2 : ¬ K = 2 := by omega
    have q3 : ¬ K = 3 := by omega
    have q4 : ¬ K = 4 := by omega
    have q8 : ¬ K = 8 := by omega
    have q9 : ¬ K = 9 := by omega
    have q10 : ¬ K = 10 := by omega
    have q11 : ¬ K = 11 := by omega
    clear h hq e1 e2
    generalize decide (C = 0) = b at *
    go_enter Try.func75, Try.ntmps75
    go_wp2
    go_ret
    exact ⟨by first | rfl | rw [e3], HB.out⟩
  all_goals
    simp only [okC, reduceIte, Int.reduceEq, or_true, true_or, or_self]
    go_enter Try.func75, Try.ntmps75
    go_wp2
    go_ret
    exact ⟨by first | rfl | rw [e1] | rw [e2] | rw [e3], HB.out⟩
/-- The domain, and the rest. -/
def okD (o : Op6) (n : Int) : Bool := if o.K = 12 then decide (o.D = -1) else decide (-1 ≤ o.D) && decide (o.D < n)
theorem okOp_parts (o : Op6) (at_ n : Int) (hK : 1 ≤ o.K ∧ o.K ≤ 12) (hn : n = 2 ∨ n = 3) : okOp o at_ n = (allB (rgB o at_ n) 3 && okD o n && okC o.K o.C) := by
  unfold okOp okH okD
  have e : decide ((n = 2 ∨ n = 3) ∧ 1 ≤ o.K ∧ o.K ≤ 12 ∧ -1 ≤ o.D ∧ o.D < n ∧ (o.K = 12 → o.D = -1)) = (if o.K = 12 then decide (o.D = -1) else decide (-1 ≤ o.D) && decide (o.D < n)) := by
    rw [Bool.eq_iff_iff]
    by_cases h : o.K = 12
    · rw [if_pos h]
      simp only [decide_eq_true_eq]
      constructor
      · rintro ⟨_, _, _, _, _, h6⟩; exact h6 h
      · intro h6; exact ⟨hn, hK.1, hK.2, by omega, by omega, fun _ => h6⟩
    · rw [if_neg h]
      simp only [decide_eq_true_eq, Bool.and_eq_true]
      constructor
      · rintro ⟨_, _, _, h4, h5, _⟩; exact ⟨h4, h5⟩
      · rintro ⟨h4, h5⟩; exact ⟨hn, hK.1, hK.2, h4, h5, fun h' => absurd h' h⟩
  rw [e, Bool.and_comm (if o.K = 12 then _ else _)]
theorem okOp_no (o : Op6) (at_ n : Int) (h : (o.K < 1 ∨ 12 < o.K) ∨ ¬ (n = 2 ∨ n = 3)) : okOp o at_ n = false := okH_no (by omega) at_
theorem ord_any (o : Op6) (n : Int) (w : World) : Calls Try.prog 74 #[.agg #[.int .i64 o.K, .int .i64 o.D, .int .i64 o.A, .int .i64 o.B, .int .i64 o.E, .int .u64 (o.C : Int)], .int .i64 n] w fun e w' => e = .returned (.bool (okD o n)) ∧ Below w.heap.size w w' := by
  obtain ⟨K, D, A, B, E, C⟩ := o
  have HB : Hid (Below w.heap.size w (w.alloc (.cells #[.int .i64 K, .int .i64 D, .int .i64 A, .int .i64 B, .int .i64 E, .int .u64 (C : Int)] 43))) := hid ((Below.refl _ _).alloc (Nat.le_refl _) _)
  unfold okD
  simp only at *
  by_cases h : K = 12
  · subst h
    have e1 : (D == -1) = decide (D = -1) := by rw [Bool.eq_iff_iff]; simp
    rw [if_pos rfl, ← e1]
    clear e1
    go_enter Try.func74, Try.ntmps74
    go_wp2
    go_ret
    exact ⟨rfl, HB.out⟩
  · rw [if_neg h]
    by_cases h1 : -1 ≤ D
    · have q1 : decide (-1 ≤ D) = true := decide_eq_true h1
      rw [q1, Bool.true_and]
      go_enter Try.func74, Try.ntmps74
      go_wp2
      go_ret
      exact ⟨rfl, HB.out⟩
    · have q1 : decide (-1 ≤ D) = false := decide_eq_false h1
      rw [q1, Bool.false_and]
      go_enter Try.func74, Try.ntmps74
      go_wp2
      go_ret
      exact ⟨rfl, HB.out⟩
theorem rgL_get (o : Op6) (j : Nat) (hj : j < 3) : (#[.int .i64 o.A, .int .i64 o.B, .int .i64 o.E] : Array Value)[j]? = some (.int .i64 (rgL o j)) := by
  rcases (by omega : j = 0 ∨ j = 1 ∨ j = 2) with rfl | rfl | rfl <;> rfl
theorem rgL_index (o : Op6) (j : Nat) (hj : j < 3) (w : World) : (Instr.index 100 (.agg #[.int .i64 o.A, .int .i64 o.B, .int .i64 o.E]) (.int .i64 (j : Int))).run Try.prog w = .ok (.int .i64 (rgL o j)) w :=
  run_index_num w 100 3 3 _ j _ Try.underlying100 Try.underlying3 (by kernel_rfl) hj (rgL_get o j hj)
set_option maxHeartbeats 6400000 in
theorem orr_any (o : Op6) (at_ n : Int) (w : World) (hn : n = 2 ∨ n = 3) : Calls Try.prog 73 #[.agg #[.int .i64 o.K, .int .i64 o.D, .int .i64 o.A, .int .i64 o.B, .int .i64 o.E, .int .u64 (o.C : Int)], .int .i64 at_, .int .i64 n] w fun e w' => e = .returned (.bool (allB (rgB o at_ n) 3)) ∧ Below w.heap.size w w' := by
  have HX := hid (fun j hj w => rgL_index o j hj w)
  have HR := hid (fun w => oregs_any o.K n w hn)
  have HB : Hid (Below w.heap.size w (w.alloc (.cells #[.int .i64 o.K, .int .i64 o.D, .int .i64 o.A, .int .i64 o.B, .int .i64 o.E, .int .u64 (o.C : Int)] 43))) := hid ((Below.refl _ _).alloc (Nat.le_refl _) _)
  have HG : Hid (∀ j, rgB o at_ n j = if (j : Int) < rgN o.K n then decide (0 ≤ rgL o j ∧ rgL o j < at_) else decide (rgL o j = -1)) := hid (fun _ => rfl)
  have HA : Hid (∀ j, j < 3 → rgB o at_ n j = false → allB (rgB o at_ n) 3 = false) := hid (fun j hj h => allB_no hj h)
  have HT : Hid ((∀ j, j < 3 → rgB o at_ n j = true) → allB (rgB o at_ n) 3 = true) := hid allB_of
  generalize allB (rgB o at_ n) 3 = res at *
  generalize rgN o.K n = r at *
  generalize rgB o at_ n = gb at *
  clear hn
  go_enter Try.func73, Try.ntmps73
  go_wp2_with (go_at_call 78; (with_reducible refine (HR.out _).mono ?_); rintro e w1 ⟨rfl, rfl⟩)
  go_loop [21] (fun i => ∃ j : Nat, j ≤ 3 ∧ i = .int .i64 j ∧ ∀ k, k < j → gb k = true) (fun i => 3 - (intOf i).toNat)
  case atStart => exact ⟨0, by omega, rfl, fun k hk => by omega⟩
  case round =>
    obtain ⟨j, hj, rfl, hall⟩ := hrel
    have Hall := hid hall
    clear hall
    by_cases hlt : j < 3
    · have hidx := HX.out j hlt
      have hg := HG.out j
      have HAj := hid (HA.out j hlt)
      have j1 : (0 : Int) ≤ (j : Int) := by omega
      have j2 : (j : Int) < 3 := by omega
      generalize rgL o j = z at *
      by_cases hr : (j : Int) < r
      · rw [if_pos hr] at hg
        have hr2 : ¬ r ≤ (j : Int) := by omega
        by_cases z1 : z < 0
        · have Hf := hid (HAj.out (by rw [hg]; exact decide_eq_false (by omega)))
          clear hg
          go_wp2
          go_ret
          exact ⟨by rw [Hf.out]; rfl, HB.out⟩
        · by_cases z2 : at_ ≤ z
          · have Hf := hid (HAj.out (by rw [hg]; exact decide_eq_false (by omega)))
            clear hg
            go_wp2
            go_ret
            exact ⟨by rw [Hf.out]; rfl, HB.out⟩
          · have Hy : Hid (gb j = true) := hid (by rw [hg]; exact decide_eq_true (by omega))
            clear hg
            go_wp2
            go_round
            case rel => exact ⟨j + 1, by omega, by go_num, fun k hk => by
              by_cases e : k = j
              · subst e; exact Hy.out
              · exact Hall.out k (by omega)⟩
            case measure => simp [intOf]; omega
      · rw [if_neg hr] at hg
        have hr2 : r ≤ (j : Int) := by omega
        by_cases z1 : z = -1
        · have Hy : Hid (gb j = true) := hid (by rw [hg]; exact decide_eq_true z1)
          have zn : (z != -1) = false := by simp [z1]
          clear hg
          go_wp2
          go_round
          case rel => exact ⟨j + 1, by omega, by go_num, fun k hk => by
            by_cases e : k = j
            · subst e; exact Hy.out
            · exact Hall.out k (by omega)⟩
          case measure => simp [intOf]; omega
        · have Hf := hid (HAj.out (by rw [hg]; exact decide_eq_false z1))
          have zn : (z != -1) = true := by simp [z1]
          clear hg
          go_wp2
          go_ret
          exact ⟨by rw [Hf.out]; rfl, HB.out⟩
    · obtain rfl : j = 3 := by omega
      have Ht := hid (HT.out Hall.out)
      clear hlt hj
      go_wp2
      go_ret
      exact ⟨by rw [Ht.out]; rfl, HB.out⟩
theorem ocells {w : World} {b : Nat} {o : Op6} (h : w.heap[b]? = some (.cells #[.int .i64 o.K, .int .i64 o.D, .int .i64 o.A, .int .i64 o.B, .int .i64 o.E, .int .u64 (o.C : Int)] 43 (0, 0))) :
    w.cell? ⟨b, 0, none⟩ = some (.int .i64 o.K) ∧ w.cell? ⟨b, 1, none⟩ = some (.int .i64 o.D) ∧ w.cell? ⟨b, 2, none⟩ = some (.int .i64 o.A) ∧ w.cell? ⟨b, 3, none⟩ = some (.int .i64 o.B) ∧ w.cell? ⟨b, 4, none⟩ = some (.int .i64 o.E) ∧ w.cell? ⟨b, 5, none⟩ = some (.int .u64 (o.C : Int)) :=
  ⟨by rw [cell_of_row w _ 0 _ _ _ h]; rfl, by rw [cell_of_row w _ 1 _ _ _ h]; rfl, by rw [cell_of_row w _ 2 _ _ _ h]; rfl, by rw [cell_of_row w _ 3 _ _ _ h]; rfl, by rw [cell_of_row w _ 4 _ _ _ h]; rfl, by rw [cell_of_row w _ 5 _ _ _ h]; rfl⟩
theorem oright_head (o : Op6) (at_ : Nat) (n : Int) (w : World) (h : (o.K < 1 ∨ 12 < o.K) ∨ ¬ (n = 2 ∨ n = 3)) : Calls Try.prog 66 #[.agg #[.int .i64 o.K, .int .i64 o.D, .int .i64 o.A, .int .i64 o.B, .int .i64 o.E, .int .u64 (o.C : Int)], .int .i64 (at_ : Int), .int .i64 n] w fun e w' => e = .returned (.bool false) ∧ Below w.heap.size w w' := by
  have HB : Hid (Below w.heap.size w (w.alloc (.cells #[.int .i64 o.K, .int .i64 o.D, .int .i64 o.A, .int .i64 o.B, .int .i64 o.E, .int .u64 (o.C : Int)] 43))) := hid ((Below.refl _ _).alloc (Nat.le_refl _) _)
  by_cases hk : o.K < 1 ∨ 12 < o.K
  · have HI := hid (fun w => oiskind_no o.K w hk)
    clear h hk
    go_enter Try.func66, Try.ntmps66
    go_wp2_with (go_at_call 71; (with_reducible refine (HI.out _).mono ?_); rintro e w1 ⟨rfl, rfl⟩)
    go_ret
    exact ⟨rfl, HB.out⟩
  · have HI := hid (fun w => oiskind_yes o.K w (by omega) (by omega))
    have HS := hid (fun w => oshares_no n w (by omega))
    clear h hk
    go_enter Try.func66, Try.ntmps66
    go_wp2_with (first | (go_at_call 71; (with_reducible refine (HI.out _).mono ?_); rintro e w1 ⟨rfl, rfl⟩) | (go_at_call 72; (with_reducible refine (HS.out _).mono ?_); rintro e w1 ⟨rfl, rfl⟩))
    go_ret
    exact ⟨rfl, HB.out⟩
set_option maxHeartbeats 6400000 in
theorem oright_body (o : Op6) (at_ : Nat) (n : Int) (w : World) (hK : 1 ≤ o.K ∧ o.K ≤ 12) (hn : n = 2 ∨ n = 3) : Calls Try.prog 66 #[.agg #[.int .i64 o.K, .int .i64 o.D, .int .i64 o.A, .int .i64 o.B, .int .i64 o.E, .int .u64 (o.C : Int)], .int .i64 (at_ : Int), .int .i64 n] w fun e w' => e = .returned (.bool (okOp o at_ n)) ∧ Below w.heap.size w w' := by
  rw [okOp_parts o at_ n hK hn]
  have HI := hid (fun w => oiskind_yes o.K w hK.1 hK.2)
  have HS := hid (fun w => oshares_yes n w hn)
  have HR := hid (fun w => orr_any o at_ n w hn)
  have HD := hid (fun w => ord_any o n w)
  have HC := hid (fun w => orc_any o w)
  have HB : Hid (Below w.heap.size w (w.alloc (.cells #[.int .i64 o.K, .int .i64 o.D, .int .i64 o.A, .int .i64 o.B, .int .i64 o.E, .int .u64 (o.C : Int)] 43))) := hid ((Below.refl _ _).alloc (Nat.le_refl _) _)
  have HX := hid (obox o w)
  have ha : (0 : Int) ≤ (at_ : Int) := by omega
  generalize allB (rgB o at_ n) 3 = b1 at *
  generalize okD o n = b2 at *
  generalize okC o.K o.C = b3 at *
  clear hK hn
  go_enter Try.func66, Try.ntmps66
  cases b1
  all_goals cases b2
  all_goals
    go_wp2_with (first
      | (go_at_call 71; (with_reducible refine (HI.out _).mono ?_); rintro e w1 ⟨rfl, rfl⟩)
      | (go_at_call 72; (with_reducible refine (HS.out _).mono ?_); rintro e w1 ⟨rfl, rfl⟩)
      | (go_at_call 73; (with_reducible refine (HR.out _).mono ?_); rintro e w2 ⟨rfl, hb⟩; have HX2 := hid ((hb.block _ (by simp)).trans HX.out); have HB2 := hid (HB.out.trans (hb.mono HB.out.size)); obtain ⟨d0, d1, d2, d3, d4, d5⟩ := ocells HX2.out; clear hb)
      | (go_at_call 74; (with_reducible refine (HD.out _).mono ?_); rintro e w3 ⟨rfl, hb⟩; have HX3 := hid ((hb.block _ (Array.getElem?_eq_some_iff.1 HX2.out).1).trans HX2.out); have HB3 := hid (HB2.out.trans (hb.mono HB2.out.size)); clear d0 d1 d2 d3 d4 d5; obtain ⟨d0, d1, d2, d3, d4, d5⟩ := ocells HX3.out; clear hb)
      | (go_at_call 75; (with_reducible refine (HC.out _).mono ?_); rintro e w4 ⟨rfl, hb⟩; have HB4 := hid (HB3.out.trans (hb.mono HB3.out.size)); clear hb))
  · go_ret
    exact ⟨rfl, HB2.out⟩
  · go_ret
    exact ⟨rfl, HB2.out⟩
  · go_ret
    exact ⟨rfl, HB3.out⟩
  · go_ret
    exact ⟨rfl, HB4.out⟩
theorem oright_any (o : Op6) (at_ : Nat) (n : Int) (w : World) : Calls Try.prog 66 #[.agg #[.int .i64 o.K, .int .i64 o.D, .int .i64 o.A, .int .i64 o.B, .int .i64 o.E, .int .u64 (o.C : Int)], .int .i64 (at_ : Int), .int .i64 n] w fun e w' => e = .returned (.bool (okOp o at_ n)) ∧ Below w.heap.size w w' := by
  by_cases h : (o.K < 1 ∨ 12 < o.K) ∨ ¬ (n = 2 ∨ n = 3)
  · rw [okOp_no o at_ n h]
    exact oright_head o at_ n w h
  · exact oright_body o at_ n w (by omega) (by omega)
end Go.Proofs.Ytffoinnllihdeaa
