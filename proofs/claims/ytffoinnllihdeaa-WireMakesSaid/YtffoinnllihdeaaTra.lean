import Derived.Test.YtffoinnllihdeaaProg
import Derived.Test.YtffoinnllihdeaaOcb
import Derived.Test.YtffoinnllihdeaaTrm
/- Op: how many registers an op is of, and whether it may stand at a place, by the document. -/
namespace Go.Proofs.Ytffoinnllihdeaa
open Go.RowKit
set_option maxRecDepth 100000

theorem rgN_no {K n : Int} (h2 : ¬ n = 2) (h3 : ¬ n = 3) : rgN K n = 0 := by unfold rgN; rw [if_pos ⟨h2, h3⟩]
theorem rgN_zero {K n : Int} (h : K < 1 ∨ 12 < K) : rgN K n = 0 := by
  unfold rgN
  split
  · rfl
  · rw [if_neg (by omega), if_neg (by omega), if_neg (by omega), if_neg (by omega)]
set_option maxHeartbeats 3200000 in
theorem refregs_any (K n : Int) (w : World) : Calls Try.prog 65 #[.int .i64 K, .int .i64 n] w fun e w' => e = .returned (.int .i64 (rgN K n)) ∧ w' = w := by
  by_cases h2 : n = 2
  · subst h2
    rcases kindsL K with rfl | rfl | rfl | rfl | rfl | rfl | rfl | rfl | rfl | rfl | rfl | rfl | h
    rotate_right
    · rw [rgN_zero h]
      have q2 : ¬ K = 2 := by omega
      have q5 : ¬ K = 5 := by omega
      have q6 : ¬ K = 6 := by omega
      have q7 : ¬ K = 7 := by omega
      have q8 : ¬ K = 8 := by omega
      have q9 : ¬ K = 9 := by omega
      have q10 : ¬ K = 10 := by omega
      have q11 : ¬ K = 11 := by omega
      have q12 : ¬ K = 12 := by omega
      go_enter Try.func65, Try.ntmps65
      go_wp2
      go_ret
      exact ⟨rfl, rfl⟩
    all_goals
      simp only [rgN, reduceIte, Int.reduceEq]
      go_enter Try.func65, Try.ntmps65
      go_wp2
      go_ret
      exact ⟨rfl, rfl⟩
  · by_cases h3 : n = 3
    · subst h3
      rcases kindsL K with rfl | rfl | rfl | rfl | rfl | rfl | rfl | rfl | rfl | rfl | rfl | rfl | h
      rotate_right
      · rw [rgN_zero h]
        have q2 : ¬ K = 2 := by omega
        have q5 : ¬ K = 5 := by omega
        have q6 : ¬ K = 6 := by omega
        have q7 : ¬ K = 7 := by omega
        have q8 : ¬ K = 8 := by omega
        have q9 : ¬ K = 9 := by omega
        have q10 : ¬ K = 10 := by omega
        have q11 : ¬ K = 11 := by omega
        have q12 : ¬ K = 12 := by omega
        go_enter Try.func65, Try.ntmps65
        go_wp2
        go_ret
        exact ⟨rfl, rfl⟩
      all_goals
        simp only [rgN, reduceIte, Int.reduceEq]
        go_enter Try.func65, Try.ntmps65
        go_wp2
        go_ret
        exact ⟨rfl, rfl⟩
    · rw [rgN_no h2 h3]
      have g2 : (n != 2) = true := by simpa using h2
      have g3 : (n != 3) = true := by simpa using h3
      clear h2 h3
      go_enter Try.func65, Try.ntmps65
      go_wp2
      go_ret
      exact ⟨rfl, rfl⟩
/-- What stands in an op's box, in every later world. -/
theorem oc_box {w w' : World} (o : Op6) (h : Below (w.alloc (.cells #[.int .i64 o.K, .int .i64 o.D, .int .i64 o.A, .int .i64 o.B, .int .i64 o.E, .int .u64 (o.C : Int)] 43)).heap.size (w.alloc (.cells #[.int .i64 o.K, .int .i64 o.D, .int .i64 o.A, .int .i64 o.B, .int .i64 o.E, .int .u64 (o.C : Int)] 43)) w') : Oc w' w.heap.size 0 o := by
  have e : w'.heap[w.heap.size]? = some (.cells #[.int .i64 o.K, .int .i64 o.D, .int .i64 o.A, .int .i64 o.B, .int .i64 o.E, .int .u64 (o.C : Int)] 43 (0, 0)) := by rw [h.block _ (by simp)]; exact heap_alloc_new w _
  exact ⟨by rw [cell_of_row w' _ 0 _ _ _ e]; rfl, by rw [cell_of_row w' _ (0 + 1) _ _ _ e]; rfl, by rw [cell_of_row w' _ (0 + 2) _ _ _ e]; rfl, by rw [cell_of_row w' _ (0 + 3) _ _ _ e]; rfl, by rw [cell_of_row w' _ (0 + 4) _ _ _ e]; rfl, by rw [cell_of_row w' _ (0 + 5) _ _ _ e]; rfl⟩
theorem rgL_cell {w : World} {n : Nat} {o : Op6} {T : TypeId} (h : w.heap[n]? = some (.cells #[.int .i64 o.A, .int .i64 o.B, .int .i64 o.E] T (0, 0))) (j : Nat) (hj : j < 3) : w.cell? ⟨n, j, none⟩ = some (.int .i64 (rgL o j)) := by
  rw [cell_of_row w _ j _ _ _ h]
  rcases (by omega : j = 0 ∨ j = 1 ∨ j = 2) with rfl | rfl | rfl <;> rfl
theorem okH_no {o : Op6} {n : Int} (h : ¬ ((n = 2 ∨ n = 3) ∧ 1 ≤ o.K ∧ o.K ≤ 12 ∧ -1 ≤ o.D ∧ o.D < n ∧ (o.K = 12 → o.D = -1))) (at_ : Int) : okOp o at_ n = false := by
  unfold okOp okH; rw [decide_eq_false h]; rfl
theorem okH_yes {o : Op6} {n : Int} (h : (n = 2 ∨ n = 3) ∧ 1 ≤ o.K ∧ o.K ≤ 12 ∧ -1 ≤ o.D ∧ o.D < n ∧ (o.K = 12 → o.D = -1)) (at_ : Int) : okOp o at_ n = (allB (rgB o at_ n) 3 && okC o.K o.C) := by
  unfold okOp okH; rw [decide_eq_true h]; rfl
set_option maxHeartbeats 3200000 in
theorem refopright_head (o : Op6) (at_ n : Int) (w : World) (h : ¬ ((n = 2 ∨ n = 3) ∧ 1 ≤ o.K ∧ o.K ≤ 12 ∧ -1 ≤ o.D ∧ o.D < n ∧ (o.K = 12 → o.D = -1))) :
    Calls Try.prog 56 #[.agg #[.int .i64 o.K, .int .i64 o.D, .int .i64 o.A, .int .i64 o.B, .int .i64 o.E, .int .u64 (o.C : Int)], .int .i64 at_, .int .i64 n] w fun e w' => e = .returned (.bool false) ∧ Below w.heap.size w w' := by
  have HB : Hid (Below w.heap.size w (w.alloc (.cells #[.int .i64 o.K, .int .i64 o.D, .int .i64 o.A, .int .i64 o.B, .int .i64 o.E, .int .u64 (o.C : Int)] 43))) := hid ((Below.refl _ _).alloc (Nat.le_refl _) _)
  obtain ⟨K, D, A, B, E, C⟩ := o
  simp only at *
  by_cases h1 : n = 2 ∨ n = 3
  · have g0 : ((n != 2) && (n != 3)) = false := by rcases h1 with rfl | rfl <;> rfl
    have g1 : (n != 2) = false ∨ (n != 3) = false := by rcases h1 with rfl | rfl <;> simp
    by_cases h2 : K < 1
    · rcases h1 with rfl | rfl
      all_goals
        clear h g0 g1
        go_enter Try.func56, Try.ntmps56
        go_wp2
        go_ret
        exact ⟨rfl, HB.out⟩
    · by_cases h3 : 12 < K
      · rcases h1 with rfl | rfl
        all_goals
          clear h g0 g1
          go_enter Try.func56, Try.ntmps56
          go_wp2
          go_ret
          exact ⟨rfl, HB.out⟩
      · by_cases h4 : D < -1
        · rcases h1 with rfl | rfl
          all_goals
            clear h g0 g1
            go_enter Try.func56, Try.ntmps56
            go_wp2
            go_ret
            exact ⟨rfl, HB.out⟩
        · by_cases h5 : n ≤ D
          · rcases h1 with rfl | rfl
            all_goals
              clear h g0 g1
              go_enter Try.func56, Try.ntmps56
              go_wp2
              go_ret
              exact ⟨rfl, HB.out⟩
          · obtain ⟨rfl, h6⟩ : K = 12 ∧ ¬ D = -1 := by
              refine ⟨?_, fun e => h ⟨h1, by omega, by omega, by omega, by omega, fun _ => e⟩⟩
              refine Classical.byContradiction fun e => h ⟨h1, by omega, by omega, by omega, by omega, fun e' => absurd e' e⟩
            have g6 : (D != -1) = true := by simpa using h6
            rcases h1 with rfl | rfl
            all_goals
              clear h g0 g1 h6 h2 h3
              go_enter Try.func56, Try.ntmps56
              go_wp2
              go_ret
              exact ⟨rfl, HB.out⟩
  · have g2 : (n != 2) = true := by simp; omega
    have g3 : (n != 3) = true := by simp; omega
    clear h h1
    go_enter Try.func56, Try.ntmps56
    go_wp2
    go_ret
    exact ⟨rfl, HB.out⟩
end Go.Proofs.Ytffoinnllihdeaa
