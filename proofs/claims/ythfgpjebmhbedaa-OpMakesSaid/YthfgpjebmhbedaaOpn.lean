import Derived.Test.YthfgpjebmhbedaaProg
import Derived.Test.YthfgpjebmhbedaaOpb
import Derived.Test.YthfgpjebmhbedaaIxs
/- Op: names, and the chapter's example. -/
namespace Go.Proofs.Ythfgpjebmhbedaa
open Go.RowKit
/-- A kind's name. -/
def nmB (K : Int) : ByteArray :=
  if K = 1 then ⟨#[114, 97, 110, 100]⟩ else if K = 2 then ⟨#[107, 101, 121]⟩ else if K = 3 then ⟨#[99, 111, 110, 115, 116]⟩ else if K = 4 then ⟨#[116, 111, 108, 100]⟩ else if K = 5 then ⟨#[120, 111, 114]⟩ else if K = 6 then ⟨#[110, 111, 116]⟩
  else if K = 7 then ⟨#[97, 110, 100]⟩ else if K = 8 then ⟨#[109, 97, 115, 107]⟩ else if K = 9 then ⟨#[115, 104, 108]⟩ else if K = 10 then ⟨#[115, 104, 114]⟩ else if K = 11 then ⟨#[114, 111, 116]⟩ else if K = 12 then ⟨#[111, 112, 101, 110]⟩ else ⟨#[]⟩
theorem nmB_no {K : Int} (h : K < 1 ∨ 12 < K) : nmB K = ⟨#[]⟩ := by
  unfold nmB
  rw [if_neg (by omega), if_neg (by omega), if_neg (by omega), if_neg (by omega), if_neg (by omega), if_neg (by omega), if_neg (by omega), if_neg (by omega), if_neg (by omega), if_neg (by omega), if_neg (by omega), if_neg (by omega)]
/-- The table of names. -/
abbrev nmA : Array Value := #[.string ⟨#[]⟩, .string ⟨#[114, 97, 110, 100]⟩, .string ⟨#[107, 101, 121]⟩, .string ⟨#[99, 111, 110, 115, 116]⟩, .string ⟨#[116, 111, 108, 100]⟩, .string ⟨#[120, 111, 114]⟩, .string ⟨#[110, 111, 116]⟩, .string ⟨#[97, 110, 100]⟩, .string ⟨#[109, 97, 115, 107]⟩, .string ⟨#[115, 104, 108]⟩, .string ⟨#[115, 104, 114]⟩, .string ⟨#[114, 111, 116]⟩, .string ⟨#[111, 112, 101, 110]⟩]
theorem onames_any (w : World) : Calls Try.prog 15 #[] w fun e w' => e = .returned (.agg nmA) ∧ Below w.heap.size w w' := by
  go_enter Try.func15, Try.ntmps15
  go_wp2
  exact bodyPost_ret (results_cell_row (by rfl) _ _ w.heap.size 35 nmA (0, 0) _ rfl (heap_alloc_new _ _) Try.underlying35 rfl (by kernel_rfl)) rfl ⟨rfl, (Below.refl _ _).alloc (Nat.le_refl _) _⟩
theorem iskind_yes (K : Int) (w : World) (h : 1 ≤ K) (h2 : K ≤ 12) : Calls Try.prog 14 #[.int .i64 K] w fun e w' => e = .returned (.bool true) ∧ w' = w := by
  have q1 : decide (1 ≤ K) = true := by simp [h]
  have q2 : decide (K ≤ 12) = true := by simp [h2]
  go_enter Try.func14, Try.ntmps14
  go_wp2
  go_ret
  exact ⟨rfl, rfl⟩
theorem iskind_no (K : Int) (w : World) (h : K < 1 ∨ 12 < K) : Calls Try.prog 14 #[.int .i64 K] w fun e w' => e = .returned (.bool false) ∧ w' = w := by
  by_cases h1 : 1 ≤ K
  · have q1 : decide (1 ≤ K) = true := by simp [h1]
    have q2 : decide (K ≤ 12) = false := by simp; omega
    go_enter Try.func14, Try.ntmps14
    go_wp2
    go_ret
    exact ⟨rfl, rfl⟩
  · have q1 : decide (1 ≤ K) = false := by simp; omega
    go_enter Try.func14, Try.ntmps14
    go_wp2
    go_ret
    exact ⟨rfl, rfl⟩
theorem nmA_get : ∀ k : Nat, k < 13 → nmA[k]? = some (.string (nmB (k : Int))) := by
  intro k hk
  obtain rfl | rfl | rfl | rfl | rfl | rfl | rfl | rfl | rfl | rfl | rfl | rfl | rfl : k = 0 ∨ k = 1 ∨ k = 2 ∨ k = 3 ∨ k = 4 ∨ k = 5 ∨ k = 6 ∨ k = 7 ∨ k = 8 ∨ k = 9 ∨ k = 10 ∨ k = 11 ∨ k = 12 := by omega
  all_goals rfl
theorem nmA_index (k : Nat) (h : k < 13) (w : World) : (Instr.index 35 (.agg nmA) (.int .i64 (k : Int))).run Try.prog w = .ok (.string (nmB (k : Int))) w :=
  run_index_str w 35 9 13 nmA k _ Try.underlying35 Try.underlying9 (by kernel_rfl) h (nmA_get k h)
theorem oname_any (K : Int) (w : World) : Calls Try.prog 11 #[.int .i64 K] w fun e w' => e = .returned (.string (nmB K)) ∧ Below w.heap.size w w' := by
  have HN := hid (onames_any w)
  by_cases h : K < 1 ∨ 12 < K
  · rw [nmB_no h]
    have HI := hid (iskind_no K w h)
    go_enter Try.func11, Try.ntmps11
    go_wp2_with (first
      | (go_at_call 14; (with_reducible refine (HI.out).mono ?_); rintro e w1 ⟨rfl, rfl⟩))
    go_ret
    exact ⟨rfl, Below.refl _ _⟩
  · have hidx : ∀ w, (Instr.index 35 (.agg nmA) (.int .i64 K)).run Try.prog w = .ok (.string (nmB K)) w := by
      obtain ⟨k, rfl⟩ := Int.eq_ofNat_of_zero_le (by omega : 0 ≤ K)
      exact nmA_index k (by omega)
    have HY := hid (iskind_yes K w (by omega) (by omega))
    generalize nmB K = s at *
    clear h
    go_enter Try.func11, Try.ntmps11
    go_wp2_with (first
      | (go_at_call 14; (with_reducible refine (HY.out).mono ?_); rintro e w1 ⟨rfl, rfl⟩)
      | (go_at_call 15; (with_reducible refine (HN.out).mono ?_); rintro e w1 ⟨rfl, h1⟩; have H1 := hid h1; clear h1))
    go_ret
    exact ⟨rfl, H1.out⟩
theorem opawake_any (w : World) : Calls Try.prog 7 #[] w fun e w' => e = .returned (.bool true) ∧ Below w.heap.size w w' := by
  have HN : Hid (Calls Try.prog 11 #[.int .i64 5] w fun e w' => e = .returned (.string ⟨#[120, 111, 114]⟩) ∧ Below w.heap.size w w') := hid (oname_any 5 w)
  have HE : Hid (∀ w, Calls Try.prog 5 #[.agg #[.int .i64 11, .int .i64 0, .int .i64 0, .int .i64 0, .int .i64 0, .int .u64 63], .int .u64 1, .int .u64 0, .int .u64 0, .int .u64 0] w fun e w' => e = .returned (.int .u64 9223372036854775808) ∧ Below w.heap.size w w') := hid (fun w => oev_any 11 0 0 0 0 63 1 0 0 0 w (by decide) (by decide) (by decide) (by decide) (by decide))
  go_enter Try.func7, Try.ntmps7
  go_wp2_with (first
    | (go_at_call 11; (with_reducible refine (HN.out).mono ?_); rintro e w1 ⟨rfl, h1⟩; have H1 := hid h1; clear h1)
    | (go_at_call 5; (with_reducible refine (HE.out w1).mono ?_); rintro e w2 ⟨rfl, h2⟩; have H2 := hid (H1.out.trans (h2.mono H1.out.size)); clear h2))
  go_ret
  exact ⟨rfl, H2.out⟩
end Go.Proofs.Ythfgpjebmhbedaa
