import Derived.Test.YtdgkofnboeepbaaProg
import Derived.Test.YtdgkofnboeepbaaMgai
import Derived.Test.YtdgkofnboeepbaaMgah
import Derived.Test.YtdgkofnboeepbaaMgad
/- Share: the program's functions of words, over any machine: share by share. -/
namespace Go.Proofs.Ytdgkofnboeepbaa
open Go.RowKit
set_option maxRecDepth 100000
theorem built_wd (A : Nat → Int) : Try.prog.built 33 [(0, .agg (wdV A))] = some (wdV A) := by kernel_rfl
theorem step_build_wd (A : Nat → Int) {w : World} {ops : Array Oper} {rest : List Oper} {o : Oper} {a : Act} {Q : Exit → Act → World → Prop} (hgd : o.guard = none) (x : Operand) (ho : o.op = .build 33 #[(0, x)])
    (hx : a.eval x = .agg (wdV A)) (k : wpList Try.prog ops Q rest (a.put o.dst (.agg (wdV A))) w) : wpList Try.prog ops Q (o :: rest) a w := by
  have e : ((#[(0, x)] : Array (Nat × Operand)).map fun (i, x) => (i, a.eval x)).toList = [(0, .agg (wdV A))] := by simp [hx]
  refine wpList_build hgd 33 #[(0, x)] ho (by rw [e, built_wd]; rfl) ?_
  rw [e, built_wd]; exact k
set_option maxHeartbeats 3200000 in
theorem each_enc {Pm : World → Nat → Ms → (Nat → Prop) → Prop} (hM : Mach Pm) {F0 : Nat → Prop} {w0 w : World} {b : Nat} {bs : List (Nat × Obj)} (p1 n N : Nat) (St : Nat → Ms) (U : Nat → Nat → Int) (rg : Nat → Int) (h : Ow Pm F0 w0 w b (St 0) bs) (hn3 : n ≤ 3) (hq : Bq N (St 0)) (hk : N ≤ 1000000) (hn : (St 0).n = (n : Int))
    (hU0 : U 0 = none3) (hU : ∀ j, j < n → U (j + 1) = updI (U j) j (rg j))
    (HC : ∀ (j : Nat) (bs' : List (Nat × Obj)) (w' : World), j < n → (∀ q ∈ bs, q ∈ bs') → Ow Pm F0 w0 w' b (St j) bs' → Calls Try.prog 41 #[.int .i64 (j : Int), .pointer (some ⟨p1, 0, none⟩)] w' fun e w2 => e = .returned (.int .i64 (rg j)) ∧ Ow Pm F0 w0 w2 b (St (j + 1)) bs') :
    Calls Try.prog 40 #[.pointer (some ⟨b, 0, none⟩), .func (.func 41) #[] #[.pointer (some ⟨p1, 0, none⟩)]] w fun e w' => e = .returned (.agg (wdV (U n))) ∧ Ow Pm F0 w0 w' b (St n) bs := by
  have HNB : Hid (∀ (bs' : List (Nat × Obj)) (w' : World), Ow Pm F0 w0 w' b (St 0) bs' → Calls Try.prog 66 #[.pointer (some ⟨b, 0, none⟩)] w' fun e w2 => e = .returned (.int .i64 (n : Int)) ∧ Below w'.heap.size w' w2) := hid (fun bs' w' h' => h'.asks (fun F hF => by have := hM.n b N (St 0) F w' hF hq hk; rw [hn] at this; exact this))
  have HC' := hid HC
  have HN3 : Hid (n ≤ 3) := hid hn3
  have HU := hid hU
  have HU0 := hid hU0
  have H0 := hid (h.new hM #[.int .i64 0, .int .i64 0, .int .i64 0] 33)
  obtain ⟨w1, hw1⟩ : ∃ w1, w.alloc (.cells #[.int .i64 0, .int .i64 0, .int .i64 0] 33) = w1 := ⟨_, rfl⟩
  rw [hw1] at H0
  have HW := hid hw1
  clear h hq hk hn HC hw1 hU hU0 hn3
  obtain ⟨g4, hg4⟩ : ∃ g4, w.heap.size = g4 := ⟨_, rfl⟩
  rw [hg4] at H0
  have HG4 := hid hg4
  clear hg4
  go_enter Try.func40, Try.ntmps40
  go_upto_region 1 with fail
  rw [HW.out, HG4.out]
  go_upto_region 2 with fail
  have H2 := hid (H0.out.new hM (wdV none3) 31)
  obtain ⟨g5, hg5⟩ : ∃ g5, w1.heap.size = g5 := ⟨_, rfl⟩
  rw [hg5] at H2
  have H3 : Hid (Ow Pm F0 w0 (w1.alloc (.cells #[.int .i64 (-1), .int .i64 (-1), .int .i64 (-1)] 31)) b (St 0) ((g5, .cells (wdV none3) 31 (0, 0)) :: (g4, .cells #[.int .i64 0, .int .i64 0, .int .i64 0] 33 (0, 0)) :: bs)) := H2
  generalize w1.alloc (.cells #[.int .i64 (-1), .int .i64 (-1), .int .i64 (-1)] 31) = w3 at *
  rw [hg5]
  clear hg5 H2 H0
  rw [← HU0.out] at H3
  go_wp2_with (go_at_call 66; (with_reducible refine (HNB.out _ _ H3.out).mono ?_); rintro e w4 ⟨rfl, hb⟩; have H4 := hid (H3.out.self hM hb); clear hb)
  go_loopw [10] (fun iv wr => ∃ j : Nat, j ≤ n ∧ iv = .int .i64 j ∧ Ow Pm F0 w0 wr b (St j) ((g5, .cells (wdV (U j)) 31 (0, 0)) :: (g4, .cells #[.int .i64 0, .int .i64 0, .int .i64 0] 33 (0, 0)) :: bs)) (fun iv _ => n - (intOf iv).toNat)
  case atStart => exact ⟨0, by omega, rfl, H4.out⟩
  case round =>
    clear H3 H4
    obtain ⟨j, hj, rfl, hI⟩ := hrel
    have HI := hid hI
    clear hI
    have hn3 := HN3.out
    by_cases hlt : j < n
    · have j1 : (j : Int) < (n : Int) := by omega
      have j0 : (0 : Int) ≤ (j : Int) := by omega
      have j3 : (j : Int) < 3 := by omega
      have HJ3 : Hid (j < 3) := hid (by omega)
      have HCJ : Hid (∀ w', Ow Pm F0 w0 w' b (St j) ((g5, .cells (wdV (U j)) 31 (0, 0)) :: (g4, .cells #[.int .i64 0, .int .i64 0, .int .i64 0] 33 (0, 0)) :: bs) → Calls Try.prog 41 #[.int .i64 (j : Int), .pointer (some ⟨p1, 0, none⟩)] w' fun e w2 => e = .returned (.int .i64 (rg j)) ∧ Ow Pm F0 w0 w2 b (St (j + 1)) ((g5, .cells (wdV (U j)) 31 (0, 0)) :: (g4, .cells #[.int .i64 0, .int .i64 0, .int .i64 0] 33 (0, 0)) :: bs)) := hid (fun w' h' => HC'.out j _ w' hlt (fun q hq => by simp [hq]) h')
      have HER : Hid ((wdV (U j)).setIfInBounds j (.int .i64 (rg j)) = wdV (U (j + 1))) := hid (by rw [wdV_upd _ j _ (by omega), HU.out j hlt])
      go_wp2_with (go_at_call 41; (with_reducible refine (HCJ.out _ HI.out).mono ?_); rintro e w6 ⟨rfl, h6⟩; have H6 := hid h6; have cj := row_c (i := j) (H6.out.bl 0 rfl) (wdV_at (U j) j HJ3.out); have fj := frozen_of_row w6 g5 j _ _ (H6.out.bl 0 rfl); clear h6)
      have H7 := hid (H6.out.cell hM j (.int .i64 (rg j)))
      rw [HER.out] at H7
      go_roundw
      case rel => exact ⟨j + 1, by omega, by go_num, H7.out⟩
      case measure => simp [intOf]; omega
    · obtain rfl : j = n := by omega
      clear hlt
      go_wp2_with (first
        | (refine step_load_row rfl 31 _ rfl g5 31 (wdV (U j)) _ rfl (HI.out.bl 0 rfl) Try.underlying31 rfl (by kernel_rfl) ?_)
        | (refine step_build_wd (U j) rfl _ rfl rfl ?_)
        | (refine step_store_row rfl 33 _ _ rfl g4 33 _ (wdV (U j)) rfl rfl (HI.out.bl 1 rfl) (by kernel_rfl) rfl (by kernel_rfl) ?_))
      have H8 := hid (HI.out.swap.row hM (wdV (U j)))
      exact bodyPost_ret (results_cell_row (by rfl) _ _ g4 33 (wdV (U j)) (0, 0) _ rfl (H8.out.bl 0 rfl) Try.underlying33 rfl (by kernel_rfl)) rfl ⟨rfl, H8.out.drop.drop⟩
set_option maxHeartbeats 3200000 in
theorem each_alone {Pm : World → Nat → Ms → (Nat → Prop) → Prop} (hM : Mach Pm) {F0 : Nat → Prop} {w0 w : World} {b : Nat} {bs : List (Nat × Obj)} (p1 p2 p3 n N : Nat) (St : Nat → Ms) (U : Nat → Nat → Int) (rg : Nat → Int) (h : Ow Pm F0 w0 w b (St 0) bs) (hn3 : n ≤ 3) (hq : Bq N (St 0)) (hk : N ≤ 1000000) (hn : (St 0).n = (n : Int))
    (hU0 : U 0 = none3) (hU : ∀ j, j < n → U (j + 1) = updI (U j) j (rg j))
    (HC : ∀ (j : Nat) (bs' : List (Nat × Obj)) (w' : World), j < n → (∀ q ∈ bs, q ∈ bs') → Ow Pm F0 w0 w' b (St j) bs' → Calls Try.prog 77 #[.int .i64 (j : Int), .pointer (some ⟨p1, 0, none⟩), .pointer (some ⟨p2, 0, none⟩), .pointer (some ⟨p3, 0, none⟩)] w' fun e w2 => e = .returned (.int .i64 (rg j)) ∧ Ow Pm F0 w0 w2 b (St (j + 1)) bs') :
    Calls Try.prog 40 #[.pointer (some ⟨b, 0, none⟩), .func (.func 77) #[] #[.pointer (some ⟨p1, 0, none⟩), .pointer (some ⟨p2, 0, none⟩), .pointer (some ⟨p3, 0, none⟩)]] w fun e w' => e = .returned (.agg (wdV (U n))) ∧ Ow Pm F0 w0 w' b (St n) bs := by
  have HNB : Hid (∀ (bs' : List (Nat × Obj)) (w' : World), Ow Pm F0 w0 w' b (St 0) bs' → Calls Try.prog 66 #[.pointer (some ⟨b, 0, none⟩)] w' fun e w2 => e = .returned (.int .i64 (n : Int)) ∧ Below w'.heap.size w' w2) := hid (fun bs' w' h' => h'.asks (fun F hF => by have := hM.n b N (St 0) F w' hF hq hk; rw [hn] at this; exact this))
  have HC' := hid HC
  have HN3 : Hid (n ≤ 3) := hid hn3
  have HU := hid hU
  have HU0 := hid hU0
  have H0 := hid (h.new hM #[.int .i64 0, .int .i64 0, .int .i64 0] 33)
  obtain ⟨w1, hw1⟩ : ∃ w1, w.alloc (.cells #[.int .i64 0, .int .i64 0, .int .i64 0] 33) = w1 := ⟨_, rfl⟩
  rw [hw1] at H0
  have HW := hid hw1
  clear h hq hk hn HC hw1 hU hU0 hn3
  obtain ⟨g4, hg4⟩ : ∃ g4, w.heap.size = g4 := ⟨_, rfl⟩
  rw [hg4] at H0
  have HG4 := hid hg4
  clear hg4
  go_enter Try.func40, Try.ntmps40
  go_upto_region 1 with fail
  rw [HW.out, HG4.out]
  go_upto_region 2 with fail
  have H2 := hid (H0.out.new hM (wdV none3) 31)
  obtain ⟨g5, hg5⟩ : ∃ g5, w1.heap.size = g5 := ⟨_, rfl⟩
  rw [hg5] at H2
  have H3 : Hid (Ow Pm F0 w0 (w1.alloc (.cells #[.int .i64 (-1), .int .i64 (-1), .int .i64 (-1)] 31)) b (St 0) ((g5, .cells (wdV none3) 31 (0, 0)) :: (g4, .cells #[.int .i64 0, .int .i64 0, .int .i64 0] 33 (0, 0)) :: bs)) := H2
  generalize w1.alloc (.cells #[.int .i64 (-1), .int .i64 (-1), .int .i64 (-1)] 31) = w3 at *
  rw [hg5]
  clear hg5 H2 H0
  rw [← HU0.out] at H3
  go_wp2_with (go_at_call 66; (with_reducible refine (HNB.out _ _ H3.out).mono ?_); rintro e w4 ⟨rfl, hb⟩; have H4 := hid (H3.out.self hM hb); clear hb)
  go_loopw [10] (fun iv wr => ∃ j : Nat, j ≤ n ∧ iv = .int .i64 j ∧ Ow Pm F0 w0 wr b (St j) ((g5, .cells (wdV (U j)) 31 (0, 0)) :: (g4, .cells #[.int .i64 0, .int .i64 0, .int .i64 0] 33 (0, 0)) :: bs)) (fun iv _ => n - (intOf iv).toNat)
  case atStart => exact ⟨0, by omega, rfl, H4.out⟩
  case round =>
    clear H3 H4
    obtain ⟨j, hj, rfl, hI⟩ := hrel
    have HI := hid hI
    clear hI
    have hn3 := HN3.out
    by_cases hlt : j < n
    · have j1 : (j : Int) < (n : Int) := by omega
      have j0 : (0 : Int) ≤ (j : Int) := by omega
      have j3 : (j : Int) < 3 := by omega
      have HJ3 : Hid (j < 3) := hid (by omega)
      have HCJ : Hid (∀ w', Ow Pm F0 w0 w' b (St j) ((g5, .cells (wdV (U j)) 31 (0, 0)) :: (g4, .cells #[.int .i64 0, .int .i64 0, .int .i64 0] 33 (0, 0)) :: bs) → Calls Try.prog 77 #[.int .i64 (j : Int), .pointer (some ⟨p1, 0, none⟩), .pointer (some ⟨p2, 0, none⟩), .pointer (some ⟨p3, 0, none⟩)] w' fun e w2 => e = .returned (.int .i64 (rg j)) ∧ Ow Pm F0 w0 w2 b (St (j + 1)) ((g5, .cells (wdV (U j)) 31 (0, 0)) :: (g4, .cells #[.int .i64 0, .int .i64 0, .int .i64 0] 33 (0, 0)) :: bs)) := hid (fun w' h' => HC'.out j _ w' hlt (fun q hq => by simp [hq]) h')
      have HER : Hid ((wdV (U j)).setIfInBounds j (.int .i64 (rg j)) = wdV (U (j + 1))) := hid (by rw [wdV_upd _ j _ (by omega), HU.out j hlt])
      go_wp2_with (go_at_call 77; (with_reducible refine (HCJ.out _ HI.out).mono ?_); rintro e w6 ⟨rfl, h6⟩; have H6 := hid h6; have cj := row_c (i := j) (H6.out.bl 0 rfl) (wdV_at (U j) j HJ3.out); have fj := frozen_of_row w6 g5 j _ _ (H6.out.bl 0 rfl); clear h6)
      have H7 := hid (H6.out.cell hM j (.int .i64 (rg j)))
      rw [HER.out] at H7
      go_roundw
      case rel => exact ⟨j + 1, by omega, by go_num, H7.out⟩
      case measure => simp [intOf]; omega
    · obtain rfl : j = n := by omega
      clear hlt
      go_wp2_with (first
        | (refine step_load_row rfl 31 _ rfl g5 31 (wdV (U j)) _ rfl (HI.out.bl 0 rfl) Try.underlying31 rfl (by kernel_rfl) ?_)
        | (refine step_build_wd (U j) rfl _ rfl rfl ?_)
        | (refine step_store_row rfl 33 _ _ rfl g4 33 _ (wdV (U j)) rfl rfl (HI.out.bl 1 rfl) (by kernel_rfl) rfl (by kernel_rfl) ?_))
      have H8 := hid (HI.out.swap.row hM (wdV (U j)))
      exact bodyPost_ret (results_cell_row (by rfl) _ _ g4 33 (wdV (U j)) (0, 0) _ rfl (H8.out.bl 0 rfl) Try.underlying33 rfl (by kernel_rfl)) rfl ⟨rfl, H8.out.drop.drop⟩
set_option maxHeartbeats 3200000 in
theorem each_xor {Pm : World → Nat → Ms → (Nat → Prop) → Prop} (hM : Mach Pm) {F0 : Nat → Prop} {w0 w : World} {b : Nat} {bs : List (Nat × Obj)} (p1 p2 p3 n N : Nat) (St : Nat → Ms) (U : Nat → Nat → Int) (rg : Nat → Int) (h : Ow Pm F0 w0 w b (St 0) bs) (hn3 : n ≤ 3) (hq : Bq N (St 0)) (hk : N ≤ 1000000) (hn : (St 0).n = (n : Int))
    (hU0 : U 0 = none3) (hU : ∀ j, j < n → U (j + 1) = updI (U j) j (rg j))
    (HC : ∀ (j : Nat) (bs' : List (Nat × Obj)) (w' : World), j < n → (∀ q ∈ bs, q ∈ bs') → Ow Pm F0 w0 w' b (St j) bs' → Calls Try.prog 55 #[.int .i64 (j : Int), .pointer (some ⟨p1, 0, none⟩), .pointer (some ⟨p2, 0, none⟩), .pointer (some ⟨p3, 0, none⟩)] w' fun e w2 => e = .returned (.int .i64 (rg j)) ∧ Ow Pm F0 w0 w2 b (St (j + 1)) bs') :
    Calls Try.prog 40 #[.pointer (some ⟨b, 0, none⟩), .func (.func 55) #[] #[.pointer (some ⟨p1, 0, none⟩), .pointer (some ⟨p2, 0, none⟩), .pointer (some ⟨p3, 0, none⟩)]] w fun e w' => e = .returned (.agg (wdV (U n))) ∧ Ow Pm F0 w0 w' b (St n) bs := by
  have HNB : Hid (∀ (bs' : List (Nat × Obj)) (w' : World), Ow Pm F0 w0 w' b (St 0) bs' → Calls Try.prog 66 #[.pointer (some ⟨b, 0, none⟩)] w' fun e w2 => e = .returned (.int .i64 (n : Int)) ∧ Below w'.heap.size w' w2) := hid (fun bs' w' h' => h'.asks (fun F hF => by have := hM.n b N (St 0) F w' hF hq hk; rw [hn] at this; exact this))
  have HC' := hid HC
  have HN3 : Hid (n ≤ 3) := hid hn3
  have HU := hid hU
  have HU0 := hid hU0
  have H0 := hid (h.new hM #[.int .i64 0, .int .i64 0, .int .i64 0] 33)
  obtain ⟨w1, hw1⟩ : ∃ w1, w.alloc (.cells #[.int .i64 0, .int .i64 0, .int .i64 0] 33) = w1 := ⟨_, rfl⟩
  rw [hw1] at H0
  have HW := hid hw1
  clear h hq hk hn HC hw1 hU hU0 hn3
  obtain ⟨g4, hg4⟩ : ∃ g4, w.heap.size = g4 := ⟨_, rfl⟩
  rw [hg4] at H0
  have HG4 := hid hg4
  clear hg4
  go_enter Try.func40, Try.ntmps40
  go_upto_region 1 with fail
  rw [HW.out, HG4.out]
  go_upto_region 2 with fail
  have H2 := hid (H0.out.new hM (wdV none3) 31)
  obtain ⟨g5, hg5⟩ : ∃ g5, w1.heap.size = g5 := ⟨_, rfl⟩
  rw [hg5] at H2
  have H3 : Hid (Ow Pm F0 w0 (w1.alloc (.cells #[.int .i64 (-1), .int .i64 (-1), .int .i64 (-1)] 31)) b (St 0) ((g5, .cells (wdV none3) 31 (0, 0)) :: (g4, .cells #[.int .i64 0, .int .i64 0, .int .i64 0] 33 (0, 0)) :: bs)) := H2
  generalize w1.alloc (.cells #[.int .i64 (-1), .int .i64 (-1), .int .i64 (-1)] 31) = w3 at *
  rw [hg5]
  clear hg5 H2 H0
  rw [← HU0.out] at H3
  go_wp2_with (go_at_call 66; (with_reducible refine (HNB.out _ _ H3.out).mono ?_); rintro e w4 ⟨rfl, hb⟩; have H4 := hid (H3.out.self hM hb); clear hb)
  go_loopw [10] (fun iv wr => ∃ j : Nat, j ≤ n ∧ iv = .int .i64 j ∧ Ow Pm F0 w0 wr b (St j) ((g5, .cells (wdV (U j)) 31 (0, 0)) :: (g4, .cells #[.int .i64 0, .int .i64 0, .int .i64 0] 33 (0, 0)) :: bs)) (fun iv _ => n - (intOf iv).toNat)
  case atStart => exact ⟨0, by omega, rfl, H4.out⟩
  case round =>
    clear H3 H4
    obtain ⟨j, hj, rfl, hI⟩ := hrel
    have HI := hid hI
    clear hI
    have hn3 := HN3.out
    by_cases hlt : j < n
    · have j1 : (j : Int) < (n : Int) := by omega
      have j0 : (0 : Int) ≤ (j : Int) := by omega
      have j3 : (j : Int) < 3 := by omega
      have HJ3 : Hid (j < 3) := hid (by omega)
      have HCJ : Hid (∀ w', Ow Pm F0 w0 w' b (St j) ((g5, .cells (wdV (U j)) 31 (0, 0)) :: (g4, .cells #[.int .i64 0, .int .i64 0, .int .i64 0] 33 (0, 0)) :: bs) → Calls Try.prog 55 #[.int .i64 (j : Int), .pointer (some ⟨p1, 0, none⟩), .pointer (some ⟨p2, 0, none⟩), .pointer (some ⟨p3, 0, none⟩)] w' fun e w2 => e = .returned (.int .i64 (rg j)) ∧ Ow Pm F0 w0 w2 b (St (j + 1)) ((g5, .cells (wdV (U j)) 31 (0, 0)) :: (g4, .cells #[.int .i64 0, .int .i64 0, .int .i64 0] 33 (0, 0)) :: bs)) := hid (fun w' h' => HC'.out j _ w' hlt (fun q hq => by simp [hq]) h')
      have HER : Hid ((wdV (U j)).setIfInBounds j (.int .i64 (rg j)) = wdV (U (j + 1))) := hid (by rw [wdV_upd _ j _ (by omega), HU.out j hlt])
      go_wp2_with (go_at_call 55; (with_reducible refine (HCJ.out _ HI.out).mono ?_); rintro e w6 ⟨rfl, h6⟩; have H6 := hid h6; have cj := row_c (i := j) (H6.out.bl 0 rfl) (wdV_at (U j) j HJ3.out); have fj := frozen_of_row w6 g5 j _ _ (H6.out.bl 0 rfl); clear h6)
      have H7 := hid (H6.out.cell hM j (.int .i64 (rg j)))
      rw [HER.out] at H7
      go_roundw
      case rel => exact ⟨j + 1, by omega, by go_num, H7.out⟩
      case measure => simp [intOf]; omega
    · obtain rfl : j = n := by omega
      clear hlt
      go_wp2_with (first
        | (refine step_load_row rfl 31 _ rfl g5 31 (wdV (U j)) _ rfl (HI.out.bl 0 rfl) Try.underlying31 rfl (by kernel_rfl) ?_)
        | (refine step_build_wd (U j) rfl _ rfl rfl ?_)
        | (refine step_store_row rfl 33 _ _ rfl g4 33 _ (wdV (U j)) rfl rfl (HI.out.bl 1 rfl) (by kernel_rfl) rfl (by kernel_rfl) ?_))
      have H8 := hid (HI.out.swap.row hM (wdV (U j)))
      exact bodyPost_ret (results_cell_row (by rfl) _ _ g4 33 (wdV (U j)) (0, 0) _ rfl (H8.out.bl 0 rfl) Try.underlying33 rfl (by kernel_rfl)) rfl ⟨rfl, H8.out.drop.drop⟩
set_option maxHeartbeats 3200000 in
theorem each_one {Pm : World → Nat → Ms → (Nat → Prop) → Prop} (hM : Mach Pm) {F0 : Nat → Prop} {w0 w : World} {b : Nat} {bs : List (Nat × Obj)} (p1 p2 p3 p4 n N : Nat) (St : Nat → Ms) (U : Nat → Nat → Int) (rg : Nat → Int) (h : Ow Pm F0 w0 w b (St 0) bs) (hn3 : n ≤ 3) (hq : Bq N (St 0)) (hk : N ≤ 1000000) (hn : (St 0).n = (n : Int))
    (hU0 : U 0 = none3) (hU : ∀ j, j < n → U (j + 1) = updI (U j) j (rg j))
    (HC : ∀ (j : Nat) (bs' : List (Nat × Obj)) (w' : World), j < n → (∀ q ∈ bs, q ∈ bs') → Ow Pm F0 w0 w' b (St j) bs' → Calls Try.prog 58 #[.int .i64 (j : Int), .pointer (some ⟨p1, 0, none⟩), .pointer (some ⟨p2, 0, none⟩), .pointer (some ⟨p3, 0, none⟩), .pointer (some ⟨p4, 0, none⟩)] w' fun e w2 => e = .returned (.int .i64 (rg j)) ∧ Ow Pm F0 w0 w2 b (St (j + 1)) bs') :
    Calls Try.prog 40 #[.pointer (some ⟨b, 0, none⟩), .func (.func 58) #[] #[.pointer (some ⟨p1, 0, none⟩), .pointer (some ⟨p2, 0, none⟩), .pointer (some ⟨p3, 0, none⟩), .pointer (some ⟨p4, 0, none⟩)]] w fun e w' => e = .returned (.agg (wdV (U n))) ∧ Ow Pm F0 w0 w' b (St n) bs := by
  have HNB : Hid (∀ (bs' : List (Nat × Obj)) (w' : World), Ow Pm F0 w0 w' b (St 0) bs' → Calls Try.prog 66 #[.pointer (some ⟨b, 0, none⟩)] w' fun e w2 => e = .returned (.int .i64 (n : Int)) ∧ Below w'.heap.size w' w2) := hid (fun bs' w' h' => h'.asks (fun F hF => by have := hM.n b N (St 0) F w' hF hq hk; rw [hn] at this; exact this))
  have HC' := hid HC
  have HN3 : Hid (n ≤ 3) := hid hn3
  have HU := hid hU
  have HU0 := hid hU0
  have H0 := hid (h.new hM #[.int .i64 0, .int .i64 0, .int .i64 0] 33)
  obtain ⟨w1, hw1⟩ : ∃ w1, w.alloc (.cells #[.int .i64 0, .int .i64 0, .int .i64 0] 33) = w1 := ⟨_, rfl⟩
  rw [hw1] at H0
  have HW := hid hw1
  clear h hq hk hn HC hw1 hU hU0 hn3
  obtain ⟨g4, hg4⟩ : ∃ g4, w.heap.size = g4 := ⟨_, rfl⟩
  rw [hg4] at H0
  have HG4 := hid hg4
  clear hg4
  go_enter Try.func40, Try.ntmps40
  go_upto_region 1 with fail
  rw [HW.out, HG4.out]
  go_upto_region 2 with fail
  have H2 := hid (H0.out.new hM (wdV none3) 31)
  obtain ⟨g5, hg5⟩ : ∃ g5, w1.heap.size = g5 := ⟨_, rfl⟩
  rw [hg5] at H2
  have H3 : Hid (Ow Pm F0 w0 (w1.alloc (.cells #[.int .i64 (-1), .int .i64 (-1), .int .i64 (-1)] 31)) b (St 0) ((g5, .cells (wdV none3) 31 (0, 0)) :: (g4, .cells #[.int .i64 0, .int .i64 0, .int .i64 0] 33 (0, 0)) :: bs)) := H2
  generalize w1.alloc (.cells #[.int .i64 (-1), .int .i64 (-1), .int .i64 (-1)] 31) = w3 at *
  rw [hg5]
  clear hg5 H2 H0
  rw [← HU0.out] at H3
  go_wp2_with (go_at_call 66; (with_reducible refine (HNB.out _ _ H3.out).mono ?_); rintro e w4 ⟨rfl, hb⟩; have H4 := hid (H3.out.self hM hb); clear hb)
  go_loopw [10] (fun iv wr => ∃ j : Nat, j ≤ n ∧ iv = .int .i64 j ∧ Ow Pm F0 w0 wr b (St j) ((g5, .cells (wdV (U j)) 31 (0, 0)) :: (g4, .cells #[.int .i64 0, .int .i64 0, .int .i64 0] 33 (0, 0)) :: bs)) (fun iv _ => n - (intOf iv).toNat)
  case atStart => exact ⟨0, by omega, rfl, H4.out⟩
  case round =>
    clear H3 H4
    obtain ⟨j, hj, rfl, hI⟩ := hrel
    have HI := hid hI
    clear hI
    have hn3 := HN3.out
    by_cases hlt : j < n
    · have j1 : (j : Int) < (n : Int) := by omega
      have j0 : (0 : Int) ≤ (j : Int) := by omega
      have j3 : (j : Int) < 3 := by omega
      have HJ3 : Hid (j < 3) := hid (by omega)
      have HCJ : Hid (∀ w', Ow Pm F0 w0 w' b (St j) ((g5, .cells (wdV (U j)) 31 (0, 0)) :: (g4, .cells #[.int .i64 0, .int .i64 0, .int .i64 0] 33 (0, 0)) :: bs) → Calls Try.prog 58 #[.int .i64 (j : Int), .pointer (some ⟨p1, 0, none⟩), .pointer (some ⟨p2, 0, none⟩), .pointer (some ⟨p3, 0, none⟩), .pointer (some ⟨p4, 0, none⟩)] w' fun e w2 => e = .returned (.int .i64 (rg j)) ∧ Ow Pm F0 w0 w2 b (St (j + 1)) ((g5, .cells (wdV (U j)) 31 (0, 0)) :: (g4, .cells #[.int .i64 0, .int .i64 0, .int .i64 0] 33 (0, 0)) :: bs)) := hid (fun w' h' => HC'.out j _ w' hlt (fun q hq => by simp [hq]) h')
      have HER : Hid ((wdV (U j)).setIfInBounds j (.int .i64 (rg j)) = wdV (U (j + 1))) := hid (by rw [wdV_upd _ j _ (by omega), HU.out j hlt])
      go_wp2_with (go_at_call 58; (with_reducible refine (HCJ.out _ HI.out).mono ?_); rintro e w6 ⟨rfl, h6⟩; have H6 := hid h6; have cj := row_c (i := j) (H6.out.bl 0 rfl) (wdV_at (U j) j HJ3.out); have fj := frozen_of_row w6 g5 j _ _ (H6.out.bl 0 rfl); clear h6)
      have H7 := hid (H6.out.cell hM j (.int .i64 (rg j)))
      rw [HER.out] at H7
      go_roundw
      case rel => exact ⟨j + 1, by omega, by go_num, H7.out⟩
      case measure => simp [intOf]; omega
    · obtain rfl : j = n := by omega
      clear hlt
      go_wp2_with (first
        | (refine step_load_row rfl 31 _ rfl g5 31 (wdV (U j)) _ rfl (HI.out.bl 0 rfl) Try.underlying31 rfl (by kernel_rfl) ?_)
        | (refine step_build_wd (U j) rfl _ rfl rfl ?_)
        | (refine step_store_row rfl 33 _ _ rfl g4 33 _ (wdV (U j)) rfl rfl (HI.out.bl 1 rfl) (by kernel_rfl) rfl (by kernel_rfl) ?_))
      have H8 := hid (HI.out.swap.row hM (wdV (U j)))
      exact bodyPost_ret (results_cell_row (by rfl) _ _ g4 33 (wdV (U j)) (0, 0) _ rfl (H8.out.bl 0 rfl) Try.underlying33 rfl (by kernel_rfl)) rfl ⟨rfl, H8.out.drop.drop⟩
end Go.Proofs.Ytdgkofnboeepbaa

/- Share: the program's functions of words, over any machine: the functions that are handed on. -/
namespace Go.Proofs.Ytdgkofnboeepbaa
open Go.RowKit
set_option maxRecDepth 100000
theorem Ow.mem {Pm : World → Nat → Ms → (Nat → Prop) → Prop} {F0 : Nat → Prop} {w0 w : World} {b : Nat} {S : Ms} {bs : List (Nat × Obj)} (h : Ow Pm F0 w0 w b S bs) {n : Nat} {u : Obj} (hq : (n, u) ∈ bs) : w.heap[n]? = some u := (h.bx _ hq).2
theorem clo_enc0 {Pm : World → Nat → Ms → (Nat → Prop) → Prop} (hM : Mach Pm) {F0 : Nat → Prop} {w0 w : World} {b : Nat} {S : Ms} {bs : List (Nat × Obj)} (p1 : Nat) (h : Ow Pm F0 w0 w b S bs) :
    Calls Try.prog 41 #[.int .i64 0, .pointer (some ⟨p1, 0, none⟩)] w fun e w2 => e = .returned (.int .i64 (-1)) ∧ Ow Pm F0 w0 w2 b S bs := by
  have HP := hid (h.self hM (Below.refl _ w))
  clear h
  go_enter Try.func41, Try.ntmps41
  go_wp2
  go_ret
  exact ⟨rfl, HP.out⟩
set_option maxHeartbeats 1600000 in
theorem clo_enc {Pm : World → Nat → Ms → (Nat → Prop) → Prop} (hM : Mach Pm) {F0 : Nat → Prop} {w0 w : World} {b k : Nat} {S : Ms} {bs : List (Nat × Obj)} (p1 j : Nat) (h : Ow Pm F0 w0 w b S bs) (h1 : (p1, Obj.cells #[.pointer (some ⟨b, 0, none⟩)] 24 (0, 0)) ∈ bs) (hq : Bq k S) (hk : k ≤ 1000000) (hj : j ≤ 100) (h0 : 0 < j) :
    Calls Try.prog 41 #[.int .i64 (j : Int), .pointer (some ⟨p1, 0, none⟩)] w fun e w2 => e = .returned (.int .i64 (S.doR (opRand j))) ∧ Ow Pm F0 w0 w2 b (S.doS (opRand j) 0) bs := by
  have c1 := row_c (i := 0) (u := .pointer (some ⟨b, 0, none⟩)) (h.mem h1) rfl
  have HC : Hid (Calls Try.prog 42 #[.pointer (some ⟨b, 0, none⟩), .int .i64 (j : Int)] w fun e w2 => e = .returned (.int .i64 (S.doR (opRand j))) ∧ Ow Pm F0 w0 w2 b (S.doS (opRand j) 0) bs) := hid (h.lift hM (fun F hF => hM.rand b k S F (j : Int) w hF hq hk (opRand_wf hj)))
  have q0 : ((j : Int) == 0) = false := by simp; omega
  clear h h1 hq hk hj
  generalize S.doR (opRand j) = r at *
  generalize S.doS (opRand j) 0 = S1 at *
  go_enter Try.func41, Try.ntmps41
  go_wp2_with (go_at_call 42; (with_reducible refine HC.out.mono ?_); rintro e w2 ⟨rfl, hp⟩; have HP := hid hp; clear hp c1)
  go_ret
  exact ⟨rfl, HP.out⟩
set_option maxHeartbeats 1600000 in
theorem clo_pub {Pm : World → Nat → Ms → (Nat → Prop) → Prop} (hM : Mach Pm) {F0 : Nat → Prop} {w0 w : World} {b k : Nat} {S : Ms} {bs : List (Nat × Obj)} (p1 p2 p3 c j : Nat) (h : Ow Pm F0 w0 w b S bs) (h1 : (p1, Obj.cells #[.func (.func 54) #[.pointer (some ⟨b, 0, none⟩)] #[]] 98 (0, 0)) ∈ bs) (h2 : (p2, Obj.cells #[.int .u64 (c : Int)] 34 (0, 0)) ∈ bs) (h3 : (p3, Obj.cells #[.pointer (some ⟨b, 0, none⟩)] 24 (0, 0)) ∈ bs) (hq : Bq k S) (hk : k ≤ 1000000) (hc : c < 2 ^ 64) (hj : j ≤ 100) :
    Calls Try.prog 77 #[.int .i64 (j : Int), .pointer (some ⟨p1, 0, none⟩), .pointer (some ⟨p2, 0, none⟩), .pointer (some ⟨p3, 0, none⟩)] w fun e w2 => e = .returned (.int .i64 (S.doR (opCst 3 c j))) ∧ Ow Pm F0 w0 w2 b (S.doS (opCst 3 c j) 0) bs := by
  have c1 := row_c (i := 0) (u := .func (.func 54) #[.pointer (some ⟨b, 0, none⟩)] #[]) (h.mem h1) rfl
  have c2 := row_c (i := 0) (u := .int .u64 (c : Int)) (h.mem h2) rfl
  have c3 := row_c (i := 0) (u := .pointer (some ⟨b, 0, none⟩)) (h.mem h3) rfl
  by_cases h0 : 0 < j
  · have e : opCst 3 c j = ⟨3, (j : Int), -1, -1, -1, 0⟩ := by unfold opCst; rw [if_neg (by omega)]
    have hwf : opwf ⟨3, (j : Int), -1, -1, -1, 0⟩ := ⟨i64c 3 (by decide) (by decide), by show _ ≤ (j : Int) ∧ (j : Int) ≤ _; omega, I64.m1, I64.m1, I64.m1, by show 0 < _; omega⟩
    rw [e]
    have HC : Hid (Calls Try.prog 54 #[.pointer (some ⟨b, 0, none⟩), .int .i64 (j : Int), .int .u64 0] w fun e w2 => e = .returned (.int .i64 (S.doR ⟨3, (j : Int), -1, -1, -1, 0⟩)) ∧ Ow Pm F0 w0 w2 b (S.doS ⟨3, (j : Int), -1, -1, -1, 0⟩ 0) bs) := hid (h.lift hM (fun F hF => hM.const_ b k S F (j : Int) 0 w hF hq hk hwf))
    have q0 : ((j : Int) == 0) = false := by simp; omega
    clear h h1 h2 h3 hq hk hc hj e hwf
    generalize S.doR ⟨3, (j : Int), -1, -1, -1, 0⟩ = r at *
    generalize S.doS ⟨3, (j : Int), -1, -1, -1, 0⟩ 0 = S1 at *
    go_enter Try.func77, Try.ntmps77
    go_wp2_with (go_at_call 54; (with_reducible refine HC.out.mono ?_); rintro e w2 ⟨rfl, hp⟩; have HP := hid hp; clear hp c1 c2 c3)
    go_ret
    exact ⟨rfl, HP.out⟩
  · obtain rfl : j = 0 := by omega
    have e : opCst 3 c 0 = ⟨3, 0, -1, -1, -1, c⟩ := if_pos rfl
    have hwf : opwf ⟨3, 0, -1, -1, -1, c⟩ := ⟨i64c 3 (by decide) (by decide), i64c 0 (by decide) (by decide), I64.m1, I64.m1, I64.m1, by show c < _; omega⟩
    rw [e]
    have HC : Hid (Calls Try.prog 54 #[.pointer (some ⟨b, 0, none⟩), .int .i64 0, .int .u64 (c : Int)] w fun e w2 => e = .returned (.int .i64 (S.doR ⟨3, 0, -1, -1, -1, c⟩)) ∧ Ow Pm F0 w0 w2 b (S.doS ⟨3, 0, -1, -1, -1, c⟩ 0) bs) := hid (h.lift hM (fun F hF => hM.const_ b k S F 0 c w hF hq hk hwf))
    clear h h1 h2 h3 hq hk hc hj h0 e hwf
    generalize S.doR ⟨3, 0, -1, -1, -1, c⟩ = r at *
    generalize S.doS ⟨3, 0, -1, -1, -1, c⟩ 0 = S1 at *
    go_enter Try.func77, Try.ntmps77
    go_wp2_with (go_at_call 54; (with_reducible refine HC.out.mono ?_); rintro e w2 ⟨rfl, hp⟩; have HP := hid hp; clear hp c1 c2 c3)
    go_ret
    exact ⟨rfl, HP.out⟩
set_option maxHeartbeats 1600000 in
theorem clo_told {Pm : World → Nat → Ms → (Nat → Prop) → Prop} (hM : Mach Pm) {F0 : Nat → Prop} {w0 w : World} {b k : Nat} {S : Ms} {bs : List (Nat × Obj)} (p1 p2 p3 c j : Nat) (h : Ow Pm F0 w0 w b S bs) (h1 : (p1, Obj.cells #[.func (.func 53) #[.pointer (some ⟨b, 0, none⟩)] #[]] 98 (0, 0)) ∈ bs) (h2 : (p2, Obj.cells #[.int .u64 (c : Int)] 34 (0, 0)) ∈ bs) (h3 : (p3, Obj.cells #[.pointer (some ⟨b, 0, none⟩)] 24 (0, 0)) ∈ bs) (hq : Bq k S) (hk : k ≤ 1000000) (hc : c < 2 ^ 64) (hj : j ≤ 100) :
    Calls Try.prog 77 #[.int .i64 (j : Int), .pointer (some ⟨p1, 0, none⟩), .pointer (some ⟨p2, 0, none⟩), .pointer (some ⟨p3, 0, none⟩)] w fun e w2 => e = .returned (.int .i64 (S.doR (opCst 4 c j))) ∧ Ow Pm F0 w0 w2 b (S.doS (opCst 4 c j) 0) bs := by
  have c1 := row_c (i := 0) (u := .func (.func 53) #[.pointer (some ⟨b, 0, none⟩)] #[]) (h.mem h1) rfl
  have c2 := row_c (i := 0) (u := .int .u64 (c : Int)) (h.mem h2) rfl
  have c3 := row_c (i := 0) (u := .pointer (some ⟨b, 0, none⟩)) (h.mem h3) rfl
  by_cases h0 : 0 < j
  · have e : opCst 4 c j = ⟨3, (j : Int), -1, -1, -1, 0⟩ := by unfold opCst; rw [if_neg (by omega)]
    have hwf : opwf ⟨3, (j : Int), -1, -1, -1, 0⟩ := ⟨i64c 3 (by decide) (by decide), by show _ ≤ (j : Int) ∧ (j : Int) ≤ _; omega, I64.m1, I64.m1, I64.m1, by show 0 < _; omega⟩
    rw [e]
    have HC : Hid (Calls Try.prog 54 #[.pointer (some ⟨b, 0, none⟩), .int .i64 (j : Int), .int .u64 0] w fun e w2 => e = .returned (.int .i64 (S.doR ⟨3, (j : Int), -1, -1, -1, 0⟩)) ∧ Ow Pm F0 w0 w2 b (S.doS ⟨3, (j : Int), -1, -1, -1, 0⟩ 0) bs) := hid (h.lift hM (fun F hF => hM.const_ b k S F (j : Int) 0 w hF hq hk hwf))
    have q0 : ((j : Int) == 0) = false := by simp; omega
    clear h h1 h2 h3 hq hk hc hj e hwf
    generalize S.doR ⟨3, (j : Int), -1, -1, -1, 0⟩ = r at *
    generalize S.doS ⟨3, (j : Int), -1, -1, -1, 0⟩ 0 = S1 at *
    go_enter Try.func77, Try.ntmps77
    go_wp2_with (go_at_call 54; (with_reducible refine HC.out.mono ?_); rintro e w2 ⟨rfl, hp⟩; have HP := hid hp; clear hp c1 c2 c3)
    go_ret
    exact ⟨rfl, HP.out⟩
  · obtain rfl : j = 0 := by omega
    have e : opCst 4 c 0 = ⟨4, 0, -1, -1, -1, c⟩ := if_pos rfl
    have hwf : opwf ⟨4, 0, -1, -1, -1, c⟩ := ⟨i64c 4 (by decide) (by decide), i64c 0 (by decide) (by decide), I64.m1, I64.m1, I64.m1, by show c < _; omega⟩
    rw [e]
    have HC : Hid (Calls Try.prog 53 #[.pointer (some ⟨b, 0, none⟩), .int .i64 0, .int .u64 (c : Int)] w fun e w2 => e = .returned (.int .i64 (S.doR ⟨4, 0, -1, -1, -1, c⟩)) ∧ Ow Pm F0 w0 w2 b (S.doS ⟨4, 0, -1, -1, -1, c⟩ 0) bs) := hid (h.lift hM (fun F hF => hM.told b k S F 0 c w hF hq hk hwf))
    clear h h1 h2 h3 hq hk hc hj h0 e hwf
    generalize S.doR ⟨4, 0, -1, -1, -1, c⟩ = r at *
    generalize S.doS ⟨4, 0, -1, -1, -1, c⟩ 0 = S1 at *
    go_enter Try.func77, Try.ntmps77
    go_wp2_with (go_at_call 53; (with_reducible refine HC.out.mono ?_); rintro e w2 ⟨rfl, hp⟩; have HP := hid hp; clear hp c1 c2 c3)
    go_ret
    exact ⟨rfl, HP.out⟩
set_option maxHeartbeats 1600000 in
theorem clo_xor {Pm : World → Nat → Ms → (Nat → Prop) → Prop} (hM : Mach Pm) {F0 : Nat → Prop} {w0 w : World} {b k : Nat} {S : Ms} {bs : List (Nat × Obj)} (p1 p2 p3 j : Nat) (A B : Nat → Int) (h : Ow Pm F0 w0 w b S bs) (h1 : (p1, Obj.cells #[.pointer (some ⟨b, 0, none⟩)] 24 (0, 0)) ∈ bs) (h2 : (p2, Obj.cells (wdV A) 33 (0, 0)) ∈ bs) (h3 : (p3, Obj.cells (wdV B) 33 (0, 0)) ∈ bs) (hq : Bq k S) (hk : k ≤ 1000000) (hA : Wb A) (hB : Wb B) (hj : j < 3) :
    Calls Try.prog 55 #[.int .i64 (j : Int), .pointer (some ⟨p1, 0, none⟩), .pointer (some ⟨p2, 0, none⟩), .pointer (some ⟨p3, 0, none⟩)] w fun e w2 => e = .returned (.int .i64 (S.doR (opXor A B j))) ∧ Ow Pm F0 w0 w2 b (S.doS (opXor A B j) 0) bs := by
  have HC : Hid (∀ w', Ow Pm F0 w0 w' b S bs → Calls Try.prog 56 #[.pointer (some ⟨b, 0, none⟩), .int .i64 5, .int .i64 (j : Int), .int .i64 (A j), .int .i64 (B j)] w' fun e w2 => e = .returned (.int .i64 (S.doR (opXor A B j))) ∧ Ow Pm F0 w0 w2 b (S.doS (opXor A B j) 0) bs) := hid (fun w' h' => h'.lift hM (fun F hF => hM.two b k S F 5 (j : Int) (A j) (B j) w' hF hq hk (opXor_wf hA hB (by omega))))
  have M1 := hid h1
  have M2 := hid h2
  have M3 := hid h3
  have HJ := hid hj
  have j0 : (0 : Int) ≤ (j : Int) := by omega
  have j1 : (j : Int) < 3 := by omega
  have G0 := hid (h.self hM ((Below.refl _ w).drew))
  generalize S.doR (opXor A B j) = r at *
  generalize S.doS (opXor A B j) 0 = S1 at *
  clear h h1 h2 h3 hq hk hA hB hj
  go_enter Try.func55, Try.ntmps55
  go_wp2_with fail
  refine wp_region_noPanic ?_
  refine wp_region_held_drew (S := fun w' => w'.cell? ⟨p1, 0, none⟩ = some (.pointer (some ⟨b, 0, none⟩)) ∧ w'.cell? ⟨p2, j, none⟩ = some (.int .i64 (A j)) ∧ w'.cell? ⟨p3, j, none⟩ = some (.int .i64 (B j))) (by kernel_rfl) (⟨row_c (i := 0) (G0.out.mem M1.out) rfl, row_c (i := j) (G0.out.mem M2.out) (wdV_at A j HJ.out), row_c (i := j) (G0.out.mem M3.out) (wdV_at B j HJ.out)⟩) (fun h0 => ?_)
  generalize w.drew = y1 at *
  refine wpAnyH_take (i := 0) (v := .pointer (some ⟨b, 0, none⟩)) rfl (by kernel_rfl) (by kernel_rfl) (by kernel_rfl) (fun _ _ _ h => h) (.inl ⟨by rfl, fun w' hw => by have hc := hw.1; clear hw; go_simp⟩) h0 ?_
  try simp only [Act.put, lay_out]
  refine wpAnyH_take (i := 1) (v := .int .i64 (j : Int)) rfl (by kernel_rfl) (by kernel_rfl) (by kernel_rfl) (fun _ _ _ h => h) (.inl ⟨by rfl, fun w hw => by clear hw; go_simp⟩) h0 ?_
  try simp only [Act.put, lay_out]
  refine wpAnyH_take (i := 2) (v := .int .i64 (j : Int)) rfl (by kernel_rfl) (by kernel_rfl) (by kernel_rfl) (fun _ _ _ h => h) (.inl ⟨by rfl, fun w hw => by clear hw; go_simp⟩) h0 ?_
  try simp only [Act.put, lay_out]
  refine wpAnyH_take (i := 3) (v := .pointer (some ⟨p2, 0, none⟩)) rfl (by kernel_rfl) (by kernel_rfl) (by kernel_rfl) (fun _ _ _ h => h) (.inl ⟨by rfl, fun w hw => by clear hw; go_simp⟩) h0 ?_
  try simp only [Act.put, lay_out]
  refine wpAnyH_take (i := 4) (v := .pointer (some ⟨p2, j, none⟩)) rfl (by kernel_rfl) (by kernel_rfl) (by kernel_rfl) (fun _ _ _ h => h) (.inl ⟨by rfl, fun w hw => by clear hw; go_simp⟩) h0 ?_
  try simp only [Act.put, lay_out]
  refine wpAnyH_take (i := 5) (v := .int .i64 (A j)) rfl (by kernel_rfl) (by kernel_rfl) (by kernel_rfl) (fun _ _ _ h => h) (.inl ⟨by rfl, fun w' hw => by have hc := hw.2.1; clear hw; go_simp⟩) h0 ?_
  try simp only [Act.put, lay_out]
  refine wpAnyH_take (i := 6) (v := .int .i64 (j : Int)) rfl (by kernel_rfl) (by kernel_rfl) (by kernel_rfl) (fun _ _ _ h => h) (.inl ⟨by rfl, fun w hw => by clear hw; go_simp⟩) h0 ?_
  try simp only [Act.put, lay_out]
  refine wpAnyH_take (i := 7) (v := .pointer (some ⟨p3, 0, none⟩)) rfl (by kernel_rfl) (by kernel_rfl) (by kernel_rfl) (fun _ _ _ h => h) (.inl ⟨by rfl, fun w hw => by clear hw; go_simp⟩) h0 ?_
  try simp only [Act.put, lay_out]
  refine wpAnyH_take (i := 8) (v := .pointer (some ⟨p3, j, none⟩)) rfl (by kernel_rfl) (by kernel_rfl) (by kernel_rfl) (fun _ _ _ h => h) (.inl ⟨by rfl, fun w hw => by clear hw; go_simp⟩) h0 ?_
  try simp only [Act.put, lay_out]
  refine wpAnyH_take (i := 9) (v := .int .i64 (B j)) rfl (by kernel_rfl) (by kernel_rfl) (by kernel_rfl) (fun _ _ _ h => h) (.inl ⟨by rfl, fun w' hw => by have hc := hw.2.2; clear hw; go_simp⟩) h0 ?_
  try simp only [Act.put, lay_out]
  refine wpAnyH_ready (rs := [10]) (by kernel_rfl) (by simp) (AllReadyH.cons rfl (fun K hK => ?_) AllReadyH.nil)
  rw [if_pos (by rfl)]
  go_simp
  go_at_call 56
  (with_reducible refine (HC.out _ G0.out).mono ?_); rintro e w2 ⟨rfl, hp⟩
  have HP := hid hp
  clear hp
  refine hK.out _ _ (⟨row_c (i := 0) (HP.out.mem M1.out) rfl, row_c (i := j) (HP.out.mem M2.out) (wdV_at A j HJ.out), row_c (i := j) (HP.out.mem M3.out) (wdV_at B j HJ.out)⟩) (fun h1x => ?_)
  clear hK K
  try simp only [Act.put, lay_out]
  refine wpAnyH_take (i := 11) (v := .int .i64 r) rfl (by kernel_rfl) (by kernel_rfl) (by kernel_rfl) (fun _ _ _ h => h) (.inl ⟨by rfl, fun w hw => by clear hw; go_simp⟩) h1x ?_
  try simp only [Act.put, lay_out]
  refine wpAnyH_done (by kernel_rfl) ?_ _
  refine NoPanic.normal ?_
  clear h0 h1x
  try simp only [Act.put, lay_out]
  go_wp2
  go_ret
  exact ⟨rfl, HP.out⟩
set_option maxHeartbeats 1600000 in
theorem clo_one {Pm : World → Nat → Ms → (Nat → Prop) → Prop} (hM : Mach Pm) {F0 : Nat → Prop} {w0 w : World} {b k : Nat} {S : Ms} {bs : List (Nat × Obj)} (p1 p2 p3 p4 j : Nat) (K : Int) (A : Nat → Int) (c : Nat) (h : Ow Pm F0 w0 w b S bs) (h1 : (p1, Obj.cells #[.pointer (some ⟨b, 0, none⟩)] 24 (0, 0)) ∈ bs) (h2 : (p2, Obj.cells #[.int .i64 K] 3 (0, 0)) ∈ bs) (h3 : (p3, Obj.cells (wdV A) 33 (0, 0)) ∈ bs) (h4 : (p4, Obj.cells #[.int .u64 (c : Int)] 34 (0, 0)) ∈ bs) (hq : Bq k S) (hk : k ≤ 1000000) (hK : I64 K) (hA : Wb A) (hc : c < 2 ^ 64) (hj : j < 3) :
    Calls Try.prog 58 #[.int .i64 (j : Int), .pointer (some ⟨p1, 0, none⟩), .pointer (some ⟨p2, 0, none⟩), .pointer (some ⟨p3, 0, none⟩), .pointer (some ⟨p4, 0, none⟩)] w fun e w2 => e = .returned (.int .i64 (S.doR (opOne K A c j))) ∧ Ow Pm F0 w0 w2 b (S.doS (opOne K A c j) 0) bs := by
  have HC : Hid (∀ w', Ow Pm F0 w0 w' b S bs → Calls Try.prog 57 #[.pointer (some ⟨b, 0, none⟩), .int .i64 K, .int .i64 (j : Int), .int .i64 (A j), .int .u64 (c : Int)] w' fun e w2 => e = .returned (.int .i64 (S.doR (opOne K A c j))) ∧ Ow Pm F0 w0 w2 b (S.doS (opOne K A c j) 0) bs) := hid (fun w' h' => h'.lift hM (fun F hF => hM.one b k S F K (j : Int) (A j) c w' hF hq hk (opOne_wf hK hA hc (by omega))))
  have M1 := hid h1
  have M2 := hid h2
  have M3 := hid h3
  have M4 := hid h4
  have HJ := hid hj
  have j0 : (0 : Int) ≤ (j : Int) := by omega
  have j1 : (j : Int) < 3 := by omega
  have G0 := hid (h.self hM ((Below.refl _ w).drew))
  generalize S.doR (opOne K A c j) = r at *
  generalize S.doS (opOne K A c j) 0 = S1 at *
  clear h h1 h2 h3 h4 hq hk hA hc hK hj
  go_enter Try.func58, Try.ntmps58
  go_wp2_with fail
  refine wp_region_noPanic ?_
  refine wp_region_held_drew (S := fun w' => w'.cell? ⟨p1, 0, none⟩ = some (.pointer (some ⟨b, 0, none⟩)) ∧ w'.cell? ⟨p2, 0, none⟩ = some (.int .i64 K) ∧ w'.cell? ⟨p3, j, none⟩ = some (.int .i64 (A j)) ∧ w'.cell? ⟨p4, 0, none⟩ = some (.int .u64 (c : Int))) (by kernel_rfl) (⟨row_c (i := 0) (G0.out.mem M1.out) rfl, row_c (i := 0) (G0.out.mem M2.out) rfl, row_c (i := j) (G0.out.mem M3.out) (wdV_at A j HJ.out), row_c (i := 0) (G0.out.mem M4.out) rfl⟩) (fun h0 => ?_)
  generalize w.drew = y1 at *
  refine wpAnyH_take (i := 0) (v := .pointer (some ⟨b, 0, none⟩)) rfl (by kernel_rfl) (by kernel_rfl) (by kernel_rfl) (fun _ _ _ h => h) (.inl ⟨by rfl, fun w' hw => by have hc := hw.1; clear hw; go_simp⟩) h0 ?_
  try simp only [Act.put, lay_out]
  refine wpAnyH_take (i := 1) (v := .int .i64 K) rfl (by kernel_rfl) (by kernel_rfl) (by kernel_rfl) (fun _ _ _ h => h) (.inl ⟨by rfl, fun w' hw => by have hc := hw.2.1; clear hw; go_simp⟩) h0 ?_
  try simp only [Act.put, lay_out]
  refine wpAnyH_take (i := 2) (v := .int .i64 (j : Int)) rfl (by kernel_rfl) (by kernel_rfl) (by kernel_rfl) (fun _ _ _ h => h) (.inl ⟨by rfl, fun w hw => by clear hw; go_simp⟩) h0 ?_
  try simp only [Act.put, lay_out]
  refine wpAnyH_take (i := 3) (v := .int .i64 (j : Int)) rfl (by kernel_rfl) (by kernel_rfl) (by kernel_rfl) (fun _ _ _ h => h) (.inl ⟨by rfl, fun w hw => by clear hw; go_simp⟩) h0 ?_
  try simp only [Act.put, lay_out]
  refine wpAnyH_take (i := 4) (v := .pointer (some ⟨p3, 0, none⟩)) rfl (by kernel_rfl) (by kernel_rfl) (by kernel_rfl) (fun _ _ _ h => h) (.inl ⟨by rfl, fun w hw => by clear hw; go_simp⟩) h0 ?_
  try simp only [Act.put, lay_out]
  refine wpAnyH_take (i := 5) (v := .pointer (some ⟨p3, j, none⟩)) rfl (by kernel_rfl) (by kernel_rfl) (by kernel_rfl) (fun _ _ _ h => h) (.inl ⟨by rfl, fun w hw => by clear hw; go_simp⟩) h0 ?_
  try simp only [Act.put, lay_out]
  refine wpAnyH_take (i := 6) (v := .int .i64 (A j)) rfl (by kernel_rfl) (by kernel_rfl) (by kernel_rfl) (fun _ _ _ h => h) (.inl ⟨by rfl, fun w' hw => by have hc := hw.2.2.1; clear hw; go_simp⟩) h0 ?_
  try simp only [Act.put, lay_out]
  refine wpAnyH_take (i := 7) (v := .int .u64 (c : Int)) rfl (by kernel_rfl) (by kernel_rfl) (by kernel_rfl) (fun _ _ _ h => h) (.inl ⟨by rfl, fun w' hw => by have hc := hw.2.2.2; clear hw; go_simp⟩) h0 ?_
  try simp only [Act.put, lay_out]
  refine wpAnyH_ready (rs := [8]) (by kernel_rfl) (by simp) (AllReadyH.cons rfl (fun K hK => ?_) AllReadyH.nil)
  rw [if_pos (by rfl)]
  go_simp
  go_at_call 57
  (with_reducible refine (HC.out _ G0.out).mono ?_); rintro e w2 ⟨rfl, hp⟩
  have HP := hid hp
  clear hp
  refine hK.out _ _ (⟨row_c (i := 0) (HP.out.mem M1.out) rfl, row_c (i := 0) (HP.out.mem M2.out) rfl, row_c (i := j) (HP.out.mem M3.out) (wdV_at A j HJ.out), row_c (i := 0) (HP.out.mem M4.out) rfl⟩) (fun h1x => ?_)
  clear hK K
  try simp only [Act.put, lay_out]
  refine wpAnyH_take (i := 9) (v := .int .i64 r) rfl (by kernel_rfl) (by kernel_rfl) (by kernel_rfl) (fun _ _ _ h => h) (.inl ⟨by rfl, fun w hw => by clear hw; go_simp⟩) h1x ?_
  try simp only [Act.put, lay_out]
  refine wpAnyH_done (by kernel_rfl) ?_ _
  refine NoPanic.normal ?_
  clear h0 h1x
  try simp only [Act.put, lay_out]
  go_wp2
  go_ret
  exact ⟨rfl, HP.out⟩
end Go.Proofs.Ytdgkofnboeepbaa

/- Share: the program's Value. -/
namespace Go.Proofs.Ytdgkofnboeepbaa
open Go.RowKit
set_option maxRecDepth 100000
theorem run_index_wd (w : World) (A : Nat → Int) (m : Nat) (hm : m < 3) : (Instr.index 31 (.agg (wdV A)) (.int .i64 (m : Int))).run Try.prog w = .ok (.int .i64 (A m)) w := by
  have hs : Try.t3.size = 1 := rfl
  match m, hm with
  | 0, _ => simp [Instr.index, asIntOf, run_underlying Try.underlying31, part, run_underlying Try.underlying3, isAgg, go_sem, sizeOf, hs, wdV]
  | 1, _ => simp [Instr.index, asIntOf, run_underlying Try.underlying31, part, run_underlying Try.underlying3, isAgg, go_sem, sizeOf, hs, wdV]
  | 2, _ => simp [Instr.index, asIntOf, run_underlying Try.underlying31, part, run_underlying Try.underlying3, isAgg, go_sem, sizeOf, hs, wdV]
theorem step_index_wd {w : World} {ops : Array Oper} {rest : List Oper} {o : Oper} {a : Act} {Q : Exit → Act → World → Prop} (hgd : o.guard = none) (x y : Operand) (ho : o.op = .index 31 x y)
    (A : Nat → Int) (m : Nat) (hm : m < 3) (hx : a.eval x = .agg (wdV A)) (hy : a.eval y = .int .i64 (m : Int)) (k : wpList Try.prog ops Q rest (a.put o.dst (.int .i64 (A m))) w) : wpList Try.prog ops Q (o :: rest) a w :=
  wpList_plain hgd fun _ hK => by
    unfold Oper.wp execOp
    simp only [ho, hx, hy, Sem.run_bind, Sem.run_pure, Result.andThen_ok, run_index_wd w A m hm]
    exact hK _ _ k
set_option maxHeartbeats 3200000 in
theorem svalue_any (v : Value) (vv : Nat → Nat) (L : Nat) (A : Nat → Int) (w : World) (h : Rd .u64 w v (wdL vv L)) (hv : ∀ i, i < L → vv i < 2 ^ 64) :
    Calls Try.prog 10 #[v, .agg (wdV A)] w fun e w' => e = .returned (.int .u64 (vlN vv L A : Nat)) ∧ Below w.heap.size w w' := by
  obtain ⟨a, cap, rfl, hp⟩ := (rd_wr h).at_
  obtain ⟨w1, hw1⟩ : ∃ w1, w.alloc (.cells (wdV A) 33) = w1 := ⟨_, rfl⟩
  have HB1 : Hid (Below w.heap.size w w1) := hid (by rw [← hw1]; exact (Below.refl _ _).alloc (Nat.le_refl _) _)
  have HX1 : Hid (w1.heap[w.heap.size]? = some (.cells (wdV A) 33 (0, 0))) := hid (by rw [← hw1]; exact heap_alloc_new _ _)
  have HW1 := hid hw1
  have HP := hid hp
  have HV := hid (vlP_lt hv A)
  have HV2 := hid hv
  clear h hp hw1 hv
  go_enter Try.func10, Try.ntmps10
  go_upto_region 1 with fail
  rw [HW1.out]
  go_wp2_with (refine step_load_row rfl 31 _ rfl w.heap.size 33 (wdV A) _ rfl HX1.out Try.underlying31 rfl (by kernel_rfl) ?_)
  go_loopw [5, 10] (fun x i wr => ∃ m : Nat, m ≤ 3 ∧ i = .int .i64 m ∧ x = .int .u64 (vlP vv L A m : Nat) ∧ Below w1.heap.size w1 wr) (fun _ i _ => 3 - (intOf i).toNat)
  case atStart => exact ⟨0, by omega, rfl, rfl, Below.refl _ _⟩
  case round =>
    obtain ⟨m, hm, rfl, rfl, hI⟩ := hrel
    have HI := hid hI
    clear hI
    by_cases hlt : m < 3
    · have j1 : (0 : Int) ≤ (m : Int) := by omega
      have j2 : (m : Int) < 3 := by omega
      have HL3 := hid hlt
      have HS : Hid (vlP vv L A (m + 1) = vlP vv L A m ^^^ wordAt vv L (A m)) := hid rfl
      have hxl := HV.out m
      by_cases h0 : A m < 0
      · have q1 : decide (0 ≤ A m) = false := decide_eq_false (by omega)
        have hz : wordAt vv L (A m) = 0 := if_neg (by omega)
        have HE : Hid (vlP vv L A (m + 1) = vlP vv L A m) := hid (by rw [HS.out, hz, Nat.xor_zero])
        clear hz h0
        go_wp2_with (refine step_index_wd rfl _ _ rfl A m HL3.out rfl rfl ?_)
        go_roundw
        case rel => exact ⟨m + 1, by omega, by go_num, by rw [HE.out], HI.out⟩
        case measure => simp [intOf]; omega
      · have q1 : decide (0 ≤ A m) = true := decide_eq_true (by omega)
        by_cases h1 : A m < (L : Int)
        · obtain ⟨z, hz⟩ := Int.eq_ofNat_of_zero_le (by omega : 0 ≤ A m)
          have hzL : z < L := by omega
          obtain ⟨g, off, rfl, hg, hc⟩ := HP.out (by omega)
          have cz : wr.cell? ⟨g, off + z, none⟩ = some (.int .u64 (vv z : Int)) := tcell_self (hc z hzL) (HB1.out.trans (HI.out.mono HB1.out.size))
          have hw : wordAt vv L (A m) = vv z := by unfold wordAt; rw [if_pos ⟨by omega, h1⟩, hz]; simp
          have hvz := HV2.out z hzL
          have hx := wx64 hxl hvz
          have HE : Hid (vlP vv L A (m + 1) = vlP vv L A m ^^^ vv z) := hid (by rw [HS.out, hw])
          have HZ := hid hz
          rw [hz] at q1 h1
          clear hw hc h0 HS hz
          have c1 : (0 : Int) ≤ (z : Int) := by omega
          have c2 : (z : Int) < (L : Int) := by omega
          generalize vlP vv L A m ^^^ vv z = r at *
          generalize vlP vv L A m = y at *
          generalize vv z = u at *
          go_wp2_with (refine step_index_wd rfl _ _ rfl A m HL3.out rfl rfl ?_; rw [HZ.out])
          go_roundw
          case rel => exact ⟨m + 1, by omega, by go_num, by rw [HE.out], HI.out⟩
          case measure => simp [intOf]; omega
        · have q2 : decide (A m < (L : Int)) = false := decide_eq_false h1
          have hz : wordAt vv L (A m) = 0 := if_neg (by omega)
          have HE : Hid (vlP vv L A (m + 1) = vlP vv L A m) := hid (by rw [HS.out, hz, Nat.xor_zero])
          clear hz h0 h1
          go_wp2_with (refine step_index_wd rfl _ _ rfl A m HL3.out rfl rfl ?_)
          go_roundw
          case rel => exact ⟨m + 1, by omega, by go_num, by rw [HE.out], HI.out⟩
          case measure => simp [intOf]; omega
    · obtain rfl : m = 3 := by omega
      go_wp2
      go_ret
      exact ⟨rfl, HB1.out.trans (HI.out.mono HB1.out.size)⟩
end Go.Proofs.Ytdgkofnboeepbaa
