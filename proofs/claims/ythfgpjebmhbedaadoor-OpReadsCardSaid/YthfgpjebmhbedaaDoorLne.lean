import Derived.Test.YthfgpjebmhbedaaDoorProg
import Derived.Test.YthfgpjebmhbedaaDoorAin
import Derived.Test.YthfgpjebmhbedaaDoorIxn
import Derived.Test.YthfgpjebmhbedaaDoorOpr
import Derived.Test.YthfgpjebmhbedaaDoorOpn
import Derived.Test.YthfgpjebmhbedaaDoorOpm
/- Op: an op's line, by the program. -/
namespace Go.Proofs.YthfgpjebmhbedaaDoor
open Go.RowKit Go.Sort Go.Lib
set_option maxRecDepth 100000
theorem nm_kn (K : Int) : nmB K = sB (knL K) := by
  rcases kindsL K with rfl | rfl | rfl | rfl | rfl | rfl | rfl | rfl | rfl | rfl | rfl | rfl | h
  rotate_right
  · rw [nmB_no h, knL_no h]; rfl
  all_goals rfl
/-- The numbers of a line, in their order. -/
def el4 (o : Op6) (j : Nat) : Int := if j = 0 then o.D else if j = 1 then o.A else if j = 2 then o.B else o.E
/-- A line of which j numbers are written. -/
def ln4 (o : Op6) : Nat → List UInt8
  | 0 => knL o.K
  | j + 1 => ln4 o j ++ [32] ++ itoa (el4 o j)
theorem ln4_end (o : Op6) : ln4 o 4 ++ 32 :: decDigits o.C = lnL o := by
  simp [ln4, el4, lnL]
theorem el4_b (o : Op6) (hD : -9223372036854775808 ≤ o.D ∧ o.D ≤ 9223372036854775807) (hA : -9223372036854775808 ≤ o.A ∧ o.A ≤ 9223372036854775807) (hB : -9223372036854775808 ≤ o.B ∧ o.B ≤ 9223372036854775807) (hE : -9223372036854775808 ≤ o.E ∧ o.E ≤ 9223372036854775807) (j : Nat) : -9223372036854775808 ≤ el4 o j ∧ el4 o j ≤ 9223372036854775807 := by
  unfold el4
  split
  · exact hD
  · split
    · exact hA
    · split
      · exact hB
      · exact hE
theorem ln4_len (o : Op6) (hb : ∀ j, -9223372036854775808 ≤ el4 o j ∧ el4 o j ≤ 9223372036854775807) : ∀ j, (ln4 o j).length ≤ 5 + 22 * j
  | 0 => by have := knL_len o.K; exact this
  | j + 1 => by
    have h1 := ln4_len o hb j
    have h2 := itoa_len (hb j).1 (hb j).2
    show (ln4 o j ++ [32] ++ itoa (el4 o j)).length ≤ _
    rw [List.length_append, List.length_append, List.length_singleton]
    omega
theorem el4_get (o : Op6) (j : Nat) (hj : j < 4) : (#[.int .i64 o.D, .int .i64 o.A, .int .i64 o.B, .int .i64 o.E] : Array Value)[j]? = some (.int .i64 (el4 o j)) := by
  rcases (by omega : j = 0 ∨ j = 1 ∨ j = 2 ∨ j = 3) with rfl | rfl | rfl | rfl <;> rfl
theorem el4_index (o : Op6) (j : Nat) (hj : j < 4) (w : World) : (Instr.index 29 (.agg #[.int .i64 o.D, .int .i64 o.A, .int .i64 o.B, .int .i64 o.E]) (.int .i64 (j : Int))).run Tryd.prog w = .ok (.int .i64 (el4 o j)) w :=
  run_index_num w 29 3 4 _ j _ Tryd.underlying29 Tryd.underlying3 (by kernel_rfl) hj (el4_get o j hj)
theorem box6 {w : World} {b : Nat} {o : Op6} (h : w.heap[b]? = some (.cells #[.int .i64 o.K, .int .i64 o.D, .int .i64 o.A, .int .i64 o.B, .int .i64 o.E, .int .u64 (o.C : Int)] 24 (0, 0))) :
    w.cell? ⟨b, 1, none⟩ = some (.int .i64 o.D) ∧ w.cell? ⟨b, 2, none⟩ = some (.int .i64 o.A) ∧ w.cell? ⟨b, 3, none⟩ = some (.int .i64 o.B) ∧ w.cell? ⟨b, 4, none⟩ = some (.int .i64 o.E) ∧ w.cell? ⟨b, 5, none⟩ = some (.int .u64 (o.C : Int)) :=
  ⟨by rw [cell_of_row w _ 1 _ _ _ h]; rfl, by rw [cell_of_row w _ 2 _ _ _ h]; rfl, by rw [cell_of_row w _ 3 _ _ _ h]; rfl, by rw [cell_of_row w _ 4 _ _ _ h]; rfl, by rw [cell_of_row w _ 5 _ _ _ h]; rfl⟩
set_option maxHeartbeats 6400000 in
theorem oline_any (o : Op6) (w : World) (hD : -9223372036854775808 ≤ o.D ∧ o.D ≤ 9223372036854775807) (hA : -9223372036854775808 ≤ o.A ∧ o.A ≤ 9223372036854775807) (hB : -9223372036854775808 ≤ o.B ∧ o.B ≤ 9223372036854775807) (hE : -9223372036854775808 ≤ o.E ∧ o.E ≤ 9223372036854775807) (hC : o.C < 18446744073709551616) (htab : TabB w.heap.size w) :
    Calls Tryd.prog 13 #[opW o] w fun e w' => e = .returned (.string (sB (lnL o))) ∧ Below w.heap.size w w' := by
  have HBox : Hid (∀ w', Below (w.alloc (.cells #[.int .i64 o.K, .int .i64 o.D, .int .i64 o.A, .int .i64 o.B, .int .i64 o.E, .int .u64 (o.C : Int)] 24)).heap.size (w.alloc (.cells #[.int .i64 o.K, .int .i64 o.D, .int .i64 o.A, .int .i64 o.B, .int .i64 o.E, .int .u64 (o.C : Int)] 24)) w' → w'.heap[w.heap.size]? = some (.cells #[.int .i64 o.K, .int .i64 o.D, .int .i64 o.A, .int .i64 o.B, .int .i64 o.E, .int .u64 (o.C : Int)] 24 (0, 0)) ∧ Below w.heap.size w w') := hid (fun w' hb => ⟨(hb.block _ (by simp)).trans (heap_alloc_new w _), ((Below.refl _ _).alloc (Nat.le_refl _) _).trans (hb.mono (by simp))⟩)
  obtain ⟨s0, hs0⟩ : ∃ s0, nmB o.K = s0 := ⟨_, rfl⟩
  have HN := hid (fun w => oname_any o.K w)
  rw [hs0] at HN
  have hsz : s0.size = (knL o.K).length := by rw [← hs0, nm_kn, sB_size]
  have hsl : s0.data.toList = knL o.K := by rw [← hs0, nm_kn, sB_list]
  have hkl := knL_len o.K
  have HOb : Hid (∀ w : World, Ob w.heap.size 5 (bytesWorld w 5 s0) (.slice (some ⟨w.heap.size, 0, none⟩) s0.size (grownCap w s0.size 0 5)) (knL o.K)) := hid (fun w => by rw [← hsl]; exact ob_bytes 5 w s0 (by omega))
  have hb4 := el4_b o hD hA hB hE
  have HLn := hid (ln4_len o hb4)
  have HX := hid (fun j hj w => el4_index o j hj w)
  have HQ := hid hb4
  have HT := hid htab
  have HCv := hid (fun (w : World) => Lib.run_convert_string_bytes (P := Tryd.prog) w 9 52 5 s0 Tryd.underlying9 Tryd.underlying52 Tryd.underlying5)
  have HEnd := hid (ln4_end o)
  have HC := hid hC
  clear hb4 htab hD hA hB hE hC hsz hsl hkl hs0
  go_enter Tryd.func13, Tryd.ntmps13
  go_wp2_with (go_at_call 7; (with_reducible refine (HN.out _).mono ?_); rintro e w1 ⟨rfl, h1⟩; have hcv := HCv.out w1; have HO1 := hid (HOb.out w1); have H2 := hid (h1.trans ((bytesWorld_below w1 5 s0).mono h1.size)); have HN1 := hid h1.size; have HS2 := hid (bytesWorld_size w1 5 s0); clear h1; generalize bytesWorld w1 5 s0 = w2 at *; generalize grownCap w1 s0.size 0 5 = cp at *; generalize w1.heap.size = N1 at *; refine Hid.out ?_)
  refine hid ?_
  obtain ⟨c1, c2, c3, c4, _⟩ := box6 (HBox.out w2 H2.out).1
  go_wp2
  clear c1 c2 c3 c4
  go_loopw [3, 19] (fun v i wr => ∃ j : Nat, j ≤ 4 ∧ i = .int .i64 j ∧ Ob N1 5 wr v (ln4 o j) ∧ Below N1 w2 wr) (fun _ i _ => 4 - (RowKit.intOf i).toNat)
  case atStart => exact ⟨0, by omega, rfl, HO1.out, Below.refl _ _⟩
  case round =>
    obtain ⟨j, hj, rfl, ho, hb⟩ := hrel
    have HO := hid ho
    have HB := hid hb
    have HNw : Hid (N1 ≤ wr.heap.size) := hid (by have := hb.size; have := HS2.out; omega)
    have HTr : Hid (TabB N1 wr) := hid ((HT.out.on (HBox.out w2 H2.out).2 |>.mono (by have := HN1.out; simp at this; omega)).on hb)
    have hlen := HLn.out j
    clear ho hb
    by_cases hlt : j < 4
    · have hidx := HX.out j hlt
      have j1 : (0 : Int) ≤ (j : Int) := by omega
      have j2 : (j : Int) < 4 := by omega
      have HS : Hid (ln4 o (j + 1) = ln4 o j ++ [32] ++ itoa (el4 o j)) := hid rfl
      have hq := HQ.out j
      generalize el4 o j = z at *
      have HL1 : Hid ((ln4 o j).length + (⟨#[32]⟩ : ByteArray).size ≤ 140737488355328) := hid (by show _ + 1 ≤ _; omega)
      have HL2 : Hid ((ln4 o j ++ [32]).length ≤ 900000) := hid (by rw [List.length_append, List.length_singleton]; omega)
      have HA : Hid (∀ v' w', Ob N1 5 w' v' (ln4 o j ++ [32]) → Below N1 wr w' → Calls Tryd.prog 24 #[v', .int .i64 z, .int .i64 10] w' fun e w2 => ∃ v2, e = .returned v2 ∧ Ob N1 5 w2 v2 (ln4 o j ++ [32] ++ itoa z) ∧ Below N1 w' w2) := hid (fun v' w' ho hb => sint_any N1 z hq.1 hq.2 v' _ w' ho (Nat.le_trans HNw.out hb.size) HL2.out (HTr.out.on hb))
      clear hq hlen
      go_wp2_with (first
        | (at_builtin; refine wpList_ob_string rfl _ _ 52 9 rfl rfl HO.out Tryd.underlying52 Tryd.underlying9 ob_info5 ⟨#[32]⟩ rfl HL1.out HNw.out ?_; intro v' w' ho hg; have HO' := hid ho; have HB' := hid (below_grown HO.out HNw.out hg); clear ho hg)
        | (go_at_call 24; (with_reducible refine (HA.out _ _ HO'.out HB'.out).mono ?_); rintro e w3 ⟨v3, rfl, ho, hb⟩; have HO3 := hid ho; have HB3 := hid ((HB.out.trans HB'.out).trans hb); clear ho hb))
      go_roundw
      case rel => exact ⟨j + 1, by omega, by go_num, by rw [HS.out]; exact HO3.out, HB3.out⟩
      case measure => simp [RowKit.intOf]; omega
    · obtain rfl : j = 4 := by omega
      have HL1 : Hid ((ln4 o 4).length + (⟨#[32]⟩ : ByteArray).size ≤ 140737488355328) := hid (by show _ + 1 ≤ _; omega)
      have HL2 : Hid ((ln4 o 4 ++ [32]).length ≤ 1000000) := hid (by rw [List.length_append, List.length_singleton]; omega)
      have HA : Hid (∀ v' w', Ob N1 5 w' v' (ln4 o 4 ++ [32]) → Below N1 wr w' → Calls Tryd.prog 25 #[v', .int .u64 (o.C : Int), .int .i64 10] w' fun e w2 => ∃ v2, e = .returned v2 ∧ Ob N1 5 w2 v2 (ln4 o 4 ++ [32] ++ decDigits o.C) ∧ Below N1 w' w2) := hid (fun v' w' ho hb => suint_any N1 o.C HC.out v' _ w' ho (Nat.le_trans HNw.out hb.size) HL2.out (HTr.out.on hb))
      have HAll : Hid (∀ w', Below N1 wr w' → (w'.cell? ⟨w.heap.size, 5, none⟩ = some (.int .u64 (o.C : Int))) ∧ Below w.heap.size w w') := hid (fun w' hb => by
        have h1 := HN1.out
        have h0 : Below (w.alloc (.cells #[.int .i64 o.K, .int .i64 o.D, .int .i64 o.A, .int .i64 o.B, .int .i64 o.E, .int .u64 (o.C : Int)] 24)).heap.size (w.alloc (.cells #[.int .i64 o.K, .int .i64 o.D, .int .i64 o.A, .int .i64 o.B, .int .i64 o.E, .int .u64 (o.C : Int)] 24)) w' := H2.out.trans ((HB.out.trans hb).mono h1)
        exact ⟨(box6 (HBox.out w' h0).1).2.2.2.2, (HBox.out w' h0).2⟩)
      have HCs := hid (fun w' v' (h : Ob N1 5 w' v' (ln4 o 4 ++ [32] ++ decDigits o.C)) => run_ob_conv (P := Tryd.prog) h 52 9 Tryd.underlying52 Tryd.underlying5 Tryd.underlying9)
      clear hlen hlt hj
      go_wp2_with (first
        | (at_builtin; refine wpList_ob_string rfl _ _ 52 9 rfl rfl HO.out Tryd.underlying52 Tryd.underlying9 ob_info5 ⟨#[32]⟩ rfl HL1.out HNw.out ?_; intro v' w' ho hg; have HO' := hid ho; have HB' := hid (below_grown HO.out HNw.out hg); have c5 := (HAll.out w' HB'.out).1; clear ho hg)
        | (go_at_call 25; (with_reducible refine (HA.out _ _ HO'.out HB'.out).mono ?_); rintro e w3 ⟨v3, rfl, ho, hb⟩; have HB3 := hid (HAll.out w3 (HB'.out.trans hb)).2; have hcs := HCs.out w3 v3 ho; clear ho hb))
      go_ret
      exact ⟨congrArg (fun l => Ending.returned (.string (sB l))) HEnd.out, HB3.out⟩
end Go.Proofs.YthfgpjebmhbedaaDoor
