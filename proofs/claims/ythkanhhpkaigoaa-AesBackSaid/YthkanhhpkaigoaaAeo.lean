import Derived.Test.YthkanhhpkaigoaaProg
import Derived.Test.YthkanhhpkaigoaaAel
namespace Go.Proofs.Ythkanhhpkaigoaa
open Go.RowKit

set_option maxRecDepth 100000 in
set_option maxHeartbeats 800000 in
theorem refadd_any (f k : Nat → Nat) (g o c : Nat) (w : World) (hf : B16 f) (hk : Wd w 16 g o k) :
    Calls Try.prog 20 #[.agg (ba 16 f), .slice (some ⟨g, o, none⟩) 16 c] w fun e w' => e = .returned (.agg (ba 16 (addF f k))) ∧ Below w.heap.size w w' := by
  have HS := hid (Var.start1 w f)
  have HF := hid hf
  have HK := hid hk
  clear hf hk
  go_enter Try.func20, Try.ntmps20
  go_wp2
  go_loopw [5] (fun i wr => ∃ j : Nat, j ≤ 16 ∧ i = .int .i64 j ∧ Var 1 w wr (mkTo (addF f k) f j)) (fun i _ => 16 - (intOf i).toNat)
  case atStart => exact ⟨0, by omega, rfl, HS.out.ext (mkTo_zero _ _)⟩
  case round =>
    obtain ⟨j, hj, rfl, hI⟩ := hrel
    have HI := hid hI
    clear hI
    by_cases hlt : j < 16
    · have HT := hid (fun z => HI.out.drew.set (by decide) j z)
      have HE := hid (fun (z : Nat) (hz : addF f k j = z) => mkTo_step (addF f k) f hz)
      have hc := HI.out.drew.var.cell hlt
      rw [mkTo_at] at hc
      have hfz := HI.out.drew.var.free j
      have hk1 := (HK.out.self HI.out.drew.low).cell j hlt
      have HX := hid (xor8 (HF.out j hlt) (HK.out.byte j hlt))
      have HV : Hid (addF f k j = f j ^^^ k j) := hid rfl
      have j0 : (0 : Int) ≤ (j : Int) := by omega
      have j1 : (j : Int) < 16 := by omega
      generalize mkTo (addF f k) f j = G at *
      generalize f j = x at *
      generalize k j = y at *
      go_wp2
      refine region_tail 10 (by kernel_rfl) (by kernel_rfl) ?_
      simp only [List.take_succ_cons, List.take_zero, List.drop_succ_cons, List.drop_zero]
      generalize wr.drew = w2 at *
      repeat still_step
      refine wpStill_nil ?_
      go_wp2
      go_roundw
      case rel => exact ⟨j + 1, by omega, by go_num, by rw [HX.out]; exact (HT.out _).ext (HE.out _ HV.out)⟩
      case measure => simp [intOf]; omega
    · obtain rfl : j = 16 := by omega
      have HD := hid (HI.out.ext (mkTo_all _ _))
      go_wp2_with (first
        | (refine step_load_ba rfl 23 _ rfl w.heap.size 16 23 5 _ rfl HD.out.var Try.underlying23 infoa ?_)
        | (refine step_store_ba rfl 23 _ _ rfl (w.heap.size + 1) 16 23 (fun _ => 0) _ rfl rfl HD.out.out infoa ?_))
      exact ret_ba rfl rfl Try.underlying23 infoa rfl (HD.out.done _).1 ⟨rfl, (HD.out.done _).2⟩

set_option maxRecDepth 100000 in
set_option maxHeartbeats 800000 in
theorem refsub16_any (f : Nat → Nat) (w : World) (hf : B16 f) : Calls Try.prog 34 #[.agg (ba 16 f)] w fun e w' => e = .returned (.agg (ba 16 (subF f))) ∧ Below w.heap.size w w' := by
  have HS := hid (Var.start1 w f)
  have HF := hid hf
  clear hf
  go_enter Try.func34, Try.ntmps34
  go_wp2
  go_loopw [3] (fun i wr => ∃ j : Nat, j ≤ 16 ∧ i = .int .i64 j ∧ Var 1 w wr (mkTo (subF f) f j)) (fun i _ => 16 - (intOf i).toNat)
  case atStart => exact ⟨0, by omega, rfl, HS.out.ext (mkTo_zero _ _)⟩
  case round =>
    obtain ⟨j, hj, rfl, hI⟩ := hrel
    have HI := hid hI
    clear hI
    by_cases hlt : j < 16
    · have HT := hid (fun z => HI.out.set (by decide) j z)
      have HE := hid (fun (z : Nat) (hz : subF f j = z) => mkTo_step (subF f) f hz)
      have hc := HI.out.var.cell hlt
      rw [mkTo_at] at hc
      have hfz := HI.out.var.free j
      have HV : Hid (subF f j = sb (f j)) := hid rfl
      have HC := hid (fun w => refsub_any (f j) w (HF.out j hlt))
      generalize mkTo (subF f) f j = G at *
      generalize sb (f j) = z at *
      generalize f j = x at *
      go_wp2_with (first | (go_at_call 45; (with_reducible refine (HC.out _).mono ?_); rintro e w1 ⟨rfl, rfl⟩))
      go_roundw
      case rel => exact ⟨j + 1, by omega, by go_num, (HT.out _).ext (HE.out _ HV.out)⟩
      case measure => simp [intOf]; omega
    · obtain rfl : j = 16 := by omega
      have HD := hid (HI.out.ext (mkTo_all _ _))
      go_wp2_with (first
        | (refine step_load_ba rfl 23 _ rfl w.heap.size 16 23 5 _ rfl HD.out.var Try.underlying23 infoa ?_)
        | (refine step_store_ba rfl 23 _ _ rfl (w.heap.size + 1) 16 23 (fun _ => 0) _ rfl rfl HD.out.out infoa ?_))
      exact ret_ba rfl rfl Try.underlying23 infoa rfl (HD.out.done _).1 ⟨rfl, (HD.out.done _).2⟩

set_option maxRecDepth 100000 in
set_option maxHeartbeats 800000 in
theorem refback16_any (f : Nat → Nat) (w : World) (hf : B16 f) : Calls Try.prog 35 #[.agg (ba 16 f)] w fun e w' => e = .returned (.agg (ba 16 (unsF f))) ∧ Below w.heap.size w w' := by
  have HS := hid (Var.start1 w f)
  have HF := hid hf
  clear hf
  go_enter Try.func35, Try.ntmps35
  go_wp2
  go_loopw [3] (fun i wr => ∃ j : Nat, j ≤ 16 ∧ i = .int .i64 j ∧ Var 1 w wr (mkTo (unsF f) f j)) (fun i _ => 16 - (intOf i).toNat)
  case atStart => exact ⟨0, by omega, rfl, HS.out.ext (mkTo_zero _ _)⟩
  case round =>
    obtain ⟨j, hj, rfl, hI⟩ := hrel
    have HI := hid hI
    clear hI
    by_cases hlt : j < 16
    · have HT := hid (fun z => HI.out.set (by decide) j z)
      have HE := hid (fun (z : Nat) (hz : unsF f j = z) => mkTo_step (unsF f) f hz)
      have hc := HI.out.var.cell hlt
      rw [mkTo_at] at hc
      have hfz := HI.out.var.free j
      have HV : Hid (unsF f j = bk (f j)) := hid rfl
      have HC := hid (fun w => refback_any (f j) w (HF.out j hlt))
      generalize mkTo (unsF f) f j = G at *
      generalize bk (f j) = z at *
      generalize f j = x at *
      go_wp2_with (first | (go_at_call 46; (with_reducible refine (HC.out _).mono ?_); rintro e w1 ⟨rfl, rfl⟩))
      go_roundw
      case rel => exact ⟨j + 1, by omega, by go_num, (HT.out _).ext (HE.out _ HV.out)⟩
      case measure => simp [intOf]; omega
    · obtain rfl : j = 16 := by omega
      have HD := hid (HI.out.ext (mkTo_all _ _))
      go_wp2_with (first
        | (refine step_load_ba rfl 23 _ rfl w.heap.size 16 23 5 _ rfl HD.out.var Try.underlying23 infoa ?_)
        | (refine step_store_ba rfl 23 _ _ rfl (w.heap.size + 1) 16 23 (fun _ => 0) _ rfl rfl HD.out.out infoa ?_))
      exact ret_ba rfl rfl Try.underlying23 infoa rfl (HD.out.done _).1 ⟨rfl, (HD.out.done _).2⟩
end Go.Proofs.Ythkanhhpkaigoaa
