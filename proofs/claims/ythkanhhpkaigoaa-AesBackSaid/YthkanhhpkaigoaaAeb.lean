import Derived.Test.YthkanhhpkaigoaaProg
import Derived.Test.YthkanhhpkaigoaaAea
namespace Go.Proofs.Ythkanhhpkaigoaa
open Go.RowKit

set_option maxRecDepth 100000 in
set_option maxHeartbeats 1600000 in
theorem columns_any16 (f : Nat → Nat) (w : World) (h : B16 f) : Calls Try.prog 7 #[.agg (ba 16 f)] w fun e w' => e = .returned (.agg (ba 16 (mxC f))) ∧ Below w.heap.size w w' := by
  have HS := hid (Tri.start w f)
  have HF := hid h
  clear h
  go_enter Try.func7, Try.ntmps7
  go_wp2_with (refine step_load_ba rfl 23 _ rfl w.heap.size 16 23 5 f rfl HS.out.arg Try.underlying23 infoa ?_)
  go_loopw [8] (fun i wr => ∃ j : Nat, j ≤ 16 ∧ i = .int .i64 j ∧ Tri w wr f (upF (mxC f) j)) (fun i _ => 16 - (intOf i).toNat)
  case atStart => exact ⟨0, by omega, rfl, HS.out.ext (upF_zero _)⟩
  case round =>
    obtain ⟨j, hj, rfl, hI⟩ := hrel
    have HI := hid hI
    clear hI
    by_cases hlt : j < 16
    · have hi := idxa f hlt
      have H1 : Hid (∀ w, Calls Try.prog 23 #[.int .i64 (j : Int), .int .i64 1] w fun e w' => e = .returned (.int .i64 (nb j 1 : Nat)) ∧ w' = w) := hid (fun w => below_any j 1 w hlt (by decide))
      have H2 : Hid (∀ w, Calls Try.prog 23 #[.int .i64 (j : Int), .int .i64 2] w fun e w' => e = .returned (.int .i64 (nb j 2 : Nat)) ∧ w' = w) := hid (fun w => below_any j 2 w hlt (by decide))
      have H3 : Hid (∀ w, Calls Try.prog 23 #[.int .i64 (j : Int), .int .i64 3] w fun e w' => e = .returned (.int .i64 (nb j 3 : Nat)) ∧ w' = w) := hid (fun w => below_any j 3 w hlt (by decide))
      have m1 := nb_lt hlt 1
      have m2 := nb_lt hlt 2
      have m3 := nb_lt hlt 3
      have HT := hid (fun z => HI.out.drew.set j z)
      have HE := hid (fun (z : Nat) (hz : mxC f j = z) => upF_step (mxC f) hz)
      have hc1 := HI.out.arg.cell m1
      have hd1 := HI.out.drew.arg.cell m1
      have hd2 := HI.out.drew.arg.cell m2
      have hd3 := HI.out.drew.arg.cell m3
      have hd := HI.out.drew.var.cell hlt
      have hf := HI.out.drew.var.free j
      have HV : Hid (mxC f j = tw (f j ^^^ f (nb j 1)) ^^^ f (nb j 1) ^^^ f (nb j 2) ^^^ f (nb j 3)) := hid rfl
      have lx := HF.out j hlt
      have l1 := HF.out _ m1
      have l2 := HF.out _ m2
      have l3 := HF.out _ m3
      generalize nb j 1 = a1 at *
      generalize nb j 2 = a2 at *
      generalize nb j 3 = a3 at *
      generalize upF (mxC f) j = g at *
      generalize f j = x at *
      generalize f a1 = x1 at *
      generalize f a2 = x2 at *
      generalize f a3 = x3 at *
      have HTW : Hid (∀ w, Calls Try.prog 24 #[.int .u8 (bits .xor .u8 (x : Int) (x1 : Int))] w fun e w' => e = .returned (.int .u8 (tw (x ^^^ x1) : Nat)) ∧ w' = w) :=
        hid (fun w => by have := twice_any (x ^^^ x1) w (xor_lt lx l1); rw [← xor8 lx l1] at this; exact this)
      have lt' := tw_lt (xor_lt lx l1)
      have HR : Hid (bits .xor .u8 (bits .xor .u8 (bits .xor .u8 ((tw (x ^^^ x1) : Nat) : Int) (x1 : Int)) (x2 : Int)) (x3 : Int) = ((tw (x ^^^ x1) ^^^ x1 ^^^ x2 ^^^ x3 : Nat) : Int)) :=
        hid (by rw [xor8 lt' l1, xor8 (xor_lt lt' l1) l2, xor8 (xor_lt (xor_lt lt' l1) l2) l3])
      generalize tw (x ^^^ x1) = t at *
      clear lx l1 l2 l3 lt'
      have b2 : (a2 : Int) < 16 := by omega
      have b3 : (a3 : Int) < 16 := by omega
      have b2' : (0 : Int) ≤ (a2 : Int) := by omega
      have b3' : (0 : Int) ≤ (a3 : Int) := by omega
      go_wp2_with (first | (go_at_call 23; (with_reducible refine (H1.out _).mono ?_); rintro e w1 ⟨rfl, rfl⟩))
      refine region_tail 18 (by kernel_rfl) (by kernel_rfl) ?_
      simp only [List.take_succ_cons, List.take_zero, List.drop_succ_cons, List.drop_zero]
      generalize w1.drew = w2 at *
      repeat still_step
      still_call (HTW.out _)
      repeat still_step
      still_call (H2.out _)
      repeat still_step
      still_call (H3.out _)
      repeat still_step
      refine wpStill_nil ?_
      go_wp2
      go_roundw
      case rel => exact ⟨j + 1, by omega, by go_num, by rw [HR.out]; exact (HT.out _).ext (HE.out _ HV.out)⟩
      case measure => simp [intOf]; omega
    · obtain rfl : j = 16 := by omega
      have HD := hid (HI.out.ext (upF_all _))
      go_wp2_with (first
        | (refine step_load_ba rfl 23 _ rfl (w.heap.size + 2) 16 23 5 _ rfl HD.out.var Try.underlying23 infoa ?_)
        | (refine step_store_ba rfl 23 _ _ rfl (w.heap.size + 1) 16 23 (fun _ => 0) _ rfl rfl HD.out.out infoa ?_))
      exact ret_ba rfl rfl Try.underlying23 infoa rfl (HD.out.done _).1 ⟨rfl, (HD.out.done _).2⟩
end Go.Proofs.Ythkanhhpkaigoaa
