import Derived.Test.YtfgbcohmbbjagaaKcc
namespace Go.Proofs.Ytfgbcohmbbjagaa
open Go.RowKit

/-! ### sums of columns -/
structure SInv (f : Nat → Nat) (w wr : World) (j : Nat) : Prop where
  src : Aw wr w.heap.size 25 23 f
  out : Aw wr (w.heap.size + 1) 5 39 (fun _ => 0)
  var : Aw wr (w.heap.size + 2) 5 39 (suN f j)
  low : Below w.heap.size w wr
theorem SInv.start (f : Nat → Nat) (w : World) : SInv f w (((w.alloc (.cells (wa 25 f) 23)).alloc (.cells (wa 5 (fun _ => 0)) 39)).alloc (.cells (wa 5 (fun _ => 0)) 39)) 0 := by
  refine ⟨((Aw.new w 25 23 f).alloc _).alloc _, ?_, ?_, (((Below.refl _ _).alloc (Nat.le_refl _) _).alloc (by simp) _).alloc (by simp; omega) _⟩
  · have := (Aw.new (w.alloc (.cells (wa 25 f) 23)) 5 39 (fun _ => 0)).alloc (.cells (wa 5 (fun _ => 0)) 39)
    rw [World.size_alloc] at this
    exact this
  · have := Aw.new ((w.alloc (.cells (wa 25 f) 23)).alloc (.cells (wa 5 (fun _ => 0)) 39)) 5 39 (fun _ => 0)
    rw [World.size_alloc, World.size_alloc] at this
    exact this
theorem SInv.step {f : Nat → Nat} {w wr : World} {j : Nat} (h : SInv f w wr j) : SInv f w (wr.setCell ⟨w.heap.size + 2, j % 5, none⟩ (.int .u64 ((suN f j (j % 5) ^^^ f j : Nat) : Int))) (j + 1) :=
  ⟨h.src.apart (by simp) _, h.out.apart (by simp) _, h.var.set (j % 5) _, h.low.setCell (by simp) _⟩

set_option maxRecDepth 100000 in
set_option maxHeartbeats 800000 in
theorem sums_any (f : Nat → Nat) (w : World) (hf : W25 f) :
    Calls Try.prog 34 #[.agg (wa 25 f)] w fun e w' => e = .returned (.agg (wa 5 (co f))) ∧ Below w.heap.size w w' := by
  have HS := hid (SInv.start f w)
  have HA := hid ((Aw.new w 25 23 f).alloc (.cells (wa 5 (fun _ => 0)) 39))
  have HF := hid hf
  have HU := hid (fun j h x => suN_lt hf j h x)
  clear hf
  go_enter Try.func34, Try.ntmps34
  go_wp2_with (first
    | (refine step_load_wa rfl 23 _ rfl w.heap.size 25 23 22 f rfl HS.out.src Try.underlying23 info23 ?_))
  go_loopw [7] (fun i wr => ∃ j : Nat, j ≤ 25 ∧ i = .int .i64 j ∧ SInv f w wr j) (fun i _ => 25 - (intOf i).toNat)
  case atStart => exact ⟨0, by omega, rfl, HS.out⟩
  case round =>
    obtain ⟨j, hj, rfl, hI⟩ := hrel
    have HI := hid hI
    clear hI
    by_cases hlt : j < 25
    · have hi := fun w => idx23 f hlt w
      have hc := HI.out.var.cell (j := j % 5) (Nat.mod_lt _ (by decide))
      have hfr := HI.out.var.free (j % 5)
      have hx := x64 (HU.out j (by omega) (j % 5)) (HF.out j hlt)
      have HT := hid HI.out.step
      generalize suN f j (j % 5) = s at *
      generalize f j = q at *
      obtain ⟨m, hm⟩ : ∃ m, j % 5 = m := ⟨_, rfl⟩
      rw [hm] at hc hfr HT
      have hm5 : m < 5 := by omega
      have hmm : (j : Int) % 5 = (m : Int) := by omega
      clear hm
      go_wp2
      go_roundw
      case rel => exact ⟨j + 1, by omega, by go_num, HT.out⟩
      case measure => simp [intOf]; omega
    · obtain rfl : j = 25 := by omega
      have HM := hid HI.out.var
      have HN := hid HI.out.out
      go_wp2_with (first
        | (refine step_load_wa rfl 39 _ rfl (w.heap.size + 2) 5 39 22 _ rfl HM.out Try.underlying39 info39 ?_)
        | (refine step_store_wa rfl 39 _ _ rfl (w.heap.size + 1) 5 39 _ _ rfl rfl HN.out info39 ?_))
      refine ret_wa rfl rfl Try.underlying39 info39 rfl (HI.out.out.row (suN f 25)) ⟨?_, below_setRow HI.out.low (by omega) _⟩
      rw [wa_ext (suN_all f)]
end Go.Proofs.Ytfgbcohmbbjagaa
