import Derived.Test.YtmggmjilgjogfaaProg
import Derived.Test.YtmggmjilgjogfaaArr
import Derived.Test.YtmggmjilgjogfaaBms
namespace Go.Proofs.Ytmggmjilgjogfaa
open Go.RowKit

theorem info23 : (Try.prog.info? 25).map (·.size) = some 8 := by kernel_rfl
theorem info22 : (Try.prog.info? 24).map (·.size) = some 8 := by kernel_rfl
theorem info5 : (Try.prog.info? 5).map (·.size) = some 1 := by kernel_rfl
abbrev M (w : World) (b : Nat) (f : Nat → Nat) : Prop := At w b 8 25 f
theorem M.load {w : World} {b : Nat} {f : Nat → Nat} (h : M w b f) : (loadVar 25 ⟨b, 0, none⟩).run Try.prog w = .ok (.agg (ba 8 f)) w := At.load h 25 Try.underlying25 info23
theorem M.store {w : World} {b : Nat} {f : Nat → Nat} (h : M w b f) (g : Nat → Nat) : (storeVar 25 ⟨b, 0, none⟩ (.agg (ba 8 g))).run Try.prog w = .ok () (w.setRow b (ba 8 g)) := At.store h 25 g info23
theorem idx (f : Nat → Nat) {j : Nat} (hj : j < 8) (w : World) : (Instr.index 25 (.agg (ba 8 f)) (.int .i64 (j : Int))).run Try.prog w = .ok (.int .u8 (f j : Int)) w := run_index_ba w 25 5 8 f j Try.underlying25 Try.underlying5 info5 hj
theorem sh8 {j : Nat} (hj : j < 8) : (2 : Int) ^ j % 256 = ((2 ^ j : Nat) : Int) := by
  have : ∀ j < 8, (2 : Int) ^ j % 256 = ((2 ^ j : Nat) : Int) := by decide +kernel
  exact this j hj


def oneTo (j : Nat) : Nat → Nat := fun i => if i < j then 2 ^ i else 0
structure OneInv (w wr : World) (j : Nat) : Prop where
  le : j ≤ 8
  out : M wr w.heap.size (fun _ => 0)
  at_ : M wr (w.heap.size + 1) (oneTo j)
  low : Below w.heap.size w wr
theorem OneInv.start (w : World) : OneInv w ((w.alloc (.cells (ba 8 (fun _ => 0)) 25)).alloc (.cells (ba 8 (fun _ => 0)) 25)) 0 := by
  refine ⟨by omega, ?_, ?_, ?_⟩
  · exact At.alloc (At.new w 8 25 (fun _ => 0)) _
  · have := At.new (w.alloc (.cells (ba 8 (fun _ => 0)) 25)) 8 25 (fun _ => 0)
    rw [World.size_alloc] at this
    exact this
  · exact ((Below.refl _ _).alloc (Nat.le_refl _) _).alloc (by simp) _
theorem OneInv.step {w wr : World} {j : Nat} (h : OneInv w wr j) (hj : j < 8) : OneInv w (wr.setCell ⟨w.heap.size + 1, j, none⟩ (.int .u8 (2 ^ j % 256))) (j + 1) := by
  rw [sh8 hj]
  refine ⟨hj, h.out.apart (by simp) _, (h.at_.set j (2 ^ j)).ext (fun i _ => ?_), h.low.setCell (by simp) _⟩
  unfold upd oneTo
  by_cases e : i = j
  · subst e; simp
  · rw [if_neg e]
    by_cases h1 : i < j
    · rw [if_pos h1, if_pos (by omega)]
    · rw [if_neg h1, if_neg (by omega)]

set_option maxHeartbeats 400000 in
theorem one_any (w : World) :
    Calls Try.prog 34 #[] w fun e w' => e = .returned (.agg (ba 8 one)) ∧ Below w.heap.size w w' := by
  go_enter Try.func34, Try.ntmps34
  go_wp2
  go_loopw [3] (fun i wr => ∃ j : Nat, i = .int .i64 j ∧ OneInv w wr j) (fun i _ => 8 - (intOf i).toNat)
  case atStart => exact ⟨0, rfl, OneInv.start w⟩
  case round =>
    obtain ⟨j, rfl, hI⟩ := hrel
    have hj := hI.le
    have HI := hid hI
    clear hI
    by_cases hlt : j < 8
    · have hc := HI.out.at_.cell hlt
      have hf := HI.out.at_.free j
      go_wp2
      go_roundw
      case rel => exact ⟨j + 1, by go_num, HI.out.step hlt⟩
      case measure => simp [intOf]; omega
    · obtain rfl : j = 8 := by omega
      have HM := hid HI.out.at_
      have HN := hid HI.out.out
      go_wp2_with (first
        | (refine step_load_ba rfl 25 _ rfl (w.heap.size + 1) 8 25 5 _ rfl HM.out Try.underlying25 info23 ?_)
        | (refine step_store_ba rfl 25 _ _ rfl w.heap.size 8 25 _ _ rfl rfl HN.out info23 ?_))
      refine ret_ba rfl rfl Try.underlying25 info23 rfl (HI.out.out.row (oneTo 8)) ⟨?_, below_setRow HI.out.low (Nat.le_refl _) _⟩
      rw [ba_ext (fun i hi => show oneTo 8 i = one i from if_pos hi)]
end Go.Proofs.Ytmggmjilgjogfaa
