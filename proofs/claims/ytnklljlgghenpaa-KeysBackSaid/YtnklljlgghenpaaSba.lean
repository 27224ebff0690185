import Derived.Test.YtnklljlgghenpaaProg
import Derived.Test.YtnklljlgghenpaaMa8
import Derived.Test.YtnklljlgghenpaaGfc
namespace Go.Proofs.Ytnklljlgghenpaa
open Go.RowKit

/-- The bend's rows. -/
def bend (i : Nat) : Nat := 241 * 2 ^ i % 256 + 241 / 2 ^ (8 - i)
theorem bend_by : By bend := by unfold By; decide
theorem bend_rk : rk bend = 8 := by decide +kernel

theorem rot_any (j : Nat) (w : World) (hj : j < 8) :
    Calls Try.prog 40 #[.int .u8 241, .int .i64 (j : Int)] w fun e w' => e = .returned (.int .u8 (bend j : Nat)) ∧ w' = w := by
  have a0 : bits .and .u64 0 7 = 0 := by decide
  have a1 : bits .and .u64 1 7 = 1 := by decide
  have a2 : bits .and .u64 2 7 = 2 := by decide
  have a3 : bits .and .u64 3 7 = 3 := by decide
  have a4 : bits .and .u64 4 7 = 4 := by decide
  have a5 : bits .and .u64 5 7 = 5 := by decide
  have a6 : bits .and .u64 6 7 = 6 := by decide
  have a7 : bits .and .u64 7 7 = 7 := by decide
  obtain h | h | h | h | h | h | h | h : j = 0 ∨ j = 1 ∨ j = 2 ∨ j = 3 ∨ j = 4 ∨ j = 5 ∨ j = 6 ∨ j = 7 := by omega
  all_goals
    subst h
    go_enter Try.func40, Try.ntmps40
    go_wp2
    go_ret
    refine ⟨?_, rfl⟩
    kernel_rfl

structure BInv (w wr : World) (j : Nat) : Prop where
  out : At wr w.heap.size 8 68 (fun _ => 0)
  var : At wr (w.heap.size + 1) 8 68 (upTo bend j)
  low : Below w.heap.size w wr
theorem BInv.step {w wr : World} {j : Nat} (h : BInv w wr j) : BInv w (wr.setCell ⟨w.heap.size + 1, j, none⟩ (.int .u8 (bend j : Nat))) (j + 1) := by
  refine ⟨h.out.apart (by simp) _, (h.var.set j (bend j)).ext (fun i _ => ?_), h.low.setCell (by simp) _⟩
  unfold upd upTo
  by_cases e : i = j
  · subst e; simp
  · rw [if_neg e]
    by_cases h1 : i < j
    · rw [if_pos h1, if_pos (by omega)]
    · rw [if_neg h1, if_neg (by omega)]
theorem BInv.start (w : World) : BInv w ((w.alloc (.cells (ba 8 (fun _ => 0)) 68)).alloc (.cells (ba 8 (fun _ => 0)) 68)) 0 := by
  refine ⟨(At.new w 8 68 (fun _ => 0)).alloc _, ?_, ((Below.refl _ _).alloc (Nat.le_refl _) _).alloc (by simp) _⟩
  have := At.new (w.alloc (.cells (ba 8 (fun _ => 0)) 68)) 8 68 (fun _ => 0)
  rw [World.size_alloc] at this
  exact this.ext (fun i _ => (if_neg (by omega)).symm)

theorem bend_any (w : World) :
    Calls Try.prog 35 #[] w fun e w' => e = .returned (.agg (ba 8 bend)) ∧ Below w.heap.size w w' := by
  have HS := hid (BInv.start w)
  go_enter Try.func35, Try.ntmps35
  go_wp2
  go_loopw [3] (fun i wr => ∃ j : Nat, j ≤ 8 ∧ i = .int .i64 j ∧ BInv w wr j) (fun i _ => 8 - (intOf i).toNat)
  case atStart => exact ⟨0, by omega, rfl, HS.out⟩
  case round =>
    obtain ⟨j, hj, rfl, hI⟩ := hrel
    have HI := hid hI
    clear hI
    by_cases hlt : j < 8
    · have hf := HI.out.var.free j
      have hc := HI.out.var.cell hlt
      have RR := hid (fun w => rot_any j w hlt)
      have HT := hid HI.out.step
      generalize upTo bend j j = x0 at hc
      generalize bend j = x at RR HT
      go_wp2_with (first | (go_at_call 40; (with_reducible refine (RR.out _).mono ?_); rintro e w1 ⟨rfl, rfl⟩))
      go_roundw
      case rel => exact ⟨j + 1, by omega, by go_num, HT.out⟩
      case measure => simp [intOf]; omega
    · obtain rfl : j = 8 := by omega
      have HM := hid HI.out.var
      have HN := hid HI.out.out
      go_wp2_with (first
        | (refine step_load_ba rfl 68 _ rfl (w.heap.size + 1) 8 68 5 _ rfl HM.out Try.underlying68 info23 ?_)
        | (refine step_store_ba rfl 68 _ _ rfl w.heap.size 8 68 _ _ rfl rfl HN.out info23 ?_))
      refine ret_ba rfl rfl Try.underlying68 info23 rfl (HI.out.out.row (upTo bend 8)) ⟨?_, below_setRow HI.out.low (Nat.le_refl _) _⟩
      rw [ba_ext (fun i hi => show upTo bend 8 i = bend i from if_pos hi)]
end Go.Proofs.Ytnklljlgghenpaa
