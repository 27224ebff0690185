import Derived.Test.YtnklljlgghenpaaProg
import Derived.Test.YtnklljlgghenpaaArr
import Derived.Test.YtnklljlgghenpaaBms
namespace Go.Proofs.Ytnklljlgghenpaa
open Go.RowKit

theorem info23 : (Try.prog.info? 68).map (·.size) = some 8 := by kernel_rfl
theorem info22 : (Try.prog.info? 67).map (·.size) = some 8 := by kernel_rfl
theorem info5 : (Try.prog.info? 5).map (·.size) = some 1 := by kernel_rfl
abbrev M (w : World) (b : Nat) (f : Nat → Nat) : Prop := At w b 8 68 f
theorem M.load {w : World} {b : Nat} {f : Nat → Nat} (h : M w b f) : (loadVar 68 ⟨b, 0, none⟩).run Try.prog w = .ok (.agg (ba 8 f)) w := At.load h 68 Try.underlying68 info23
theorem M.store {w : World} {b : Nat} {f : Nat → Nat} (h : M w b f) (g : Nat → Nat) : (storeVar 68 ⟨b, 0, none⟩ (.agg (ba 8 g))).run Try.prog w = .ok () (w.setRow b (ba 8 g)) := At.store h 68 g info23
theorem idx (f : Nat → Nat) {j : Nat} (hj : j < 8) (w : World) : (Instr.index 68 (.agg (ba 8 f)) (.int .i64 (j : Int))).run Try.prog w = .ok (.int .u8 (f j : Int)) w := run_index_ba w 68 5 8 f j Try.underlying68 Try.underlying5 info5 hj
theorem sh8 {j : Nat} (hj : j < 8) : (2 : Int) ^ j % 256 = ((2 ^ j : Nat) : Int) := by
  have : ∀ j < 8, (2 : Int) ^ j % 256 = ((2 ^ j : Nat) : Int) := by decide +kernel
  exact this j hj


def oneTo (j : Nat) : Nat → Nat := fun i => if i < j then 2 ^ i else 0
structure OneInv (w wr : World) (j : Nat) : Prop where
  le : j ≤ 8
  out : M wr w.heap.size (fun _ => 0)
  at_ : M wr (w.heap.size + 1) (oneTo j)
  low : Below w.heap.size w wr
theorem OneInv.start (w : World) : OneInv w ((w.alloc (.cells (ba 8 (fun _ => 0)) 68)).alloc (.cells (ba 8 (fun _ => 0)) 68)) 0 := by
  refine ⟨by omega, ?_, ?_, ?_⟩
  · exact At.alloc (At.new w 8 68 (fun _ => 0)) _
  · have := At.new (w.alloc (.cells (ba 8 (fun _ => 0)) 68)) 8 68 (fun _ => 0)
    rw [World.size_alloc] at this
    exact this
  · exact ((Below.refl _ _).alloc (Nat.le_refl _) _).alloc (by simp) _
theorem OneInv.step {w wr : World} {j : Nat} (h : OneInv w wr j) (hj : j < 8) : OneInv w (wr.setCell ⟨w.heap.size + 1, j, none⟩ (.int .u8 (2 ^ j % 256))) (j + 1) := by
  rw [sh8 hj]
  refine ⟨hj, h.out.apart (by simp) _, (h.at_.set j (2 ^ j)).ext (fun i _ => ?_), h.low.setCell (by simp) _⟩
  unfold upd oneTo
  by_cases e : i = j
  · subst e; simp
  · rw [if_neg e]
    by_cases h1 : i < j
    · rw [if_pos h1, if_pos (by omega)]
    · rw [if_neg h1, if_neg (by omega)]

end Go.Proofs.Ytnklljlgghenpaa
