import Derived.Test.YtnklljlgghenpaaMa7
namespace Go.Proofs.Ytnklljlgghenpaa
open Go.RowKit

theorem eqB {f g : Nat → Nat} {b : Bool} (h : (∀ i, i < 8 → f i = g i) ↔ b = true) (w : World) : (Op.equalIn 10000 68 (.agg (ba 8 f)) (.agg (ba 8 g))).run Try.prog w = .ok b w := by
  have h' := run_eq_ba (P := Try.prog) w 9998 68 5 8 f g Try.underlying68 Try.underlying5 info5
  rw [h']
  congr 1
  cases b
  · simp only [Bool.false_eq_true, iff_false] at h; exact decide_eq_false h
  · exact decide_eq_true (h.2 rfl)
theorem guard23 : Try.prog.eqGuardType Try.prog.depth 68 = false := by kernel_rfl

/-- .. and what goes out. -/
structure L3 (f m s : Nat → Nat) (b : Nat) (w wr : World) : Prop extends L2 f m s b w wr where
  o1 : M wr (w.heap.size + 1) (fun _ => 0)
  apart : w.heap.size + 2 ≤ b
theorem L3.start {f m s : Nat → Nat} {w wr w1 : World} (h : M2 68 f w wr) (hb : Below wr.heap.size wr w1) :
    L3 f m s w1.heap.size w ((((w1.alloc (.cells (ba 8 (fun _ => 0)) 68)).alloc (.cells (ba 8 (fun _ => 0)) 68)).setRow w1.heap.size (ba 8 m)).setRow (w1.heap.size + 1) (ba 8 s)) := by
  have hl := h.out.lt
  have h1 := h.on hb
  have hs := hb.size
  exact ⟨L2.start h.low (by omega) hb, (((h1.out.alloc _).alloc _).rowApart (by omega) _).rowApart (by omega) _, by omega⟩
theorem L3.on {f m s : Nat → Nat} {b : Nat} {w wr w1 : World} (h : L3 f m s b w wr) (hb : Below wr.heap.size wr w1) : L3 f m s b w w1 :=
  ⟨⟨h.low.trans (hb.mono h.low.size), h.far, h.mat.self hb, h.st.self hb⟩, h.o1.self hb, h.apart⟩
theorem L3.drew {f m s : Nat → Nat} {b : Nat} {w wr : World} (h : L3 f m s b w wr) : L3 f m s b w wr.drew := ⟨⟨h.low.drew, h.far, h.mat, h.st⟩, h.o1, h.apart⟩

end Go.Proofs.Ytnklljlgghenpaa
