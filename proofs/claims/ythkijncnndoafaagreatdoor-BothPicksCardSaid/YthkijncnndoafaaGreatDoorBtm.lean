import Derived.Test.YthkijncnndoafaaGreatDoorSgw
/- Boxes beside two machines: the first two in the other order; a cell; any box. -/
namespace Go.Proofs.YthkijncnndoafaaGreatDoor
open Go.RowKit Go.Deep
set_option maxRecDepth 100000
section
variable {Pm : World → Nat → Ms → (Nat → Prop) → Prop} {lo : Nat} {X0 : Nat → Prop} {W w0 wx wy : World} {p b : Nat} {S1 S2 S1' S2' : Ms} {bs : List (Nat × Obj)}
theorem Gy.swap {q r : Nat × Obj} (h : Gy Pm lo X0 W w0 wx p b S1 S2 (q :: r :: bs)) : Gy Pm lo X0 W w0 wx p b S1 S2 (r :: q :: bs) := h.sub (fun z hz => by simp at hz ⊢; rcases hz with e | e | e <;> simp [e]) (by
 have := h.nd
 simp only [List.map_cons, List.nodup_cons, List.mem_cons, not_or] at this ⊢
 exact ⟨⟨fun e => this.1.1 e.symm, this.2.1⟩, this.1.2, this.2.2⟩)
theorem Gy.cell (hM : Mach Pm) {n : Nat} {cs : Array Value} {T : TypeId} (h : Gy Pm lo X0 W w0 wx p b S1 S2 ((n, .cells cs T (0, 0)) :: bs)) (i : Nat) (v : Value) : Gy Pm lo X0 W w0 (wx.setCell ⟨n, i, none⟩ v) p b S1 S2 ((n, .cells (cs.setIfInBounds i v) T (0, 0)) :: bs) :=
 h.turn hM (heap_setCell_same wx n i cs T v (h.bx _ (List.mem_cons_self ..)).2) (fun k hk => heap_setCell_other wx ⟨n, i, none⟩ k v hk) (by simp [World.setCell]) ⟨rfl, rfl, rfl⟩
theorem Gy.mem (h : Gy Pm lo X0 W w0 wx p b S1 S2 bs) {n : Nat} {u : Obj} (hq : (n, u) ∈ bs) : wx.heap[n]? = some u := (h.bx _ hq).2
end
end Go.Proofs.YthkijncnndoafaaGreatDoor
