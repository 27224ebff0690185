import Derived.Test.YtmggmjilgjogfaaMa8
namespace Go.Proofs.Ytmggmjilgjogfaa
open Go.RowKit

/-- What is found so far: columns below j, and n bytes tried for the next. -/
def inTo (f : Nat → Nat) (j n : Nat) : Nat → Nat := fun r => if r < j then lastx f (2 ^ r) 256 else if r = j then lastx f (2 ^ r) n else 0
theorem inTo_by (f : Nat → Nat) (j : Nat) : By (inTo f j 0) := fun r _ => by
  unfold inTo
  split
  · exact lastx_lt f _ 256 (Nat.le_refl _)
  · split
    · show 0 < 256; decide
    · decide
/-- The columns below j are found. -/
def AllHit (f : Nat → Nat) (j : Nat) : Prop := ∀ r, r < j → hits f (2 ^ r) 256 = true
structure C3 (f c : Nat → Nat) (w wr : World) : Prop where
  low : Below w.heap.size w wr
  src : M wr w.heap.size f
  out : M wr (w.heap.size + 1) (fun _ => 0)
  var : At wr (w.heap.size + 2) 8 24 c
theorem C3.start (f : Nat → Nat) (w : World) : C3 f (fun _ => 0) w (((w.alloc (.cells (ba 8 f) 25)).alloc (.cells (ba 8 (fun _ => 0)) 25)).alloc (.cells (ba 8 (fun _ => 0)) 24)) := by
  refine ⟨(((Below.refl _ _).alloc (Nat.le_refl _) _).alloc (by simp) _).alloc (by simp; omega) _, ((At.new w 8 25 f).alloc _).alloc _, ?_, ?_⟩
  · have := At.new (w.alloc (.cells (ba 8 f) 25)) 8 25 (fun _ => 0)
    rw [World.size_alloc] at this
    exact this.alloc _
  · have := At.new ((w.alloc (.cells (ba 8 f) 25)).alloc (.cells (ba 8 (fun _ => 0)) 25)) 8 24 (fun _ => 0)
    rw [World.size_alloc, World.size_alloc] at this
    exact this
theorem C3.on {f c : Nat → Nat} {w wr w1 : World} (m : C3 f c w wr) (h : Below wr.heap.size wr w1) : C3 f c w w1 :=
  ⟨m.low.trans (h.mono m.low.size), m.src.self h, m.out.self h, m.var.self h⟩
theorem C3.ext {f c h : Nat → Nat} {w wr : World} (m : C3 f c w wr) (e : ∀ i, i < 8 → c i = h i) : C3 f h w wr := ⟨m.low, m.src, m.out, m.var.ext e⟩
theorem C3.set {f c : Nat → Nat} {w wr : World} (m : C3 f c w wr) (j z : Nat) : C3 f (upd c j z) w (wr.setCell ⟨w.heap.size + 2, j, none⟩ (.int .u8 (z : Int))) :=
  ⟨m.low.setCell (by simp) _, m.src.apart (by simp) _, m.out.apart (by simp) _, m.var.set j z⟩
theorem inTo_hit {f : Nat → Nat} {j n : Nat} (h : ap f n = 2 ^ j) (r : Nat) : upd (inTo f j n) j n r = inTo f j (n + 1) r := by
  unfold upd inTo
  by_cases e : r = j
  · subst e; simp [lastx, h]
  · simp [e]
theorem inTo_miss {f : Nat → Nat} {j n : Nat} (h : ap f n ≠ 2 ^ j) (r : Nat) : inTo f j n r = inTo f j (n + 1) r := by
  unfold inTo
  by_cases e : r = j
  · subst e; simp [lastx, h]
  · simp [e]
theorem inTo_next (f : Nat → Nat) (j r : Nat) : inTo f j 256 r = inTo f (j + 1) 0 r := by
  unfold inTo
  by_cases e : r = j
  · subst e; simp
  · by_cases h : r < j
    · rw [if_pos h, if_pos (by omega)]
    · rw [if_neg h, if_neg e, if_neg (by omega)]
      by_cases h2 : r = j + 1
      · rw [if_pos h2]; rfl
      · rw [if_neg h2]

end Go.Proofs.Ytmggmjilgjogfaa
