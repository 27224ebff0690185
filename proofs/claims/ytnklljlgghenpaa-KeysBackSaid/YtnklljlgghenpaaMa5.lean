import Derived.Test.YtnklljlgghenpaaMa4
import Derived.Deep.RegionHeld3
namespace Go.Proofs.Ytnklljlgghenpaa
open Go.RowKit

theorem bitU {a : Nat} (ha : a < 256) (k : Nat) : (bits .and .u8 ((a : Int) / 2 ^ k) 1 == 1) = a.testBit k := by
  have h1 : (a : Int) / 2 ^ k = ((a / 2 ^ k : Nat) : Int) := by simp
  have h2 : a / 2 ^ k < 256 := Nat.lt_of_le_of_lt (Nat.div_le_self _ _) ha
  rw [h1, and8_one h2, bit_dec]
  by_cases h : a / 2 ^ k % 2 = 1
  · simp [h]
  · rw [show a / 2 ^ k % 2 = 0 by omega]; rfl

/-- Three blocks: what came in twice, what goes out. -/
structure N3 (f g : Nat → Nat) (w wr : World) : Prop where
  low : Below w.heap.size w wr
  fst : M wr w.heap.size f
  snd : M wr (w.heap.size + 1) g
  out : M wr (w.heap.size + 2) (fun _ => 0)
theorem N3.start (f g : Nat → Nat) (w : World) : N3 f g w (((w.alloc (.cells (ba 8 f) 68)).alloc (.cells (ba 8 g) 68)).alloc (.cells (ba 8 (fun _ => 0)) 68)) := by
  refine ⟨(((Below.refl _ _).alloc (Nat.le_refl _) _).alloc (by simp) _).alloc (by simp <;> omega) _, ((At.new w 8 68 f).alloc _).alloc _, ?_, ?_⟩
  · have := At.new (w.alloc (.cells (ba 8 f) 68)) 8 68 g
    rw [World.size_alloc] at this
    exact this.alloc _
  · have := At.new ((w.alloc (.cells (ba 8 f) 68)).alloc (.cells (ba 8 g) 68)) 8 68 (fun _ => 0)
    rw [World.size_alloc, World.size_alloc] at this
    exact this
theorem N3.on {f g : Nat → Nat} {w wr w1 : World} (m : N3 f g w wr) (h : Below wr.heap.size wr w1) : N3 f g w w1 :=
  ⟨m.low.trans (h.mono m.low.size), m.fst.self h, m.snd.self h, m.out.self h⟩
theorem N3.drew {f g : Nat → Nat} {w wr : World} (m : N3 f g w wr) : N3 f g w wr.drew := ⟨m.low.drew, m.fst, m.snd, m.out⟩
/-- And one more, that is being made. -/
structure N4 (t : TypeId) (f g h : Nat → Nat) (w wr : World) : Prop extends N3 f g w wr where
  var : At wr (w.heap.size + 3) 8 t h
theorem N4.start (t : TypeId) (f g : Nat → Nat) (w : World) : N4 t f g (fun _ => 0) w ((((w.alloc (.cells (ba 8 f) 68)).alloc (.cells (ba 8 g) 68)).alloc (.cells (ba 8 (fun _ => 0)) 68)).alloc (.cells (ba 8 (fun _ => 0)) t)) := by
  have h := N3.start f g w
  refine ⟨⟨h.low.alloc (by simp <;> omega) _, h.fst.alloc _, h.snd.alloc _, h.out.alloc _⟩, ?_⟩
  have := At.new (((w.alloc (.cells (ba 8 f) 68)).alloc (.cells (ba 8 g) 68)).alloc (.cells (ba 8 (fun _ => 0)) 68)) 8 t (fun _ => 0)
  rw [World.size_alloc, World.size_alloc, World.size_alloc] at this
  exact this
theorem N4.on {t : TypeId} {f g h : Nat → Nat} {w wr w1 : World} (m : N4 t f g h w wr) (hb : Below wr.heap.size wr w1) : N4 t f g h w w1 := ⟨m.toN3.on hb, m.var.self hb⟩
theorem N4.drew {t : TypeId} {f g h : Nat → Nat} {w wr : World} (m : N4 t f g h w wr) : N4 t f g h w wr.drew := ⟨m.toN3.drew, m.var⟩
theorem N4.set {t : TypeId} {f g h : Nat → Nat} {w wr : World} (m : N4 t f g h w wr) (j z : Nat) : N4 t f g (upd h j z) w (wr.setCell ⟨w.heap.size + 3, j, none⟩ (.int .u8 (z : Int))) :=
  ⟨⟨m.low.setCell (by simp) _, m.fst.apart (by simp) _, m.snd.apart (by simp) _, m.out.apart (by simp) _⟩, m.var.set j z⟩
theorem N4.ext {t : TypeId} {f g h h' : Nat → Nat} {w wr : World} (m : N4 t f g h w wr) (e : ∀ i, i < 8 → h i = h' i) : N4 t f g h' w wr := ⟨m.toN3, m.var.ext e⟩

/-- A product so far: i rows are done, and k bits of the next. -/
def muTo (f g : Nat → Nat) (i k : Nat) : Nat → Nat := fun r => if r < i then mu f g r else if r = i then xsum (fun k => if (f i).testBit k then g k else 0) k else 0
theorem muTo_at (f g : Nat → Nat) (i k : Nat) : muTo f g i k i = xsum (fun k => if (f i).testBit k then g k else 0) k := by simp [muTo]
theorem muTo_other (f g : Nat → Nat) {i k r : Nat} (h : r ≠ i) : muTo f g i k r = muTo f g i 0 r := by simp [muTo, h]
theorem muTo_lt {f g : Nat → Nat} (hg : By g) (i : Nat) {k : Nat} (hk : k ≤ 8) : muTo f g i k i < 256 := by
  rw [muTo_at]
  exact xsum_lt (fun j hj => by split; exact hg j (by omega); decide)
theorem muTo_step {f g : Nat → Nat} {i k : Nat} {w wr : World} (m : N4 68 f g (muTo f g i k) w wr) (hk : k < 8) (hg : By g) (hb : (f i).testBit k = true) :
    N4 68 f g (muTo f g i (k + 1)) w (wr.setCell ⟨w.heap.size + 3, i, none⟩ (.int .u8 (bits .xor .u8 (muTo f g i k i : Int) (g k : Int)))) := by
  rw [xor8 (muTo_lt hg i (by omega)) (hg k hk)]
  refine (m.set i _).ext (fun r _ => ?_)
  unfold upd
  by_cases h : r = i
  · subst h; rw [if_pos rfl, muTo_at, muTo_at, xsum, hb, if_pos rfl]
  · rw [if_neg h]; exact (muTo_other f g h).trans (muTo_other f g h).symm
theorem muTo_skip {f g : Nat → Nat} {i k : Nat} {w wr : World} (m : N4 68 f g (muTo f g i k) w wr) (hb : (f i).testBit k = false) : N4 68 f g (muTo f g i (k + 1)) w wr := by
  refine m.ext (fun r _ => ?_)
  by_cases h : r = i
  · subst h; rw [muTo_at, muTo_at, xsum, hb]; simp
  · exact (muTo_other f g h).trans (muTo_other f g h).symm
theorem muTo_next {f g : Nat → Nat} {i : Nat} {w wr : World} (m : N4 68 f g (muTo f g i 8) w wr) : N4 68 f g (muTo f g (i + 1) 0) w wr := m.ext (fun r _ => by
  unfold muTo
  by_cases h : r < i
  · rw [if_pos h, if_pos (by omega)]
  · rw [if_neg h]
    by_cases h2 : r = i
    · subst h2; rw [if_pos rfl, if_pos (by omega)]; rfl
    · rw [if_neg h2, if_neg (by omega)]; simp [xsum])

/-- The eight cells of an array, one by one. -/
abbrev Cells (w : World) (b : Nat) (f : Nat → Nat) : Prop :=
  w.cell? ⟨b, 0, none⟩ = some (.int .u8 (f 0 : Int)) ∧ w.cell? ⟨b, 1, none⟩ = some (.int .u8 (f 1 : Int)) ∧ w.cell? ⟨b, 2, none⟩ = some (.int .u8 (f 2 : Int)) ∧ w.cell? ⟨b, 3, none⟩ = some (.int .u8 (f 3 : Int)) ∧
  w.cell? ⟨b, 4, none⟩ = some (.int .u8 (f 4 : Int)) ∧ w.cell? ⟨b, 5, none⟩ = some (.int .u8 (f 5 : Int)) ∧ w.cell? ⟨b, 6, none⟩ = some (.int .u8 (f 6 : Int)) ∧ w.cell? ⟨b, 7, none⟩ = some (.int .u8 (f 7 : Int))
theorem At.cells {w : World} {b : Nat} {t : TypeId} {f : Nat → Nat} (h : At w b 8 t f) : Cells w b f :=
  ⟨h.cell (by decide), h.cell (by decide), h.cell (by decide), h.cell (by decide), h.cell (by decide), h.cell (by decide), h.cell (by decide), h.cell (by decide)⟩

/-- The eight values, as a load cell by cell leaves them. -/
abbrev ex8 (f : Nat → Nat) : Array Value := #[.int .u8 (f 0 : Int), .int .u8 (f 1 : Int), .int .u8 (f 2 : Int), .int .u8 (f 3 : Int), .int .u8 (f 4 : Int), .int .u8 (f 5 : Int), .int .u8 (f 6 : Int), .int .u8 (f 7 : Int)]
theorem ba_ex (f : Nat → Nat) : ba 8 f = ex8 f := rfl

/-- The columns so far. -/
def colTo (f g : Nat → Nat) (j : Nat) : Nat → Nat := fun r => if r < j then ap f (ap g (2 ^ r)) else 0
theorem colTo_step {f g : Nat → Nat} {j : Nat} {w wr : World} (m : N4 67 f g (colTo f g j) w wr) : N4 67 f g (colTo f g (j + 1)) w (wr.setCell ⟨w.heap.size + 3, j, none⟩ (.int .u8 (ap f (ap g (2 ^ j)) : Nat))) := by
  refine (m.set j _).ext (fun r _ => ?_)
  unfold upd colTo
  by_cases h : r = j
  · subst h; rw [if_pos rfl, if_pos (by omega)]
  · rw [if_neg h]
    by_cases h1 : r < j
    · rw [if_pos h1, if_pos (by omega)]
    · rw [if_neg h1, if_neg (by omega)]
theorem colTo_by (f g : Nat → Nat) (j : Nat) : By (colTo f g j) := fun i _ => by unfold colTo; split; exact ap_lt _ _; decide

end Go.Proofs.Ytnklljlgghenpaa
