import Derived.Test.YtnklljlgghenpaaMa3
namespace Go.Proofs.Ytnklljlgghenpaa
open Go.RowKit

/-- Rows as columns, so far: i rows are done, and k columns of the next. -/
def flTo (f : Nat → Nat) (i k : Nat) : Nat → Nat := fun j => pk (fun i => (f i).testBit j) (if j < k then i + 1 else i)
/-- Three blocks: what came in, what goes out, what is being made. -/
structure M3 (t : TypeId) (f g : Nat → Nat) (w wr : World) : Prop where
  low : Below w.heap.size w wr
  src : At wr w.heap.size 8 t f
  out : M wr (w.heap.size + 1) (fun _ => 0)
  var : M wr (w.heap.size + 2) g
theorem M3.start (t : TypeId) (f : Nat → Nat) (w : World) : M3 t f (fun _ => 0) w (((w.alloc (.cells (ba 8 f) t)).alloc (.cells (ba 8 (fun _ => 0)) 68)).alloc (.cells (ba 8 (fun _ => 0)) 68)) := by
  refine ⟨(((Below.refl _ _).alloc (Nat.le_refl _) _).alloc (by simp) _).alloc (by simp; omega) _, ((At.new w 8 t f).alloc _).alloc _, ?_, ?_⟩
  · have := At.new (w.alloc (.cells (ba 8 f) t)) 8 68 (fun _ => 0)
    rw [World.size_alloc] at this
    exact this.alloc _
  · have := At.new ((w.alloc (.cells (ba 8 f) t)).alloc (.cells (ba 8 (fun _ => 0)) 68)) 8 68 (fun _ => 0)
    rw [World.size_alloc, World.size_alloc] at this
    exact this
theorem M3.ext {t : TypeId} {f g h : Nat → Nat} {w wr : World} (m : M3 t f g w wr) (e : ∀ i, i < 8 → g i = h i) : M3 t f h w wr := ⟨m.low, m.src, m.out, m.var.ext e⟩
theorem M3.set {t : TypeId} {f g : Nat → Nat} {w wr : World} (m : M3 t f g w wr) (j z : Nat) : M3 t f (upd g j z) w (wr.setCell ⟨w.heap.size + 2, j, none⟩ (.int .u8 (z : Int))) :=
  ⟨m.low.setCell (by simp) _, m.src.apart (by simp) _, m.out.apart (by simp) _, m.var.set j z⟩
theorem M3.drew {t : TypeId} {f g : Nat → Nat} {w wr : World} (m : M3 t f g w wr) : M3 t f g w wr.drew := ⟨m.low.drew, m.src, m.out, m.var⟩

theorem flip_step {T a k i : Nat} (hT : T < 2 ^ i) (hi : i < 8) (ha : a < 256) :
    bits .or .u8 (T : Int) (bits .and .u8 ((a : Int) / 2 ^ k) 1 * 2 ^ i % 256) = ((T + (if a.testBit k then 2 ^ i else 0) : Nat) : Int) := by
  have h1 : (a : Int) / 2 ^ k = ((a / 2 ^ k : Nat) : Int) := by simp
  have h2 : a / 2 ^ k < 256 := Nat.lt_of_le_of_lt (Nat.div_le_self _ _) ha
  rw [h1, and8_one h2, or8_two hT hi (by omega), bit_dec]
  simp
theorem flTo_step {f : Nat → Nat} {i k : Nat} {w wr : World} (m : M3 68 f (flTo f i k) w wr) (hi : i < 8) (hf : By f) :
    M3 68 f (flTo f i (k + 1)) w (wr.setCell ⟨w.heap.size + 2, k, none⟩ (.int .u8 (bits .or .u8 (flTo f i k k : Int) (bits .and .u8 ((f i : Int) / 2 ^ k) 1 * 2 ^ i % 256)))) := by
  have e : flTo f i k k = pk (fun i => (f i).testBit k) i := by simp [flTo]
  rw [e, flip_step (pk_lt _ _) hi (hf i hi)]
  refine (m.set k _).ext (fun j _ => ?_)
  unfold upd flTo
  by_cases h : j = k
  · subst h; simp [pk]
  · rw [if_neg h]
    by_cases h1 : j < k
    · rw [if_pos h1, if_pos (by omega)]
    · rw [if_neg h1, if_neg (by omega)]
theorem flTo_next {f : Nat → Nat} {i : Nat} {t : TypeId} {w wr : World} (m : M3 t f (flTo f i 8) w wr) : M3 t f (flTo f (i + 1) 0) w wr := m.ext (fun j hj => by simp [flTo, hj])

/-- Two blocks: what came in, what goes out. -/
structure M2 (t : TypeId) (f : Nat → Nat) (w wr : World) : Prop where
  low : Below w.heap.size w wr
  src : At wr w.heap.size 8 t f
  out : M wr (w.heap.size + 1) (fun _ => 0)
theorem M2.start (t : TypeId) (f : Nat → Nat) (w : World) : M2 t f w ((w.alloc (.cells (ba 8 f) t)).alloc (.cells (ba 8 (fun _ => 0)) 68)) := by
  refine ⟨((Below.refl _ _).alloc (Nat.le_refl _) _).alloc (by simp) _, (At.new w 8 t f).alloc _, ?_⟩
  have := At.new (w.alloc (.cells (ba 8 f) t)) 8 68 (fun _ => 0)
  rw [World.size_alloc] at this
  exact this
theorem M2.on {t : TypeId} {f : Nat → Nat} {w wr w1 : World} (m : M2 t f w wr) (h : Below wr.heap.size wr w1) : M2 t f w w1 :=
  ⟨m.low.trans (h.mono m.low.size), m.src.self h, m.out.self h⟩
theorem M3.on {t : TypeId} {f g : Nat → Nat} {w wr w1 : World} (m : M3 t f g w wr) (h : Below wr.heap.size wr w1) : M3 t f g w w1 :=
  ⟨m.low.trans (h.mono m.low.size), m.src.self h, m.out.self h, m.var.self h⟩

theorem rcol_step {f : Nat → Nat} {j k : Nat} {w wr : World} (m : M3 67 f (flTo f j k) w wr) (hj : j < 8) (hb : (f j).testBit k = true) :
    M3 67 f (flTo f j (k + 1)) w (wr.setCell ⟨w.heap.size + 2, k, none⟩ (.int .u8 (((flTo f j k k : Int) + 2 ^ j) % 256))) := by
  have e : flTo f j k k = pk (fun i => (f i).testBit k) j := by simp [flTo]
  have hT := pk_lt (fun i => (f i).testBit k) j
  have h1 := pow_le_128 hj
  rw [e, show (2 : Int) ^ j = ((2 ^ j : Nat) : Int) by simp, show ((pk (fun i => (f i).testBit k) j : Int) + ((2 ^ j : Nat) : Int)) % 256 = ((pk (fun i => (f i).testBit k) j + 2 ^ j : Nat) : Int) by omega]
  refine (m.set k _).ext (fun i _ => ?_)
  unfold upd flTo
  by_cases h : i = k
  · subst h; simp [pk, hb]
  · rw [if_neg h]
    by_cases h1 : i < k
    · rw [if_pos h1, if_pos (by omega)]
    · rw [if_neg h1, if_neg (by omega)]
theorem rcol_skip {f : Nat → Nat} {j k : Nat} {w wr : World} (m : M3 67 f (flTo f j k) w wr) (hb : (f j).testBit k = false) : M3 67 f (flTo f j (k + 1)) w wr := by
  refine m.ext (fun i _ => ?_)
  unfold flTo
  by_cases h : i = k
  · subst h; simp [pk, hb]
  · by_cases h1 : i < k
    · rw [if_pos h1, if_pos (by omega)]
    · rw [if_neg h1, if_neg (by omega)]

end Go.Proofs.Ytnklljlgghenpaa
