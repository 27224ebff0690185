import Derived.Test.YtfjgelialaccdaaProg
import Derived.Test.YtfjgelialaccdaaSqm
import Derived.Deep.MidRow
/- Sponge: a hash at work, cell by cell. -/
namespace Go.Proofs.Ytfjgelialaccdaa
open Go.RowKit

/-- The cells of a hash at work: its rate, its mark, the state, how far its block is filled, and whether it was read from. -/
def wc (R : Nat) (mk : Int) (F : Nat → Nat) (a : Nat) (r : Bool) (i : Nat) : Value :=
  if i = 0 then .int .i64 (R : Int) else if i = 1 then .int .u8 mk else if i < 27 then .int .u64 (F (i - 2) : Int) else if i = 27 then .int .i64 (a : Int) else .bool r
def wcs (R : Nat) (mk : Int) (F : Nat → Nat) (a : Nat) (r : Bool) : Array Value := ((List.range 29).map (wc R mk F a r)).toArray
/-- Block b holds it, whole. -/
def Wo (w : World) (b R : Nat) (mk : Int) (F : Nat → Nat) (a : Nat) (r : Bool) : Prop := w.heap[b]? = some (.cells (wcs R mk F a r) 62 (0, 0))
theorem wcs_get (R : Nat) (mk : Int) (F : Nat → Nat) (a : Nat) (r : Bool) {i : Nat} (h : i < 29) : (wcs R mk F a r)[i]? = some (wc R mk F a r i) := by simp [wcs, h]
theorem wcs_size (R : Nat) (mk : Int) (F : Nat → Nat) (a : Nat) (r : Bool) : (wcs R mk F a r).size = 29 := by simp [wcs]
theorem wcs_set {R R' : Nat} {mk mk' : Int} {F F' : Nat → Nat} {a a' : Nat} {r r' : Bool} {j : Nat} {v : Value} (h : ∀ i, i < 29 → (if i = j then v else wc R mk F a r i) = wc R' mk' F' a' r' i) :
    (wcs R mk F a r).setIfInBounds j v = wcs R' mk' F' a' r' := by
  apply Array.ext_getElem?
  intro i
  rw [Array.getElem?_setIfInBounds, wcs_size]
  by_cases hi : i < 29
  · rw [wcs_get _ _ _ _ _ hi, wcs_get _ _ _ _ _ hi, ← h i hi]
    by_cases e : j = i
    · subst e; rw [if_pos rfl, if_pos hi, if_pos rfl]
    · rw [if_neg e, if_neg (fun h => e h.symm)]
  · have h1 : (wcs R mk F a r)[i]? = none := by simp [wcs_size]; omega
    have h2 : (wcs R' mk' F' a' r')[i]? = none := by simp [wcs_size]; omega
    rw [h1, h2]
    by_cases e : j = i
    · rw [if_pos e, if_neg (by omega)]
    · rw [if_neg e]
section
variable {w w' : World} {b R : Nat} {mk : Int} {F : Nat → Nat} {a : Nat} {r : Bool}
theorem Wo.lt (h : Wo w b R mk F a r) : b < w.heap.size := (Array.getElem?_eq_some_iff.1 h).1
theorem Wo.cell (h : Wo w b R mk F a r) {i : Nat} (hi : i < 29) : w.cell? ⟨b, i, none⟩ = some (wc R mk F a r i) := by
  rw [cell_of_row w b i _ 62 (0, 0) h, wcs_get _ _ _ _ _ hi]
theorem Wo.rate (h : Wo w b R mk F a r) : w.cell? ⟨b, 0, none⟩ = some (.int .i64 (R : Int)) := h.cell (by decide)
theorem Wo.mark (h : Wo w b R mk F a r) : w.cell? ⟨b, 1, none⟩ = some (.int .u8 mk) := h.cell (by decide)
theorem Wo.word (h : Wo w b R mk F a r) {j : Nat} (hj : j < 25) : w.cell? ⟨b, 2 + j, none⟩ = some (.int .u64 (F j : Int)) := by
  rw [h.cell (i := 2 + j) (by omega)]
  unfold wc
  rw [if_neg (by omega), if_neg (by omega), if_pos (by omega), Nat.add_sub_cancel_left]
theorem Wo.at (h : Wo w b R mk F a r) : w.cell? ⟨b, 27, none⟩ = some (.int .i64 (a : Int)) := h.cell (by decide)
theorem Wo.done (h : Wo w b R mk F a r) : w.cell? ⟨b, 28, none⟩ = some (.bool r) := h.cell (by decide)
theorem Wo.free (h : Wo w b R mk F a r) (o : Nat) : w.frozen? ⟨b, o, none⟩ = false := frozen_of_row w b o _ 62 h
theorem Wo.setW (h : Wo w b R mk F a r) {j : Nat} (hj : j < 25) (z : Nat) : Wo (w.setCell ⟨b, 2 + j, none⟩ (.int .u64 (z : Int))) b R mk (upd F j z) a r := by
  unfold Wo
  rw [heap_setCell_same w b (2 + j) _ 62 _ h, wcs_set]
  intro i hi
  unfold wc upd
  by_cases e : i = 2 + j
  · rw [if_pos e, if_neg (by omega), if_neg (by omega), if_pos (by omega), if_pos (by omega)]
  · rw [if_neg e]
    by_cases h0 : i = 0
    · rw [if_pos h0, if_pos h0]
    by_cases h1 : i = 1
    · rw [if_neg h0, if_pos h1, if_neg h0, if_pos h1]
    by_cases h2 : i < 27
    · rw [if_neg h0, if_neg h1, if_pos h2, if_neg h0, if_neg h1, if_pos h2, if_neg (by omega)]
    · rw [if_neg h0, if_neg h1, if_neg h2, if_neg h0, if_neg h1, if_neg h2]
theorem Wo.setA (h : Wo w b R mk F a r) (a' : Nat) : Wo (w.setCell ⟨b, 27, none⟩ (.int .i64 (a' : Int))) b R mk F a' r := by
  unfold Wo
  rw [heap_setCell_same w b 27 _ 62 _ h, wcs_set]
  intro i hi
  unfold wc
  by_cases e : i = 27
  · subst e; simp
  · rw [if_neg e, if_neg e, if_neg e]
theorem Wo.setR (h : Wo w b R mk F a r) (r' : Bool) : Wo (w.setCell ⟨b, 28, none⟩ (.bool r')) b R mk F a r' := by
  unfold Wo
  rw [heap_setCell_same w b 28 _ 62 _ h, wcs_set]
  intro i hi
  unfold wc
  by_cases e : i = 28
  · subst e; simp
  · rw [if_neg e]
    by_cases h2 : i < 27
    · simp only [h2, if_true]
    · obtain rfl : i = 27 := by omega
      rfl
theorem Wo.ext {F' : Nat → Nat} (h : Wo w b R mk F a r) (e : ∀ j, j < 25 → F j = F' j) : Wo w b R mk F' a r := by
  unfold Wo at h ⊢
  rw [h]
  congr 2
  apply Array.ext_getElem?
  intro i
  by_cases hi : i < 29
  · rw [wcs_get _ _ _ _ _ hi, wcs_get _ _ _ _ _ hi]
    unfold wc
    by_cases h2 : i < 27
    · by_cases h0 : i < 2
      · rcases (show i = 0 ∨ i = 1 by omega) with rfl | rfl <;> rfl
      · rw [e (i - 2) (by omega)]
    · rw [if_neg h2, if_neg h2]
  · have h1 : (wcs R mk F a r)[i]? = none := by simp [wcs_size]; omega
    have h2 : (wcs R mk F' a r)[i]? = none := by simp [wcs_size]; omega
    rw [h1, h2]
theorem Wo.to (h : Wo w b R mk F a r) {F' : Nat → Nat} {a' : Nat} {r' : Bool} (e1 : F = F') (e2 : a = a') (e3 : r = r') : Wo w b R mk F' a' r' := by subst e1 e2 e3; exact h
theorem Wo.rowTo (g : Nat → Nat) : ∀ (k s : Nat) (w : World), s + k = 25 → Wo w b R mk (mix s F g) a r → Wo (w.setCells b (2 + s) ((List.range' s k).map fun i => Value.int .u64 (g i : Int))) b R mk (mix (s + k) F g) a r
  | 0, _, _, _, h => h
  | k + 1, s, w, hs, h => by
    rw [List.range'_succ, List.map_cons, World.setCells]
    have h1 := h.setW (j := s) (by omega) (g s)
    rw [mix_step s F g rfl] at h1
    have := Wo.rowTo g k (s + 1) _ (by omega) h1
    rw [show s + 1 + k = s + (k + 1) by omega] at this
    exact this
theorem wa_list (n : Nat) (g : Nat → Nat) : (wa n g).toList = (List.range' 0 n).map fun i => Value.int .u64 (g i : Int) := by rw [wa, ← List.range_eq_range']
theorem Wo.row (h : Wo w b R mk F a r) (g : Nat → Nat) : Wo (w.setCells b 2 (wa 25 g).toList) b R mk g a r := by
  rw [wa_list]
  have := Wo.rowTo (F := F) g 25 0 w rfl (by rw [mix_zero]; exact h)
  exact this.ext (mix_all (Nat.le_refl _))
theorem Wo.range (h : Wo w b R mk F a r) : w.rangeAt b 2 (wa 25 F).toList := fun j v hv => by
  have hj : j < 25 := by have := (List.getElem?_eq_some_iff.1 hv).1; rwa [Array.length_toList, wa_size] at this
  rw [Array.getElem?_toList, wa_get F hj] at hv
  rw [h.word hj]; exact hv
theorem Wo.there (h : Wo w b R mk F a r) : w.there b 2 25 := fun j hj => ⟨by rw [h.word hj]; rfl, h.free _⟩
theorem Wo.apart (h : Wo w b R mk F a r) {p : Addr} (hp : b ≠ p.block) (v : Value) : Wo (w.setCell p v) b R mk F a r := (heap_setCell_other w p b v hp).trans h
theorem Wo.alloc (h : Wo w b R mk F a r) (o : Obj) : Wo (w.alloc o) b R mk F a r := (heap_alloc_old w o h.lt).trans h
theorem Wo.drew (h : Wo w b R mk F a r) : Wo w.drew b R mk F a r := h
theorem Wo.self (h : Wo w b R mk F a r) (hb : Below w.heap.size w w') : Wo w' b R mk F a r := (hb.block b h.lt).trans h
end
theorem only_setCells (b : Nat) : ∀ (vs : List Value) (o : Nat) (w : World), Only b w (w.setCells b o vs)
  | [], _, w => Only.refl b w
  | v :: r, o, w => (Only.set w (p := ⟨b, o, none⟩) rfl v).trans (only_setCells b r (o + 1) _)
theorem wcs_new (q : Nat) (mk : Int) : wcs q mk (fun _ => 0) 0 false = #[.int .i64 (q : Int), .int .u8 mk, .int .u64 0, .int .u64 0, .int .u64 0, .int .u64 0, .int .u64 0, .int .u64 0, .int .u64 0, .int .u64 0, .int .u64 0, .int .u64 0, .int .u64 0, .int .u64 0, .int .u64 0, .int .u64 0, .int .u64 0, .int .u64 0, .int .u64 0, .int .u64 0, .int .u64 0, .int .u64 0, .int .u64 0, .int .u64 0, .int .u64 0, .int .u64 0, .int .u64 0, .int .i64 0, .bool false] := rfl
end Go.Proofs.Ytfjgelialaccdaa
