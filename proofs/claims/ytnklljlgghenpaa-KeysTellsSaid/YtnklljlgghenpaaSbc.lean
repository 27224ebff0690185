import Derived.Test.YtnklljlgghenpaaProg
import Derived.Test.YtnklljlgghenpaaSbb
namespace Go.Proofs.Ytnklljlgghenpaa
open Go.RowKit

/-- A box's 516 cells: done, the lock's two words, both tables, the field. -/
def bcs (d m s : Int) (f g : Nat → Nat) (p : Option Addr) : Array Value := (#[.int .u32 d, .int .i32 m, .int .u32 s] ++ ba 256 f) ++ (ba 256 g ++ #[.pointer p])
theorem built48 (p : Addr) : Try.prog.built 64 [(3, .pointer (some p))] = some (bcs 0 0 0 (fun _ => 0) (fun _ => 0) (some p)) := by
  kernel_rfl
theorem step_build_box (p : Addr) {w : World} {ops : Array Oper} {rest : List Oper} {o : Oper} {a : Act} {Q : Exit → Act → World → Prop} (hgd : o.guard = none) (x : Operand) (ho : o.op = .build 64 #[(3, x)])
    (hx : a.eval x = .pointer (some p)) (k : wpList Try.prog ops Q rest (a.put o.dst (.agg (bcs 0 0 0 (fun _ => 0) (fun _ => 0) (some p)))) w) : wpList Try.prog ops Q (o :: rest) a w := by
  have e : ((#[(3, x)] : Array (Nat × Operand)).map fun (i, x) => (i, a.eval x)).toList = [(3, .pointer (some p))] := by simp [hx]
  refine wpList_build hgd 64 #[(3, x)] ho (by rw [e, built48]; rfl) ?_
  rw [e, built48]; exact k

theorem bcs_size (d m s : Int) (f g : Nat → Nat) (p : Option Addr) : (bcs d m s f g p).size = 516 := by simp [bcs, ba_size]
theorem bcs_f (d m s : Int) (f g : Nat → Nat) (p : Option Addr) {i : Nat} (hi : i < 256) : (bcs d m s f g p)[3 + i]? = some (.int .u8 (f i : Int)) := by
  unfold bcs
  rw [Array.getElem?_append_left (by simp [ba_size] <;> omega), Array.getElem?_append_right (by simp), ← ba_get f hi]
  simp
theorem bcs_g (d m s : Int) (f g : Nat → Nat) (p : Option Addr) {i : Nat} (hi : i < 256) : (bcs d m s f g p)[259 + i]? = some (.int .u8 (g i : Int)) := by
  unfold bcs
  rw [Array.getElem?_append_right (by simp [ba_size] <;> omega), Array.getElem?_append_left (by simp [ba_size] <;> omega), ← ba_get g hi]
  simp [ba_size]
theorem bcs_p (d m s : Int) (f g : Nat → Nat) (p : Option Addr) : (bcs d m s f g p)[515]? = some (.pointer p) := by
  unfold bcs
  rw [Array.getElem?_append_right (by simp [ba_size]), Array.getElem?_append_right (by simp [ba_size])]
  simp [ba_size]
theorem bcs_head (d m s : Int) (f g : Nat → Nat) (p : Option Addr) {i : Nat} (hi : i < 3) : (bcs d m s f g p)[i]? = (#[Value.int .u32 d, .int .i32 m, .int .u32 s] : Array Value)[i]? := by
  unfold bcs
  rw [Array.getElem?_append_left (by simp [ba_size] <;> omega), Array.getElem?_append_left (by simpa using hi)]
theorem bcs_set0 (d m s d' : Int) (f g : Nat → Nat) (p : Option Addr) : (bcs d m s f g p).setIfInBounds 0 (.int .u32 d') = bcs d' m s f g p := by
  unfold bcs
  rw [Array.setIfInBounds_append_left (by simp <;> omega), Array.setIfInBounds_append_left (by simp)]
  rfl
theorem bcs_set1 (d m s m' : Int) (f g : Nat → Nat) (p : Option Addr) : (bcs d m s f g p).setIfInBounds 1 (.int .i32 m') = bcs d m' s f g p := by
  unfold bcs
  rw [Array.setIfInBounds_append_left (by simp <;> omega), Array.setIfInBounds_append_left (by simp)]
  rfl
theorem bcs_setf (d m s : Int) (f g : Nat → Nat) (p : Option Addr) {i : Nat} (hi : i < 256) (z : Nat) : (bcs d m s f g p).setIfInBounds (3 + i) (.int .u8 (z : Int)) = bcs d m s (upd f i z) g p := by
  unfold bcs
  rw [Array.setIfInBounds_append_left (by simp [ba_size] <;> omega), Array.setIfInBounds_append_right (by simp), ← ba_set]
  simp
theorem bcs_setg (d m s : Int) (f g : Nat → Nat) (p : Option Addr) {i : Nat} (hi : i < 256) (z : Nat) : (bcs d m s f g p).setIfInBounds (259 + i) (.int .u8 (z : Int)) = bcs d m s f (upd g i z) p := by
  unfold bcs
  rw [Array.setIfInBounds_append_right (by simp [ba_size] <;> omega), Array.setIfInBounds_append_left (by simp [ba_size] <;> omega), ← ba_set]
  simp [ba_size]

def BAt (w : World) (b : Nat) (d m s : Int) (f g : Nat → Nat) (p : Option Addr) : Prop := w.heap[b]? = some (.cells (bcs d m s f g p) 64 (0, 0))
section
variable {w w' : World} {b c B : Nat} {d m s : Int} {f g : Nat → Nat} {p : Option Addr}
theorem BAt.lt (h : BAt w b d m s f g p) : b < w.heap.size := (Array.getElem?_eq_some_iff.1 h).1
theorem BAt.free (h : BAt w b d m s f g p) (o : Nat) : w.frozen? ⟨b, o, none⟩ = false := frozen_of_row w b o _ 64 h
theorem BAt.at (h : BAt w b d m s f g p) (o : Nat) : w.cell? ⟨b, o, none⟩ = (bcs d m s f g p)[o]? := cell_of_row w b o _ 64 _ h
theorem BAt.c0 (h : BAt w b d m s f g p) : w.cell? ⟨b, 0, none⟩ = some (.int .u32 d) := (h.at 0).trans (bcs_head d m s f g p (by omega))
theorem BAt.c1 (h : BAt w b d m s f g p) : w.cell? ⟨b, 1, none⟩ = some (.int .i32 m) := (h.at 1).trans (bcs_head d m s f g p (by omega))
theorem BAt.cf (h : BAt w b d m s f g p) {i : Nat} (hi : i < 256) : w.cell? ⟨b, 3 + i, none⟩ = some (.int .u8 (f i : Int)) := (h.at _).trans (bcs_f d m s f g p hi)
theorem BAt.cg (h : BAt w b d m s f g p) {i : Nat} (hi : i < 256) : w.cell? ⟨b, 259 + i, none⟩ = some (.int .u8 (g i : Int)) := (h.at _).trans (bcs_g d m s f g p hi)
theorem BAt.cp (h : BAt w b d m s f g p) : w.cell? ⟨b, 515, none⟩ = some (.pointer p) := (h.at _).trans (bcs_p d m s f g p)
theorem BAt.set0 (h : BAt w b d m s f g p) (d' : Int) : BAt (w.setCell ⟨b, 0, none⟩ (.int .u32 d')) b d' m s f g p := by
  have := heap_setCell_same w b 0 _ 64 (.int .u32 d') h; rw [bcs_set0] at this; exact this
theorem BAt.set1 (h : BAt w b d m s f g p) (m' : Int) : BAt (w.setCell ⟨b, 1, none⟩ (.int .i32 m')) b d m' s f g p := by
  have := heap_setCell_same w b 1 _ 64 (.int .i32 m') h; rw [bcs_set1] at this; exact this
theorem BAt.setf (h : BAt w b d m s f g p) {i : Nat} (hi : i < 256) (z : Nat) : BAt (w.setCell ⟨b, 3 + i, none⟩ (.int .u8 (z : Int))) b d m s (upd f i z) g p := by
  have := heap_setCell_same w b (3 + i) _ 64 (.int .u8 (z : Int)) h; rw [bcs_setf _ _ _ _ _ _ hi] at this; exact this
theorem BAt.setg (h : BAt w b d m s f g p) {i : Nat} (hi : i < 256) (z : Nat) : BAt (w.setCell ⟨b, 259 + i, none⟩ (.int .u8 (z : Int))) b d m s f (upd g i z) p := by
  have := heap_setCell_same w b (259 + i) _ 64 (.int .u8 (z : Int)) h; rw [bcs_setg _ _ _ _ _ _ hi] at this; exact this
theorem BAt.below (h : BAt w b d m s f g p) (hb : Below B w w') (hB : b < B) : BAt w' b d m s f g p := (hb.block b hB).trans h
theorem BAt.self (h : BAt w b d m s f g p) (hb : Below w.heap.size w w') : BAt w' b d m s f g p := h.below hb h.lt
theorem BAt.drew (h : BAt w b d m s f g p) : BAt w.drew b d m s f g p := h
theorem BAt.only (h : BAt w b d m s f g p) (o : Only c w w') (hc : b ≠ c) : BAt w' b d m s f g p := (o.block b h.lt hc).trans h
theorem BAt.alloc (h : BAt w b d m s f g p) (o : Obj) : BAt (w.alloc o) b d m s f g p := (heap_alloc_old w o h.lt).trans h
theorem BAt.row (h : BAt w b d m s f g p) (hc : b ≠ c) (cs : Array Value) : BAt (w.setRow c cs) b d m s f g p := (setRow_other w c b cs hc).trans h
theorem BAt.ext {f' g' : Nat → Nat} (h : BAt w b d m s f g p) (hf : ∀ i, i < 256 → f i = f' i) (hg : ∀ i, i < 256 → g i = g' i) : BAt w b d m s f' g' p := by
  unfold BAt bcs at h ⊢
  rw [← ba_ext hf, ← ba_ext hg]; exact h
end

abbrev zt : Nat → Nat := fun _ => 0
end Go.Proofs.Ytnklljlgghenpaa
