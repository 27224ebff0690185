import Derived.Test.YtnklljlgghenpaaMa5
namespace Go.Proofs.Ytnklljlgghenpaa
open Go.RowKit

theorem info23' {f : Nat → Nat} : (Try.prog.info? 68).map (·.size) = some (ba 8 f).size := by rw [ba_size]; exact info23
theorem rowF_next {m : Nat → Nat} {j k : Nat} (hk : k < 8) (hb : (m k).testBit j = false) : rowF m j (8 - k) k = rowF m j (8 - (k + 1)) (k + 1) := by
  have : 8 - k = (8 - (k + 1)) + 1 := by omega
  rw [this, rowF, if_neg (by simp [hb])]
theorem rowF_hit {m : Nat → Nat} {j k : Nat} (hk : k < 8) (hb : (m k).testBit j = true) : rowF m j (8 - k) k = k := by
  have : 8 - k = (8 - (k + 1)) + 1 := by omega
  rw [this, rowF, if_pos hb]

/-- The rows so far: up to k they are turned. -/
def selTo (c : Nat → Bool) (a : Nat → Nat) (d k : Nat) : Nat → Nat := fun i => if i < k then sel c a d i else a i
theorem selTo_zero (c : Nat → Bool) (a : Nat → Nat) (d i : Nat) : a i = selTo c a d 0 i := by simp [selTo]
theorem selTo_end (c : Nat → Bool) (a : Nat → Nat) (d : Nat) {i : Nat} (h : i < 8) : selTo c a d 8 i = sel c a d i := by simp [selTo, h]
theorem selTo_at (c : Nat → Bool) (a : Nat → Nat) (d k : Nat) : selTo c a d k k = a k := by simp [selTo]
theorem selTo_own {c : Nat → Bool} {a : Nat → Nat} {d : Nat} (k : Nat) (h : c d = false) : selTo c a d k d = a d := by unfold selTo sel; rw [h]; simp
theorem selTo_skip {c : Nat → Bool} {a : Nat → Nat} {d k : Nat} (h : c k = false) (i : Nat) : selTo c a d k i = selTo c a d (k + 1) i := by
  unfold selTo sel
  by_cases e : i = k
  · subst e; rw [h]; simp
  · by_cases h1 : i < k
    · have h2 : i < k + 1 := by omega
      simp [h1, h2]
    · rw [if_neg h1, if_neg (by omega)]
theorem selTo_step {c : Nat → Bool} {a : Nat → Nat} {d k : Nat} (h : c k = true) (i : Nat) : upd (selTo c a d k) k (a k ^^^ a d) i = selTo c a d (k + 1) i := by
  unfold upd selTo sel
  by_cases e : i = k
  · subst e; rw [h]; simp
  · rw [if_neg e]
    by_cases h1 : i < k
    · have h2 : i < k + 1 := by omega
      simp [h1, h2]
    · rw [if_neg h1, if_neg (by omega)]
theorem swp_upd (a : Nat → Nat) (d i k : Nat) : upd (upd a d (a i)) i (a d) k = swp a d i k := rfl

/-- Four blocks: the matrix, what goes out twice, the steps. -/
structure R4 (b : Nat) (m s : Nat → Nat) (w wr : World) : Prop where
  low : Below w.heap.size w wr
  far : w.heap.size + 3 ≤ b
  mat : M wr w.heap.size m
  o1 : M wr (w.heap.size + 1) (fun _ => 0)
  o2 : M wr (w.heap.size + 2) (fun _ => 0)
  st : M wr b s
theorem R4.ext {b : Nat} {m s m' s' : Nat → Nat} {w wr : World} (h : R4 b m s w wr) (hm : ∀ i, i < 8 → m i = m' i) (hs : ∀ i, i < 8 → s i = s' i) : R4 b m' s' w wr :=
  ⟨h.low, h.far, h.mat.ext hm, h.o1, h.o2, h.st.ext hs⟩
theorem R4.drew {b : Nat} {m s : Nat → Nat} {w wr : World} (h : R4 b m s w wr) : R4 b m s w wr.drew := ⟨h.low.drew, h.far, h.mat, h.o1, h.o2, h.st⟩
theorem R4.on {b : Nat} {m s : Nat → Nat} {w wr w1 : World} (h : R4 b m s w wr) (hb : Below wr.heap.size wr w1) : R4 b m s w w1 :=
  ⟨h.low.trans (hb.mono h.low.size), h.far, h.mat.self hb, h.o1.self hb, h.o2.self hb, h.st.self hb⟩
theorem R4.setM {b : Nat} {m s : Nat → Nat} {w wr : World} (h : R4 b m s w wr) (j z : Nat) : R4 b (upd m j z) s w (wr.setCell ⟨w.heap.size, j, none⟩ (.int .u8 (z : Int))) :=
  have hb := h.far
  ⟨h.low.setCell (by simp) _, h.far, h.mat.set j z, h.o1.apart (by simp) _, h.o2.apart (by simp) _, h.st.apart (by simp; omega) _⟩
theorem R4.setS {b : Nat} {m s : Nat → Nat} {w wr : World} (h : R4 b m s w wr) (j z : Nat) : R4 b m (upd s j z) w (wr.setCell ⟨b, j, none⟩ (.int .u8 (z : Int))) :=
  have hb := h.far
  ⟨h.low.setCell (by simp; omega) _, h.far, h.mat.apart (by simp; omega) _, h.o1.apart (by simp; omega) _, h.o2.apart (by simp; omega) _, h.st.set j z⟩

theorem R4.start {f : Nat → Nat} {w wr w1 : World} (h : M3 68 f (fun _ => 0) w wr) (hb : Below wr.heap.size wr w1) :
    R4 w1.heap.size f one w ((w1.alloc (.cells (ba 8 (fun _ => 0)) 68)).setRow w1.heap.size (ba 8 one)) := by
  have h1 := h.on hb
  have s1 := h1.src.lt; have s2 := h1.out.lt; have s3 := h1.var.lt
  refine ⟨below_setRow (h1.low.alloc (by omega) _) (by omega) _, by omega, (h1.src.alloc _).rowApart (by omega) _, (h1.out.alloc _).rowApart (by omega) _, (h1.var.alloc _).rowApart (by omega) _, (At.new w1 8 68 _).row _⟩

/-- A whole load in a region that draws its order: it may be taken first. -/
theorem yields_load_ba {P : Program} {ops : Array Oper} {S : World → Prop} {op : Oper} {a : Act} (hw : Region.wanted op (yielded ops a.tmps) = true) (ty : TypeId) (x : Operand) (ho : op.op = .load ty x)
    (b n : Nat) (t e : TypeId) (f : Nat → Nat) (hx : a.eval x = .pointer (some ⟨b, 0, none⟩)) (hS : ∀ w, S w → At w b n t f)
    (hu : P.underlying ty = some (.array n e)) (hi : (P.info? ty).map (·.size) = some n) : YieldsIf P ops S op (.agg (ba n f)) a :=
  .inl ⟨hw, fun w hw' => by
    unfold execOp
    simp only [ho, hx, Instr.loadAt, Instr.sureAddr, Sem.run_bind, Sem.run_pure, Result.andThen_ok, (hS w hw').load ty hu hi]⟩

end Go.Proofs.Ytnklljlgghenpaa
