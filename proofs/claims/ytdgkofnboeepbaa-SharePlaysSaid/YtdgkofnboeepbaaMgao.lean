import Derived.Test.YtdgkofnboeepbaaProg
import Derived.Test.YtdgkofnboeepbaaMgan
import Derived.Deep.CutRange
import Derived.Deep.CutBlock
/- Share: an act of a pair. -/
namespace Go.Proofs.Ytdgkofnboeepbaa
open Go.RowKit
set_option maxRecDepth 100000
theorem Gz.begins {Pm : World → Nat → Ms → (Nat → Prop) → Prop} (hM : Mach Pm) {lo : Nat} {X : Nat → Prop} {W w wA : World} {p b : Nat} {S1 S2 : Ms} (h : Bz Pm lo X W w p b S1 S2) (hb : Below w.heap.size w wA) (hs : wA.heap.size = w.heap.size + 3) (pa ac : Array Value)
    (e0 : wA.heap[w.heap.size]? = some (.cells pa 28 (0, 0))) (e1 : wA.heap[w.heap.size + 1]? = some (.cells ac 38 (0, 0))) (e2 : wA.heap[w.heap.size + 2]? = some (.cells #[.int .i64 0, .int .i64 0, .int .i64 0] 33 (0, 0))) :
    Gz Pm lo (fun k => X k ∨ k = w.heap.size ∨ k = w.heap.size + 1) W ((w.alloc (.cells pa 28)).alloc (.cells ac 38)) wA p b S1 S2 [(w.heap.size + 2, #[.int .i64 0, .int .i64 0, .int .i64 0])] := by
  have hlo := h.los
  have hX : ∀ k, X k → k < w.heap.size := by
    obtain ⟨F, G, ov, bv, vv, tv, h1, h2, h3, h4, h5, h6, h7⟩ := h
    exact fun k hk => (h4 k hk).1
  have h0 : Below w.heap.size w ((w.alloc (.cells pa 28)).alloc (.cells ac 38)) := ((Below.refl _ _).alloc (Nat.le_refl _) _).alloc (by simp) _
  refine ⟨(h.more hM hb).less (fun k hk => ?_), fun q hq => ?_, fun k hk => ?_, by simp; omega⟩
  · rcases hk with (e | e | e) | ⟨q, hq, e⟩
    · exact .inl e
    · exact .inr (by omega)
    · exact .inr (by omega)
    · simp at hq; subst hq; subst e; exact .inr (by simp; omega)
  · simp at hq; subst hq; exact ⟨by simp, e2⟩
  · rcases hk with e | rfl | rfl
    · have := hX k e
      exact ⟨by simp; omega, (hb.block k this).trans (h0.block k this).symm⟩
    · exact ⟨by simp; omega, e0.trans ((heap_alloc_old _ _ (by simp)).trans (heap_alloc_new _ _)).symm⟩
    · refine ⟨by simp, e1.trans ?_⟩
      have := heap_alloc_new (w.alloc (.cells pa 28)) (.cells ac 38)
      rw [show (w.alloc (.cells pa 28)).heap.size = w.heap.size + 1 by simp] at this
      exact this.symm
/-- Which kind is done: 1, if it is none, or there are no words yet. -/
def kd5 (K : Int) (NL : Nat) : Int := if K < 0 ∨ (NL = 0 ∧ 2 < K) then 1 else K
theorem exec_eqWd {w : World} {o : Oper} {a : Act} (u v : Operand) (ho : o.op = .binOp .eql 33 u v 33) (W U : Nat → Int) (hx : a.eval u = .agg (wdV W)) (hy : a.eval v = .agg (wdV U)) :
    (execOp a.eval o).run Try.prog w = .ok (.value (.bool (decide (W 0 = U 0 ∧ W 1 = U 1 ∧ W 2 = U 2)))) w := by
  have heq := fun w => eqWd W U w
  have hguard : Try.prog.eqGuardType Try.prog.depth 33 = false := by kernel_rfl
  unfold execOp
  rw [ho]
  simp only [hx, hy]
  generalize wdV W = A at *
  generalize wdV U = B at *
  generalize decide (W 0 = U 0 ∧ W 1 = U 1 ∧ W 2 = U 2) = q at *
  go_simp
/-- What an act's walk holds, behind its boxes. -/
structure Pb (Pm : World → Nat → Ms → (Nat → Prop) → Prop) (lo : Nat) (X : Nat → Prop) (W w : World) (pa : Array Value) (a : Ac5) (wx : World) (p b : Nat) (S1 S2 : Ms) (b7 b8 : Nat) (c7 c8 : Array Value) : Prop where
  g : Gz Pm lo (fun k => X k ∨ k = w.heap.size ∨ k = w.heap.size + 1) W ((w.alloc (.cells pa 28)).alloc (.cells (ac5 a) 38)) wx p b S1 S2 [(b7, c7), (b8, c8), (w.heap.size + 2, #[.int .i64 0, .int .i64 0, .int .i64 0])]
  ne : b7 ≠ b8 ∧ b7 ≠ w.heap.size + 2 ∧ b8 ≠ w.heap.size + 2
section
variable {Pm : World → Nat → Ms → (Nat → Prop) → Prop} {lo : Nat} {X : Nat → Prop} {W w wx wy : World} {pa : Array Value} {a : Ac5} {p b : Nat} {S1 S2 S1' S2' : Ms} {b7 b8 : Nat} {c7 c8 : Array Value}
theorem Pb.pair (h : Pb Pm lo X W w pa a wx p b S1 S2 b7 b8 c7 c8) : wx.heap[w.heap.size]? = some (.cells pa 28 (0, 0)) :=
  (h.g.st _ (.inr (.inl rfl))).2.trans ((heap_alloc_old _ _ (by simp)).trans (heap_alloc_new _ _))
theorem Pb.act (h : Pb Pm lo X W w pa a wx p b S1 S2 b7 b8 c7 c8) : wx.heap[w.heap.size + 1]? = some (.cells (ac5 a) 38 (0, 0)) := by
  have := heap_alloc_new (w.alloc (.cells pa 28)) (.cells (ac5 a) 38)
  rw [show (w.alloc (.cells pa 28)).heap.size = w.heap.size + 1 by simp] at this
  exact (h.g.st _ (.inr (.inr rfl))).2.trans this
theorem Pb.self (hM : Mach Pm) (h : Pb Pm lo X W w pa a wx p b S1 S2 b7 b8 c7 c8) (hb : Below wx.heap.size wx wy) : Pb Pm lo X W w pa a wy p b S1 S2 b7 b8 c7 c8 := ⟨h.g.self hM hb, h.ne⟩
theorem Pb.on (h : Pb Pm lo X W w pa a wx p b S1 S2 b7 b8 c7 c8) (hz : Bz Pm lo (fun k => (X k ∨ k = w.heap.size ∨ k = w.heap.size + 1) ∨ ∃ q ∈ [(b7, c7), (b8, c8), (w.heap.size + 2, #[.int .i64 0, .int .i64 0, .int .i64 0])], q.1 = k) W wy p b S1' S2')
    (hs : ∀ k, ((X k ∨ k = w.heap.size ∨ k = w.heap.size + 1) ∨ ∃ q ∈ [(b7, c7), (b8, c8), (w.heap.size + 2, #[.int .i64 0, .int .i64 0, .int .i64 0])], q.1 = k) → wy.heap[k]? = wx.heap[k]?) : Pb Pm lo X W w pa a wy p b S1' S2' b7 b8 c7 c8 := ⟨h.g.on hz hs, h.ne⟩
theorem Pb.put7 (hM : Mach Pm) (h : Pb Pm lo X W w pa a wx p b S1 S2 b7 b8 c7 c8) (cs : Array Value) : Pb Pm lo X W w pa a (wx.setRow b7 cs) p b S1 S2 b7 b8 cs c8 :=
  ⟨h.g.row hM (by intro q hq; simp at hq; rcases hq with rfl | rfl; exact h.ne.1.symm; exact h.ne.2.1.symm) cs, h.ne⟩
theorem Pb.put8 (hM : Mach Pm) (h : Pb Pm lo X W w pa a wx p b S1 S2 b7 b8 c7 c8) (cs : Array Value) : Pb Pm lo X W w pa a (wx.setRow b8 cs) p b S1 S2 b7 b8 c7 cs :=
  ⟨((h.g.swap (bs' := [(b8, c8), (b7, c7), (w.heap.size + 2, #[.int .i64 0, .int .i64 0, .int .i64 0])]) (by intro q hq; simp at hq ⊢; rcases hq with rfl | rfl | rfl <;> simp)).row hM (by intro q hq; simp at hq; rcases hq with rfl | rfl; exact h.ne.1; exact h.ne.2.2.symm) cs).swap (by intro q hq; simp at hq ⊢; rcases hq with rfl | rfl | rfl <;> simp), h.ne⟩
theorem Pb.h7 (h : Pb Pm lo X W w pa a wx p b S1 S2 b7 b8 c7 c8) : wx.heap[b7]? = some (.cells c7 33 (0, 0)) := (h.g.bx (b7, c7) (by simp)).2
theorem Pb.h8 (h : Pb Pm lo X W w pa a wx p b S1 S2 b7 b8 c7 c8) : wx.heap[b8]? = some (.cells c8 33 (0, 0)) := (h.g.bx (b8, c8) (by simp)).2
theorem Pb.h4 (h : Pb Pm lo X W w pa a wx p b S1 S2 b7 b8 c7 c8) : wx.heap[w.heap.size + 2]? = some (.cells #[.int .i64 0, .int .i64 0, .int .i64 0] 33 (0, 0)) := (h.g.bx (w.heap.size + 2, #[.int .i64 0, .int .i64 0, .int .i64 0]) (by simp)).2
end
theorem Pb.put4 {Pm : World → Nat → Ms → (Nat → Prop) → Prop} {lo : Nat} {X : Nat → Prop} {W w wx : World} {pa : Array Value} {a : Ac5} {p b : Nat} {S1 S2 : Ms} {b7 b8 : Nat} {c7 c8 : Array Value} (hM : Mach Pm) (h : Pb Pm lo X W w pa a wx p b S1 S2 b7 b8 c7 c8) (cs : Array Value) :
    Gz Pm lo (fun k => X k ∨ k = w.heap.size ∨ k = w.heap.size + 1) W ((w.alloc (.cells pa 28)).alloc (.cells (ac5 a) 38)) (wx.setRow (w.heap.size + 2) cs) p b S1 S2 [(w.heap.size + 2, cs), (b7, c7), (b8, c8)] :=
  (h.g.swap (bs' := [(w.heap.size + 2, #[.int .i64 0, .int .i64 0, .int .i64 0]), (b7, c7), (b8, c8)]) (by intro q hq; simp at hq ⊢; rcases hq with rfl | rfl | rfl <;> simp)).row hM (by intro q hq; simp at hq; rcases hq with rfl | rfl; exact h.ne.2.1; exact h.ne.2.2) cs
/-- The walk's end. -/
theorem Gz.fin5 {Pm : World → Nat → Ms → (Nat → Prop) → Prop} {lo : Nat} {X : Nat → Prop} {W w w0 wx : World} {p b : Nat} {S1 S2 : Ms} {bs : List (Nat × Array Value)} (_hM : Mach Pm) (hX : ∀ k, X k → k < w.heap.size) (h : Gz Pm lo (fun k => X k ∨ k = w.heap.size ∨ k = w.heap.size + 1) W w0 wx p b S1 S2 bs) (h0 : Below w.heap.size w w0) :
    Bz Pm lo X W wx p b S1 S2 ∧ ∀ k, X k → wx.heap[k]? = w.heap[k]? :=
  ⟨h.fin.1.less (fun _ hk => .inl hk), fun k hk => (h.fin.2 k (.inl hk)).trans (h0.block k (hX k hk))⟩
theorem results_cell_tmp2 {P : Program} {fn : Func} {p u v : Tmp} {ty : TypeId} (h : fn.results = #[.cell p ty, .tmp u, .tmp v]) (tmps : Array Value) (w : World) :
    (results fn tmps).run P w = ((asAddr (tmps.getD p undef)).run P w).andThen fun a w₁ => ((loadVar ty a).run P w₁).andThen fun x w₂ => .ok (.tuple #[x, tmps.getD u undef, tmps.getD v undef]) w₂ := by
  simp only [results, h]
  simp [Sem.run_bind, Result.andThen]
theorem ret_row_tmp2 {P : Program} {fn : Func} {p u v : Tmp} {ty : TypeId} {R : Ending → World → Prop} {a : Act} {w : World} {b : Nat} {t : TypeId} {cs : Array Value} {d : TypeDesc} (h : fn.results = #[.cell p ty, .tmp u, .tmp v])
    (hp : a.tmps.getD p undef = .pointer (some ⟨b, 0, none⟩)) (hA : w.heap[b]? = some (.cells cs t (0, 0))) (hu : P.underlying ty = some d) (hag : (match d with | .struct _ | .array _ _ => true | _ => false) = true) (hi : (P.info? ty).map (·.size) = some cs.size) (hd : a.defers = [])
    (k : R (.returned (.tuple #[.agg cs, a.tmps.getD u undef, a.tmps.getD v undef])) w) : bodyPost P fn R .ret a w := by
  refine bodyPost_ret ?_ hd k
  rw [results_cell_tmp2 h, hp]
  simp only [asAddr, Sem.run_pure, Result.andThen_ok, run_loadVar_row w b t ty cs (0, 0) d hA hu hag hi]
end Go.Proofs.Ytdgkofnboeepbaa
