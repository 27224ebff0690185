import Derived.Test.YthkijncnndoafaaGreatDoorGenA
import Derived.Test.YthkijncnndoafaaGreatDoorBtm
import Derived.Deep.CutBlock
/- What the boxes of a row that grows tell. -/
namespace Go.Proofs.YthkijncnndoafaaGreatDoor
open Go.RowKit Go.Deep
set_option maxRecDepth 100000
theorem Gy.liftX {Pm : World → Nat → Ms → (Nat → Prop) → Prop} {lo : Nat} {X0 : Nat → Prop} {W w0 wx : World} {p b : Nat} {S1 S2 S1' S2' : Ms} {bs : List (Nat × Obj)} (h : Gy Pm lo X0 W w0 wx p b S1 S2 bs) {p' : Nat} {f : FuncId} {args : Array Value} {E : Ending → Prop} (hc : ∀ X : Nat → Prop, (∀ q ∈ bs, X q.1) → ∀ W, Bz Pm lo X W wx p b S1 S2 → Calls Tryz.prog f args wx fun e w' => E e ∧ Bz Pm lo X W w' p' b S1' S2' ∧ ∀ k, X k → w'.heap[k]? = wx.heap[k]?) :
  Calls Tryz.prog f args wx fun e w' => E e ∧ Gy Pm lo X0 W w0 w' p' b S1' S2' bs :=
 (hc _ (fun q hq => .inr ⟨q, hq, rfl⟩) wx h.z.base).mono fun _ _ hr => ⟨hr.1, hr.2.1.up h.z.low, fun q hq => ⟨(h.bx q hq).1, (hr.2.2 _ (.inr ⟨q, hq, rfl⟩)).trans (h.bx q hq).2⟩, fun k hk => ⟨(h.st k hk).1, (hr.2.2 k (.inl hk)).trans (h.st k hk).2⟩, h.lo, Nat.le_trans h.le hr.2.1.low.size, h.nd⟩
theorem Bz.grow {Pm : World → Nat → Ms → (Nat → Prop) → Prop} {lo : Nat} {X Y H : Nat → Prop} {W wx wy : World} {p b : Nat} {S1 S2 : Ms} (hM : Mach Pm) (h : Bz Pm lo X W wx p b S1 S2) (hb : Tch H wx wy) (hH : ∀ k, H k → X k ∧ lo ≤ k) (hY : ∀ k, Y k → X k ∨ wx.heap.size ≤ k ∧ k < wy.heap.size) : Bz Pm lo Y W wy p b S1 S2 := by
 obtain ⟨F, G, ov, bv, vv, tv, h1, h2, h3, h4, h5, h6, h7⟩ := h
 refine ⟨F, G, ov, bv, vv, tv, hM.stays h1 hb.size (fun k hk => hb.block k (hM.lt h1 k hk) (fun f => (h3 k hk).2.2.2 (hH k f).1)), h2.stays hb.size (fun k hk => hb.block k (h2.ftlt hk) (fun f => (h4 k (hH k f).1).2.1 hk)) (fun k hk hlt => hb.block k hlt (fun f => (h4 k (hH k f).1).2.2 hk)), fun k hk => ⟨(h3 k hk).1, (h3 k hk).2.1, (h3 k hk).2.2.1, fun y => ?_⟩, fun k hk => ?_, fun k hk => Nat.lt_of_lt_of_le (h5 k hk) hb.size, h6.trans (hb.below (fun k f => (hH k f).2) h7), Nat.le_trans h7 hb.size⟩
 ·
  rcases hY k y with e | e
  · exact (h3 k hk).2.2.2 e
  · have := hM.lt h1 k hk; omega
 ·
  rcases hY k hk with e | e
  · exact ⟨Nat.lt_of_lt_of_le (h4 k e).1 hb.size, (h4 k e).2⟩
  · exact ⟨e.2, fun f => by have := h2.ftlt f; omega, fun g => by have := h5 k g; omega⟩
section
variable {Pm : World → Nat → Ms → (Nat → Prop) → Prop} {lo : Nat} {X0 : Nat → Prop} {W w0 wx wy : World} {p b : Nat} {S1 S2 : Ms} {bs : List (Nat × Obj)}
theorem Gy.grown (hM : Mach Pm) {n g : Nat} {o o' : Obj} (h : Gy Pm lo X0 W w0 wx p b S1 S2 ((n, o) :: bs)) (hg : wx.grownBy wy (some n)) (hp : some n = some g ∨ g = wx.heap.size) (hn : wy.heap[g]? = some o') : Gy Pm lo X0 W w0 wy p b S1 S2 ((g, o') :: bs) := by
 have hb := h.bx _ (List.mem_cons_self ..)
 have hnd := h.nd
 rw [List.map_cons, List.nodup_cons] at hnd
 have hT : Tch (fun k => k = n) wx wy := Tch.of_grown hg (fun k e => (Option.some.inj e).symm)
 have hgl : g < wy.heap.size := (Array.getElem?_eq_some_iff.1 hn).1
 refine ⟨h.z.grow (Y := fun k => X0 k ∨ ∃ q ∈ (g, o') :: bs, q.1 = k) hM hT (fun k hk => ?_) (fun k hk => ?_), fun q hq => ?_, fun k hk => ⟨(h.st k hk).1, (hg.block k (Nat.lt_of_lt_of_le (h.st k hk).1 h.le) (fun e => by have e' : k = n := Option.some.inj e; have := (h.st k hk).1; have e2 : w0.heap.size ≤ n := hb.1; omega)).trans (h.st k hk).2⟩, h.lo, Nat.le_trans h.le hg.size, ?_⟩
 ·
  subst hk
  exact ⟨.inr ⟨(k, o), List.mem_cons_self .., rfl⟩, Nat.le_trans h.lo hb.1⟩
 ·
  rcases hk with e | ⟨q, hq, rfl⟩
  · exact .inl (.inl e)
  ·
   rcases List.mem_cons.1 hq with rfl | hq
   ·
    rcases hp with hp | hp
    ·
     have e' : n = g := Option.some.inj hp
     exact .inl (.inr ⟨(n, o), List.mem_cons_self .., e'⟩)
    · exact .inr ⟨Nat.le_of_eq hp.symm, hgl⟩
   · exact .inl (.inr ⟨q, List.mem_cons_of_mem _ hq, rfl⟩)
 ·
  rcases List.mem_cons.1 hq with rfl | hq
  ·
   refine ⟨?_, hn⟩
   rcases hp with hp | hp
   ·
    have e' : n = g := Option.some.inj hp
    rw [← e']; exact hb.1
   ·
    show w0.heap.size ≤ g
    rw [hp]; exact h.le
  · exact ⟨(h.bx q (List.mem_cons_of_mem _ hq)).1, (hg.block q.1 (h.lt (List.mem_cons_of_mem _ hq)) (fun e => hnd.1 (List.mem_map.2 ⟨q, hq, Option.some.inj e⟩))).trans (h.bx q (List.mem_cons_of_mem _ hq)).2⟩
 ·
  rw [List.map_cons, List.nodup_cons]
  refine ⟨fun e => ?_, hnd.2⟩
  rcases hp with hp | hp
  ·
   have e' : n = g := Option.some.inj hp
   rw [← e'] at e; exact hnd.1 e
  ·
   obtain ⟨q, hq, e⟩ := List.mem_map.1 e
   have := h.lt (List.mem_cons_of_mem _ hq)
   have e' : q.1 = g := e
   omega
end
section
variable {E : TypeId} {k n g lo : Nat} {v : Value} {c : Nat → List Value} {o : Obj} {w : World}
theorem RowO.ext {E : TypeId} {k n g : Nat} {v : Value} {c d : Nat → List Value} {o : Obj} (h : RowO E k v n c g o) (e : ∀ i, i < n → c i = d i) : RowO E k v n d g o := by
 obtain ⟨cap, cur, e1, e2, h1, h2, h3, h4, h5⟩ := h
 rw [recs_ext e] at h4 h5
 exact ⟨cap, cur, e1, e2, h1, h2, h3, h4, h5⟩
end
section
variable {lo : Nat} {W w w' : World} {bs : List (Nat × Obj)}
theorem Bx.lt (h : Bx lo W w bs) {q : Nat × Obj} (hq : q ∈ bs) : q.1 < w.heap.size := (Array.getElem?_eq_some_iff.1 (h.bx q hq).2).1
theorem Bx.self (h : Bx lo W w bs) (hb : Below w.heap.size w w') : Bx lo W w' bs :=
 ⟨h.low.trans (hb.mono h.los), Nat.le_trans h.los hb.size, fun q hq => ⟨(h.bx q hq).1, (hb.block _ (h.lt hq)).trans (h.bx q hq).2⟩, h.nd⟩
theorem Bx.new (h : Bx lo W w bs) (cs : Array Value) (T : TypeId) : Bx lo W (w.alloc (.cells cs T)) ((w.heap.size, .cells cs T (0, 0)) :: bs) := by
 have h' := h.self ((Below.refl w.heap.size w).alloc (Nat.le_refl _) (.cells cs T))
 refine ⟨h'.low, h'.los, fun q hq => ?_, ?_⟩
 ·
  rcases List.mem_cons.1 hq with rfl | hq
  · exact ⟨h.los, heap_alloc_new _ _⟩
  · exact h'.bx q hq
 ·
  rw [List.map_cons, List.nodup_cons]
  refine ⟨fun e => ?_, h.nd⟩
  obtain ⟨q, hq, e⟩ := List.mem_map.1 e
  have := h.lt hq
  have e' : q.1 = w.heap.size := e
  omega
theorem Bx.bl (h : Bx lo W w bs) (i : Nat) {n : Nat} {u : Obj} (hi : bs[i]? = some (n, u)) : w.heap[n]? = some u := (h.bx (n, u) (List.mem_of_getElem? hi)).2
end
end Go.Proofs.YthkijncnndoafaaGreatDoor
