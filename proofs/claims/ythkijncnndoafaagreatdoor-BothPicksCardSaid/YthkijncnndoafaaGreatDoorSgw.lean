import Derived.Test.YthkijncnndoafaaGreatDoorGen
import Derived.Test.YthkijncnndoafaaGreatDoorWlm
import Derived.Test.YthkijncnndoafaaGreatDoorAcw
import Derived.Deep.MidRow
import Derived.Test.YthkijncnndoafaaGreatDoorProg
import Derived.Test.YthkijncnndoafaaGreatDoorShp
import Derived.KernelRfl
namespace Go.Proofs.YthkijncnndoafaaGreatDoor
open Go.ChangeShapes Go.WideShapes Go.ChangeAt Go.RowKit Go.Deep
set_option maxRecDepth 100000
theorem wdL_of {zs : List Int} (h : ∀ z ∈ zs, (Lit.int .u64 z).wf = true) : zs = wdL (fun i => (nth zs i).toNat) zs.length ∧ ∀ i, i < zs.length → (nth zs i).toNat < 2 ^ 64 := by
 have hb : ∀ i, i < zs.length → 0 ≤ nth zs i ∧ nth zs i ≤ 18446744073709551615 := fun i hi => by
  rw [nth_of hi]; exact bounds_u64 (h _ (List.getElem_mem _))
 refine ⟨List.ext_getElem (by simp [wdL]) fun i h1 h2 => ?_, fun i hi => by have := hb i hi; omega⟩
 have := hb i h1
 rw [nth_of h1] at this
 simp only [wdL, List.getElem_map, List.getElem_range, nth_of h1]
 exact (Int.toNat_of_nonneg this.1).symm
open Go.RowKit
set_option maxRecDepth 100000
structure Gy (Pm : World → Nat → Ms → (Nat → Prop) → Prop) (lo : Nat) (X0 : Nat → Prop) (W w0 wx : World) (p b : Nat) (S1 S2 : Ms) (bs : List (Nat × Obj)) : Prop where
 z : Bz Pm lo (fun k => X0 k ∨ ∃ q ∈ bs, q.1 = k) W wx p b S1 S2
 bx : ∀ q ∈ bs, w0.heap.size ≤ q.1 ∧ wx.heap[q.1]? = some q.2
 st : ∀ k, X0 k → k < w0.heap.size ∧ wx.heap[k]? = w0.heap[k]?
 lo : lo ≤ w0.heap.size
 le : w0.heap.size ≤ wx.heap.size
 nd : (bs.map (·.1)).Nodup
section
variable {Pm : World → Nat → Ms → (Nat → Prop) → Prop} {lo : Nat} {X0 : Nat → Prop} {W w0 wx wy : World} {p b : Nat} {S1 S2 S1' S2' : Ms} {bs : List (Nat × Obj)}
theorem Gy.start (h : Bz Pm lo X0 W w0 p b S1 S2) : Gy Pm lo X0 W w0 w0 p b S1 S2 [] := by
 have hX : ∀ k, X0 k → k < w0.heap.size := by
  obtain ⟨F, G, ov, bv, vv, tv, h1, h2, h3, h4, h5, h6, h7⟩ := h
  exact fun k hk => (h4 k hk).1
 refine ⟨h.less (fun k hk => ?_), fun q hq => (List.not_mem_nil hq).elim, fun k hk => ⟨hX k hk, rfl⟩, h.los, Nat.le_refl _, by simp⟩
 rcases hk with e | ⟨q, hq, _⟩
 · exact e
 · exact (List.not_mem_nil hq).elim
theorem Gy.lt (h : Gy Pm lo X0 W w0 wx p b S1 S2 bs) {q : Nat × Obj} (hq : q ∈ bs) : q.1 < wx.heap.size := (Array.getElem?_eq_some_iff.1 (h.bx q hq).2).1
theorem Gy.self (hM : Mach Pm) (h : Gy Pm lo X0 W w0 wx p b S1 S2 bs) (hb : Below wx.heap.size wx wy) : Gy Pm lo X0 W w0 wy p b S1 S2 bs :=
 ⟨h.z.self hM hb, fun q hq => ⟨(h.bx q hq).1, (hb.block _ (h.lt hq)).trans (h.bx q hq).2⟩, fun k hk => ⟨(h.st k hk).1, (hb.block k (Nat.lt_of_lt_of_le (h.st k hk).1 h.le)).trans (h.st k hk).2⟩, h.lo, Nat.le_trans h.le hb.size, h.nd⟩
theorem Gy.new (hM : Mach Pm) (h : Gy Pm lo X0 W w0 wx p b S1 S2 bs) (cs : Array Value) (T : TypeId) : Gy Pm lo X0 W w0 (wx.alloc (.cells cs T)) p b S1 S2 ((wx.heap.size, .cells cs T (0, 0)) :: bs) := by
 have hb := (Below.refl wx.heap.size wx).alloc (Nat.le_refl _) (.cells cs T)
 have h' := h.self hM hb
 refine ⟨(h.z.more hM hb).less (fun k hk => ?_), fun q hq => ?_, h'.st, h.lo, h'.le, ?_⟩
 ·
  rcases hk with e | ⟨q, hq, rfl⟩
  · exact .inl (.inl e)
  ·
   rcases List.mem_cons.1 hq with rfl | hq
   · exact .inr ⟨Nat.le_refl _, by simp⟩
   · exact .inl (.inr ⟨q, hq, rfl⟩)
 ·
  rcases List.mem_cons.1 hq with rfl | hq
  · exact ⟨h.le, heap_alloc_new _ _⟩
  · exact h'.bx q hq
 ·
  rw [List.map_cons, List.nodup_cons]
  refine ⟨fun e => ?_, h.nd⟩
  obtain ⟨q, hq, e⟩ := List.mem_map.1 e
  have := h.lt hq
  have e' : q.1 = wx.heap.size := e
  omega
theorem Gy.sub {bs' : List (Nat × Obj)} (h : Gy Pm lo X0 W w0 wx p b S1 S2 bs) (hs : ∀ q ∈ bs', q ∈ bs) (hn : (bs'.map (·.1)).Nodup) : Gy Pm lo X0 W w0 wx p b S1 S2 bs' :=
 ⟨h.z.less (fun _ hk => hk.imp id (fun ⟨q, hq, e⟩ => ⟨q, hs q hq, e⟩)), fun q hq => h.bx q (hs q hq), h.st, h.lo, h.le, hn⟩
theorem Gy.drop {q : Nat × Obj} (h : Gy Pm lo X0 W w0 wx p b S1 S2 (q :: bs)) : Gy Pm lo X0 W w0 wx p b S1 S2 bs := h.sub (fun _ hz => List.mem_cons_of_mem _ hz) (by have := h.nd; rw [List.map_cons, List.nodup_cons] at this; exact this.2)
theorem Gy.turn (hM : Mach Pm) {n : Nat} {o o' : Obj} (h : Gy Pm lo X0 W w0 wx p b S1 S2 ((n, o) :: bs)) (hn : wy.heap[n]? = some o') (ho : ∀ k, k ≠ n → wy.heap[k]? = wx.heap[k]?) (hs : wx.heap.size ≤ wy.heap.size) (hos : wy.os = wx.os ∧ wy.tape = wx.tape ∧ wy.output = wx.output) : Gy Pm lo X0 W w0 wy p b S1 S2 ((n, o') :: bs) := by
 have hb := h.bx _ (List.mem_cons_self ..)
 have hnd := h.nd
 rw [List.map_cons, List.nodup_cons] at hnd
 have hT : Tch (fun k => k = n) wx wy := ⟨hos.1, hos.2.1, hos.2.2, hs, fun k _ hk => ho k hk⟩
 refine ⟨(h.z.apart hM hT (fun k hk => ?_)).less (fun k hk => ?_), fun q hq => ?_, fun k hk => ⟨(h.st k hk).1, (ho k (by have := (h.st k hk).1; have e : w0.heap.size ≤ n := hb.1; omega)).trans (h.st k hk).2⟩, h.lo, Nat.le_trans h.le hs, ?_⟩
 ·
  subst hk
  exact ⟨.inr ⟨(k, o), List.mem_cons_self .., rfl⟩, Nat.le_trans h.lo hb.1⟩
 ·
  rcases hk with e | ⟨q, hq, rfl⟩
  · exact .inl e
  ·
   rcases List.mem_cons.1 hq with rfl | hq
   · exact .inr ⟨(n, o), List.mem_cons_self .., rfl⟩
   · exact .inr ⟨q, List.mem_cons_of_mem _ hq, rfl⟩
 ·
  rcases List.mem_cons.1 hq with rfl | hq
  · exact ⟨hb.1, hn⟩
  · exact ⟨(h.bx q (List.mem_cons_of_mem _ hq)).1, (ho q.1 (fun e => hnd.1 (List.mem_map.2 ⟨q, hq, e⟩))).trans (h.bx q (List.mem_cons_of_mem _ hq)).2⟩
 · rw [List.map_cons, List.nodup_cons]; exact hnd
theorem Gy.row (hM : Mach Pm) {n : Nat} {cs : Array Value} {T : TypeId} (h : Gy Pm lo X0 W w0 wx p b S1 S2 ((n, .cells cs T (0, 0)) :: bs)) (cs' : Array Value) : Gy Pm lo X0 W w0 (wx.setRow n cs') p b S1 S2 ((n, .cells cs' T (0, 0)) :: bs) :=
 h.turn hM (setRow_heap wx n cs cs' T _ (h.bx _ (List.mem_cons_self ..)).2) (fun k hk => setRow_other wx n k cs' hk) (by simp [World.setRow]) ⟨rfl, rfl, rfl⟩
theorem Gy.bl (h : Gy Pm lo X0 W w0 wx p b S1 S2 bs) (i : Nat) {n : Nat} {u : Obj} (hi : bs[i]? = some (n, u)) : wx.heap[n]? = some u := (h.bx (n, u) (List.mem_of_getElem? hi)).2
theorem Bz.base {X : Nat → Prop} (h : Bz Pm lo X W wx p b S1 S2) : Bz Pm lo X wx wx p b S1 S2 := by
 obtain ⟨F, G, ov, bv, vv, tv, h1, h2, h3, h4, h5, h6, h7⟩ := h
 exact ⟨F, G, ov, bv, vv, tv, h1, h2, h3, h4, h5, Below.refl _ _, h7⟩
theorem Bz.up {X : Nat → Prop} (h : Bz Pm lo X wx wy p b S1 S2) (hb : Below lo W wx) : Bz Pm lo X W wy p b S1 S2 := by
 obtain ⟨F, G, ov, bv, vv, tv, h1, h2, h3, h4, h5, h6, h7⟩ := h
 exact ⟨F, G, ov, bv, vv, tv, h1, h2, h3, h4, h5, hb.trans h6, h7⟩
theorem Gy.lift (h : Gy Pm lo X0 W w0 wx p b S1 S2 bs) {p' : Nat} {f : FuncId} {args : Array Value} {E : Ending → Prop} (hc : ∀ X W, Bz Pm lo X W wx p b S1 S2 → Calls Tryz.prog f args wx fun e w' => E e ∧ Bz Pm lo X W w' p' b S1' S2' ∧ ∀ k, X k → w'.heap[k]? = wx.heap[k]?) :
  Calls Tryz.prog f args wx fun e w' => E e ∧ Gy Pm lo X0 W w0 w' p' b S1' S2' bs :=
 (hc _ wx h.z.base).mono fun _ _ hr => ⟨hr.1, hr.2.1.up h.z.low, fun q hq => ⟨(h.bx q hq).1, (hr.2.2 _ (.inr ⟨q, hq, rfl⟩)).trans (h.bx q hq).2⟩, fun k hk => ⟨(h.st k hk).1, (hr.2.2 k (.inl hk)).trans (h.st k hk).2⟩, h.lo, Nat.le_trans h.le hr.2.1.low.size, h.nd⟩
theorem Gy.asks (hM : Mach Pm) (h : Gy Pm lo X0 W w0 wx p b S1 S2 bs) {f : FuncId} {args : Array Value} {E : Ending → World → Prop} (hc : ∀ X W, Bz Pm lo X W wx p b S1 S2 → Calls Tryz.prog f args wx fun e w' => E e w' ∧ Below wx.heap.size wx w') :
  Calls Tryz.prog f args wx fun e w' => E e w' ∧ Gy Pm lo X0 W w0 w' p b S1 S2 bs :=
 (hc _ wx h.z.base).mono fun _ _ hr => ⟨hr.1, h.self hM hr.2⟩
theorem Gy.fin (h : Gy Pm lo X0 W w0 wx p b S1 S2 bs) : Bz Pm lo X0 W wx p b S1 S2 ∧ ∀ k, X0 k → wx.heap[k]? = w0.heap[k]? := ⟨h.z.less (fun _ hk => .inl hk), fun k hk => (h.st k hk).2⟩
end
open Go.RowKit
set_option maxRecDepth 100000
structure Od (lg : LoG) (F0 : Nat → Prop) (w0 w : World) (b : Nat) (S : Ms) (bs : List (Nat × Obj)) : Prop where
 ex : ∃ ov bv vv tv, Dm lg w b S ov bv vv tv ∧ (∀ k, Ft b ov bv vv k → F0 k ∨ w0.heap.size ≤ k) ∧ ∀ q ∈ bs, ¬ Ft b ov bv vv q.1
 tch : Tch F0 w0 w
 g : ∀ k, lg.G k → k < w0.heap.size
 bx : ∀ q ∈ bs, w0.heap.size ≤ q.1 ∧ w.heap[q.1]? = some q.2
 nd : (bs.map (·.1)).Nodup
section
variable {lg : LoG} {F0 : Nat → Prop} {w0 w w' : World} {b : Nat} {S S' : Ms} {bs : List (Nat × Obj)}
theorem Od.start {ov bv vv tv : Value} (h : Dm lg w b S ov bv vv tv) (hg : ∀ k, lg.G k → k < w.heap.size) : Od lg (Ft b ov bv vv) w w b S [] :=
 ⟨⟨ov, bv, vv, tv, h, fun _ q => .inl q, fun q hq => (List.not_mem_nil hq).elim⟩, Tch.refl _ _, hg, fun q hq => (List.not_mem_nil hq).elim, by simp⟩
theorem Od.lt (h : Od lg F0 w0 w b S bs) {q : Nat × Obj} (hq : q ∈ bs) : q.1 < w.heap.size := (Array.getElem?_eq_some_iff.1 (h.bx q hq).2).1
theorem Od.self (h : Od lg F0 w0 w b S bs) (hb : Below w.heap.size w w') : Od lg F0 w0 w' b S bs := by
 obtain ⟨ov, bv, vv, tv, h1, h2, h3⟩ := h.ex
 exact ⟨⟨ov, bv, vv, tv, h1.self hb, h2, h3⟩, h.tch.trans (Tch.of_below (F := F0) hb) (fun _ _ f => f), h.g, fun q hq => ⟨(h.bx q hq).1, (hb.block _ (h.lt hq)).trans (h.bx q hq).2⟩, h.nd⟩
theorem Od.new (h : Od lg F0 w0 w b S bs) (cs : Array Value) (T : TypeId) : Od lg F0 w0 (w.alloc (.cells cs T)) b S ((w.heap.size, .cells cs T (0, 0)) :: bs) := by
 have hb := (Below.refl w.heap.size w).alloc (Nat.le_refl _) (.cells cs T)
 have h' := h.self hb
 obtain ⟨ov, bv, vv, tv, h1, h2, h3⟩ := h.ex
 refine ⟨⟨ov, bv, vv, tv, h1.self hb, h2, fun q hq => ?_⟩, h'.tch, h.g, fun q hq => ?_, ?_⟩
 ·
  rcases List.mem_cons.1 hq with rfl | hq
  · exact fun e => by have := h1.ftlt e; omega
  · exact h3 q hq
 ·
  rcases List.mem_cons.1 hq with rfl | hq
  · exact ⟨h.tch.size, heap_alloc_new _ _⟩
  · exact h'.bx q hq
 ·
  rw [List.map_cons, List.nodup_cons]
  refine ⟨fun e => ?_, h.nd⟩
  obtain ⟨q, hq, e⟩ := List.mem_map.1 e
  have := h.lt hq
  have e' : q.1 = w.heap.size := e
  omega
theorem Od.sub {bs' : List (Nat × Obj)} (h : Od lg F0 w0 w b S bs) (hs : ∀ q ∈ bs', q ∈ bs) (hn : (bs'.map (·.1)).Nodup) : Od lg F0 w0 w b S bs' := by
 obtain ⟨ov, bv, vv, tv, h1, h2, h3⟩ := h.ex
 exact ⟨⟨ov, bv, vv, tv, h1, h2, fun q hq => h3 q (hs q hq)⟩, h.tch, h.g, fun q hq => h.bx q (hs q hq), hn⟩
theorem Od.drop {q : Nat × Obj} (h : Od lg F0 w0 w b S (q :: bs)) : Od lg F0 w0 w b S bs := h.sub (fun _ hz => List.mem_cons_of_mem _ hz) (by have := h.nd; rw [List.map_cons, List.nodup_cons] at this; exact this.2)
theorem Od.swap {q r : Nat × Obj} (h : Od lg F0 w0 w b S (q :: r :: bs)) : Od lg F0 w0 w b S (r :: q :: bs) := h.sub (fun z hz => by simp at hz ⊢; rcases hz with e | e | e <;> simp [e]) (by
 have := h.nd
 simp only [List.map_cons, List.nodup_cons, List.mem_cons, not_or] at this ⊢
 exact ⟨⟨fun e => this.1.1 e.symm, this.2.1⟩, this.1.2, this.2.2⟩)
theorem Od.turn {n : Nat} {o o' : Obj} (h : Od lg F0 w0 w b S ((n, o) :: bs)) (hn : w'.heap[n]? = some o') (ho : ∀ k, k ≠ n → w'.heap[k]? = w.heap[k]?) (hs : w.heap.size ≤ w'.heap.size) (hos : w'.os = w.os ∧ w'.tape = w.tape ∧ w'.output = w.output) : Od lg F0 w0 w' b S ((n, o') :: bs) := by
 have hb := h.bx _ (List.mem_cons_self ..)
 have hnd := h.nd
 rw [List.map_cons, List.nodup_cons] at hnd
 obtain ⟨ov, bv, vv, tv, h1, h2, h3⟩ := h.ex
 have hn0 : w0.heap.size ≤ n := hb.1
 have hne : ∀ k, Ft b ov bv vv k → k ≠ n := fun k hk e => h3 _ (List.mem_cons_self ..) (by show Ft b ov bv vv n; rw [← e]; exact hk)
 refine ⟨⟨ov, bv, vv, tv, h1.stays hs (fun k hk => ho k (hne k hk)) (fun k hk _ => ho k (by have := h.g k hk; omega)), h2, fun q hq => ?_⟩, ?_, h.g, fun q hq => ?_, ?_⟩
 ·
  rcases List.mem_cons.1 hq with rfl | hq
  · exact h3 (n, o) (List.mem_cons_self ..)
  · exact h3 q (List.mem_cons_of_mem _ hq)
 · exact h.tch.trans ⟨hos.1, hos.2.1, hos.2.2, hs, fun k hk hF => ho k (fun e => hF (by show n = k; exact e.symm))⟩ (G := fun k => n = k) (fun j hj e => by have e' : n = j := e; omega)
 ·
  rcases List.mem_cons.1 hq with rfl | hq
  · exact ⟨hb.1, hn⟩
  · exact ⟨(h.bx q (List.mem_cons_of_mem _ hq)).1, (ho q.1 (fun e => hnd.1 (List.mem_map.2 ⟨q, hq, e⟩))).trans (h.bx q (List.mem_cons_of_mem _ hq)).2⟩
 · rw [List.map_cons, List.nodup_cons]; exact hnd
theorem Od.row {n : Nat} {cs : Array Value} {T : TypeId} (h : Od lg F0 w0 w b S ((n, .cells cs T (0, 0)) :: bs)) (cs' : Array Value) : Od lg F0 w0 (w.setRow n cs') b S ((n, .cells cs' T (0, 0)) :: bs) :=
 h.turn (setRow_heap w n cs cs' T _ (h.bx _ (List.mem_cons_self ..)).2) (fun k hk => setRow_other w n k cs' hk) (by simp [World.setRow]) ⟨rfl, rfl, rfl⟩
theorem Od.cell {n : Nat} {cs : Array Value} {T : TypeId} (h : Od lg F0 w0 w b S ((n, .cells cs T (0, 0)) :: bs)) (i : Nat) (v : Value) : Od lg F0 w0 (w.setCell ⟨n, i, none⟩ v) b S ((n, .cells (cs.setIfInBounds i v) T (0, 0)) :: bs) :=
 h.turn (heap_setCell_same w n i cs T v (h.bx _ (List.mem_cons_self ..)).2) (fun k hk => heap_setCell_other w ⟨n, i, none⟩ k v hk) (by simp [World.setCell]) ⟨rfl, rfl, rfl⟩
theorem Od.bl (h : Od lg F0 w0 w b S bs) (i : Nat) {n : Nat} {u : Obj} (hi : bs[i]? = some (n, u)) : w.heap[n]? = some u := (h.bx (n, u) (List.mem_of_getElem? hi)).2
theorem Od.n (h : Od lg F0 w0 w b S bs) : w.cell? ⟨b, 0, none⟩ = some (.int .i64 S.n) := by
 obtain ⟨ov, bv, vv, tv, h1, _⟩ := h.ex
 exact h1.c_n
theorem Od.lift (h : Od lg F0 w0 w b S bs) {f : FuncId} {args : Array Value} {E : Ending → Prop} (hc : ∀ ov bv vv tv, Dm lg w b S ov bv vv tv → Calls Tryz.prog f args w fun e w' => E e ∧ DmR lg b ov bv vv S' w w') : Calls Tryz.prog f args w fun e w' => E e ∧ Od lg F0 w0 w' b S' bs := by
 obtain ⟨ov, bv, vv, tv, h1, h2, h3⟩ := h.ex
 refine (hc ov bv vv tv h1).mono fun e w' hr => ⟨hr.1, ?_⟩
 obtain ⟨ov', bv', vv', tv', g1, g2, g3⟩ := hr.2
 refine ⟨⟨ov', bv', vv', tv', g1, fun k hk => ?_, fun q hq e => ?_⟩, h.tch.trans g2 (fun j hj f => (h2 j f).resolve_right (by omega)), h.g, fun q hq => ⟨(h.bx q hq).1, (g2.block q.1 (h.lt hq) (h3 q hq)).trans (h.bx q hq).2⟩, h.nd⟩
 ·
  rcases g3 k hk with f | f
  · exact h2 k f
  · exact .inr (Nat.le_trans h.tch.size f)
 ·
  rcases g3 _ e with f | f
  · exact h3 q hq f
  · have := h.lt hq; omega
theorem Od.fin {ov bv vv : Value} (h : Od lg (Ft b ov bv vv) w0 w b S bs) : DmR lg b ov bv vv S w0 w := by
 obtain ⟨ov', bv', vv', tv', h1, h2, _⟩ := h.ex
 exact ⟨ov', bv', vv', tv', h1, h.tch, h2⟩
theorem Od.do0 {k : Nat} (o : Op6) (h : Od lg F0 w0 w b S bs) (hq : Bq k S) (hk : k ≤ 100000) (ho : opwf o) : Calls Tryz.prog 44 #[.pointer (some ⟨b, 0, none⟩), .agg (opCs o), .int .u64 0] w fun e w' => e = .returned (.int .i64 (S.doR o)) ∧ Od lg F0 w0 w' b (S.doS o 0) bs :=
 h.lift (fun ov bv vv tv hd => ddo_any lg b S o 0 ov bv vv tv w hd (hq.bd hk) (by decide) (by have := ho.2.2.2.2.2; omega))
theorem Od.begins {k : Nat} (kd : Int) (h : Od lg F0 w0 w b S bs) (hq : Bq k S) (hk : k ≤ 100000) : Calls Tryz.prog 77 #[.pointer (some ⟨b, 0, none⟩), .int .i64 kd] w fun e w' => e = .returned (.tuple #[]) ∧ Od lg F0 w0 w' b (S.beginS kd) bs :=
 h.lift (fun ov bv vv tv hd => (dbegin_any lg b S ov bv vv tv kd w hd (hq.bd hk)).mono fun _ _ hr => ⟨hr.1, ov, bv, vv, tv, hr.2.1, hr.2.2, fun _ hk => .inl hk⟩)
theorem Od.ends {k : Nat} (h : Od lg F0 w0 w b S bs) (hq : Bq k S) (hk : k ≤ 100000) : Calls Tryz.prog 78 #[.pointer (some ⟨b, 0, none⟩)] w fun e w' => e = .returned (.tuple #[]) ∧ Od lg F0 w0 w' b S.endS bs :=
 h.lift (fun ov bv vv tv hd => dend_any lg b S ov bv vv tv w hd (hq.bd hk))
end
theorem Bz.docs {Pm : World → Nat → Ms → (Nat → Prop) → Prop} (hM : Mach Pm) {lo : Nat} {X : Nat → Prop} {W w : World} {p b : Nat} {S1 S S' : Ms} (h : Bz Pm lo X W w p b S1 S) {f : FuncId} {args : Array Value} {E : Ending → Prop}
  (hc : ∀ lg F0, Od lg F0 w w b S [] → Calls Tryz.prog f args w fun e w' => E e ∧ Od lg F0 w w' b S' []) : Calls Tryz.prog f args w fun e w' => E e ∧ Bz Pm lo X W w' p b S1 S' ∧ ∀ k, X k → w'.heap[k]? = w.heap[k]? := by
 obtain ⟨F, G, ov, bv, vv, tv, h1, h2, h3, h4, h5, h6, h7⟩ := h
 exact (hc ⟨lo, G⟩ _ (Od.start h2 h5)).mono fun _ _ hr => ⟨hr.1, Bz.doc hM h1 h2 h3 h4 h5 h6 h7 hr.2.fin⟩
open Go.RowKit
set_option maxRecDepth 100000
theorem nodup_at {l : List Nat} (h : l.Nodup) {i j n : Nat} (hi : l[i]? = some n) (hj : l[j]? = some n) : i = j := by
 obtain ⟨h1, e1⟩ := List.getElem?_eq_some_iff.1 hi
 obtain ⟨h2, e2⟩ := List.getElem?_eq_some_iff.1 hj
 exact (List.getElem_inj h).1 (e1.trans e2.symm)
theorem bxs_set {bs : List (Nat × Obj)} {w w' : World} {lo i n : Nat} {o o' : Obj} (hnd : (bs.map (·.1)).Nodup) (hb : ∀ q ∈ bs, lo ≤ q.1 ∧ w.heap[q.1]? = some q.2) (hi : bs[i]? = some (n, o)) (hn : w'.heap[n]? = some o') (ho : ∀ k, k ≠ n → w'.heap[k]? = w.heap[k]?) :
  (bs.set i (n, o')).map (·.1) = bs.map (·.1) ∧ ∀ q ∈ bs.set i (n, o'), lo ≤ q.1 ∧ w'.heap[q.1]? = some q.2 := by
 have hlt : i < bs.length := (List.getElem?_eq_some_iff.1 hi).1
 have hin := hb _ (List.mem_of_getElem? hi)
 refine ⟨?_, fun q hq => ?_⟩
 ·
  apply List.ext_getElem?
  intro j
  rw [List.getElem?_map, List.getElem?_map, List.getElem?_set]
  by_cases e : i = j
  · subst e; rw [if_pos rfl, if_pos hlt, hi]; rfl
  · rw [if_neg e]
 ·
  obtain ⟨j, hj⟩ := List.mem_iff_getElem?.1 hq
  rw [List.getElem?_set] at hj
  by_cases e : i = j
  ·
   subst e
   rw [if_pos rfl, if_pos hlt] at hj
   obtain rfl := Option.some.inj hj
   exact ⟨hin.1, hn⟩
  ·
   rw [if_neg e] at hj
   have hq' := hb q (List.mem_of_getElem? hj)
   have hne : q.1 ≠ n := fun e2 => e (nodup_at hnd (i := i) (j := j) (n := n) (by rw [List.getElem?_map, hi]; rfl) (by rw [List.getElem?_map, hj]; exact congrArg some e2))
   exact ⟨hq'.1, (ho _ hne).trans hq'.2⟩
theorem mem_fst {bs bs' : List (Nat × Obj)} (h : bs'.map (·.1) = bs.map (·.1)) {q : Nat × Obj} (hq : q ∈ bs') : ∃ r ∈ bs, r.1 = q.1 := by
 have : q.1 ∈ bs'.map (·.1) := List.mem_map.2 ⟨q, hq, rfl⟩
 rw [h] at this
 exact List.mem_map.1 this
section
variable {lg : LoG} {F0 : Nat → Prop} {w0 w w' : World} {b : Nat} {S : Ms} {bs : List (Nat × Obj)}
theorem Od.turnI {i n : Nat} {o o' : Obj} (h : Od lg F0 w0 w b S bs) (hi : bs[i]? = some (n, o)) (hn : w'.heap[n]? = some o') (ho : ∀ k, k ≠ n → w'.heap[k]? = w.heap[k]?) (hs : w.heap.size ≤ w'.heap.size) (hos : w'.os = w.os ∧ w'.tape = w.tape ∧ w'.output = w.output) : Od lg F0 w0 w' b S (bs.set i (n, o')) := by
 obtain ⟨h1, h2⟩ := bxs_set h.nd h.bx hi hn ho
 have hq := List.mem_of_getElem? hi
 obtain ⟨ov, bv, vv, tv, g1, g2, g3⟩ := h.ex
 have hn0 : w0.heap.size ≤ n := (h.bx _ hq).1
 have hne : ∀ k, Ft b ov bv vv k → k ≠ n := fun k hk e => g3 _ hq (by show Ft b ov bv vv n; rw [← e]; exact hk)
 refine ⟨⟨ov, bv, vv, tv, g1.stays hs (fun k hk => ho k (hne k hk)) (fun k hk _ => ho k (by have := h.g k hk; omega)), g2, fun q hq => ?_⟩, ?_, h.g, h2, h1 ▸ h.nd⟩
 ·
  obtain ⟨r, hr, e⟩ := mem_fst h1 hq
  rw [← e]; exact g3 r hr
 · exact h.tch.trans ⟨hos.1, hos.2.1, hos.2.2, hs, fun k hk hF => ho k (fun e => hF (by show n = k; exact e.symm))⟩ (G := fun k => n = k) (fun j hj e => by have e' : n = j := e; omega)
theorem Od.cellI {n : Nat} {cs : Array Value} {T : TypeId} (h : Od lg F0 w0 w b S bs) (i : Nat) (hi : bs[i]? = some (n, .cells cs T (0, 0))) (j : Nat) (v : Value) : Od lg F0 w0 (w.setCell ⟨n, j, none⟩ v) b S (bs.set i (n, .cells (cs.setIfInBounds j v) T (0, 0))) :=
 h.turnI hi (heap_setCell_same w n j cs T v (h.bl i hi)) (fun k hk => heap_setCell_other w ⟨n, j, none⟩ k v hk) (by simp [World.setCell]) ⟨rfl, rfl, rfl⟩
theorem Od.rowI {n : Nat} {cs : Array Value} {T : TypeId} (h : Od lg F0 w0 w b S bs) (i : Nat) (hi : bs[i]? = some (n, .cells cs T (0, 0))) (cs' : Array Value) : Od lg F0 w0 (w.setRow n cs') b S (bs.set i (n, .cells cs' T (0, 0))) :=
 h.turnI hi (setRow_heap w n cs cs' T _ (h.bl i hi)) (fun k hk => setRow_other w n k cs' hk) (by simp [World.setRow]) ⟨rfl, rfl, rfl⟩
end
section
variable {Pm : World → Nat → Ms → (Nat → Prop) → Prop} {F0 : Nat → Prop} {w0 w w' : World} {b : Nat} {S : Ms} {bs : List (Nat × Obj)}
theorem Ow.turnI {i n : Nat} {o o' : Obj} (hM : Mach Pm) (h : Ow Pm F0 w0 w b S bs) (hi : bs[i]? = some (n, o)) (hn : w'.heap[n]? = some o') (ho : ∀ k, k ≠ n → w'.heap[k]? = w.heap[k]?) (hs : w.heap.size ≤ w'.heap.size) (hos : w'.os = w.os ∧ w'.tape = w.tape ∧ w'.output = w.output) : Ow Pm F0 w0 w' b S (bs.set i (n, o')) := by
 obtain ⟨h1, h2⟩ := bxs_set h.nd h.bx hi hn ho
 have hq := List.mem_of_getElem? hi
 obtain ⟨F, g1, g2, g3⟩ := h.ex
 have hn0 : w0.heap.size ≤ n := (h.bx _ hq).1
 have hne : ∀ k, F k → k ≠ n := fun k hk e => g3 _ hq (by show F n; rw [← e]; exact hk)
 refine ⟨⟨F, hM.stays g1 hs (fun k hk => ho k (hne k hk)), g2, fun q hq => ?_⟩, ?_, h2, h1 ▸ h.nd⟩
 ·
  obtain ⟨r, hr, e⟩ := mem_fst h1 hq
  rw [← e]; exact g3 r hr
 · exact h.tch.trans ⟨hos.1, hos.2.1, hos.2.2, hs, fun k hk hF => ho k (fun e => hF (by show n = k; exact e.symm))⟩ (G := fun k => n = k) (fun j hj e => by have e' : n = j := e; omega)
theorem Ow.cellI {n : Nat} {cs : Array Value} {T : TypeId} (hM : Mach Pm) (h : Ow Pm F0 w0 w b S bs) (i : Nat) (hi : bs[i]? = some (n, .cells cs T (0, 0))) (j : Nat) (v : Value) : Ow Pm F0 w0 (w.setCell ⟨n, j, none⟩ v) b S (bs.set i (n, .cells (cs.setIfInBounds j v) T (0, 0))) :=
 h.turnI hM hi (heap_setCell_same w n j cs T v (h.bl i hi)) (fun k hk => heap_setCell_other w ⟨n, j, none⟩ k v hk) (by simp [World.setCell]) ⟨rfl, rfl, rfl⟩
theorem Ow.rowI {n : Nat} {cs : Array Value} {T : TypeId} (hM : Mach Pm) (h : Ow Pm F0 w0 w b S bs) (i : Nat) (hi : bs[i]? = some (n, .cells cs T (0, 0))) (cs' : Array Value) : Ow Pm F0 w0 (w.setRow n cs') b S (bs.set i (n, .cells cs' T (0, 0))) :=
 h.turnI hM hi (setRow_heap w n cs cs' T _ (h.bl i hi)) (fun k hk => setRow_other w n k cs' hk) (by simp [World.setRow]) ⟨rfl, rfl, rfl⟩
end
section
variable {Pm : World → Nat → Ms → (Nat → Prop) → Prop} {lo : Nat} {X0 : Nat → Prop} {W w0 w w' : World} {p b : Nat} {S1 S2 : Ms} {bs : List (Nat × Obj)}
theorem Gy.turnI {i n : Nat} {o o' : Obj} (hM : Mach Pm) (h : Gy Pm lo X0 W w0 w p b S1 S2 bs) (hi : bs[i]? = some (n, o)) (hn : w'.heap[n]? = some o') (ho : ∀ k, k ≠ n → w'.heap[k]? = w.heap[k]?) (hs : w.heap.size ≤ w'.heap.size) (hos : w'.os = w.os ∧ w'.tape = w.tape ∧ w'.output = w.output) : Gy Pm lo X0 W w0 w' p b S1 S2 (bs.set i (n, o')) := by
 obtain ⟨h1, h2⟩ := bxs_set h.nd h.bx hi hn ho
 have hq := List.mem_of_getElem? hi
 have hn0 : w0.heap.size ≤ n := (h.bx _ hq).1
 have hT : Tch (fun k => k = n) w w' := ⟨hos.1, hos.2.1, hos.2.2, hs, fun k _ hk => ho k hk⟩
 refine ⟨(h.z.apart hM hT (fun k hk => ?_)).less (fun k hk => ?_), h2, fun k hk => ⟨(h.st k hk).1, (ho k (by have := (h.st k hk).1; omega)).trans (h.st k hk).2⟩, h.lo, Nat.le_trans h.le hs, h1 ▸ h.nd⟩
 ·
  subst hk
  exact ⟨.inr ⟨(k, o), hq, rfl⟩, Nat.le_trans h.lo hn0⟩
 ·
  rcases hk with e | ⟨q, hq, rfl⟩
  · exact .inl e
  ·
   obtain ⟨r, hr, e⟩ := mem_fst h1 hq
   exact .inr ⟨r, hr, e⟩
theorem Gy.rowI {n : Nat} {cs : Array Value} {T : TypeId} (hM : Mach Pm) (h : Gy Pm lo X0 W w0 w p b S1 S2 bs) (i : Nat) (hi : bs[i]? = some (n, .cells cs T (0, 0))) (cs' : Array Value) : Gy Pm lo X0 W w0 (w.setRow n cs') p b S1 S2 (bs.set i (n, .cells cs' T (0, 0))) :=
 h.turnI hM hi (setRow_heap w n cs cs' T _ (h.bl i hi)) (fun k hk => setRow_other w n k cs' hk) (by simp [World.setRow]) ⟨rfl, rfl, rfl⟩
end

theorem Blk.and {S : Ms} {kd : Int} {op : Nat → (Nat → Int) → Op6} {m j : Nat} (B : Blk S kd op m) (hj : j < m) {d a b : Int} (h : op j (exR S.L j) = ⟨7, d, a, b, -1, 0⟩) :
  (blkS S kd op m).v (S.L + j) = wordAt (blkS S kd op m).v (blkS S kd op m).L a &&& wordAt (blkS S kd op m).v (blkS S kd op m).L b := by
 have := B.word j hj
 rw [h] at this
 exact this.trans (ev7 _ _ _ _ _)
theorem aw7 {d a b : Int} (hd : 0 ≤ d ∧ d ≤ 1000) (ha : I64 a) (hb : I64 b) : opwf ⟨7, d, a, b, -1, 0⟩ := ⟨i64c 7 (by decide) (by decide), i64c d hd.1 hd.2, ha, hb, I64.m1, by show 0 < _; omega⟩
def opT2d (A B : Nat → Int) (j : Nat) (r : Nat → Int) : Op6 :=
 match j with
 | 0 => ⟨1, -1, -1, -1, -1, 0⟩
 | 1 => ⟨7, 0, A 0, B 0, -1, 0⟩
 | 2 => ⟨7, 0, A 0, B 1, -1, 0⟩
 | 3 => ⟨7, 1, A 1, B 0, -1, 0⟩
 | 4 => ⟨7, 1, A 1, B 1, -1, 0⟩
 | 5 => ⟨5, 0, r 2, r 0, -1, 0⟩
 | 6 => ⟨5, 0, r 1, r 5, -1, 0⟩
 | 7 => ⟨5, 1, r 3, r 0, -1, 0⟩
 | _ => ⟨5, 1, r 4, r 7, -1, 0⟩
theorem opT2d_wf {A B r : Nat → Int} (hA : Wb A) (hB : Wb B) (hr : Wb r) (j : Nat) : opwf (opT2d A B j r) := by
 unfold opT2d
 split
 all_goals first | exact rw1 | exact aw7 (by decide) (hA _) (hB _) | exact xw5 (by decide) (hr _) (hr _)
def opT2i (A B : Nat → Int) (j : Nat) (r : Nat → Int) : Op6 :=
 match j with
 | 0 => ⟨1, -1, -1, -1, -1, 0⟩
 | 1 => ⟨7, 0, A 0, B 0, -1, 0⟩
 | 2 => ⟨7, 0, A 0, B 1, -1, 0⟩
 | 3 => ⟨7, 1, A 1, B 0, -1, 0⟩
 | 4 => ⟨7, 1, A 1, B 1, -1, 0⟩
 | 5 => ⟨5, 0, r 1, r 0, -1, 0⟩
 | 6 => ⟨5, 1, r 0, r 2, -1, 0⟩
 | 7 => ⟨5, 1, r 6, r 3, -1, 0⟩
 | _ => ⟨5, 1, r 4, r 7, -1, 0⟩
theorem opT2i_wf {A B r : Nat → Int} (hA : Wb A) (hB : Wb B) (hr : Wb r) (j : Nat) : opwf (opT2i A B j r) := by
 unfold opT2i
 split
 all_goals first | exact rw1 | exact aw7 (by decide) (hA _) (hB _) | exact xw5 (by decide) (hr _) (hr _)
def opT3d (A B : Nat → Int) (j : Nat) (r : Nat → Int) : Op6 :=
 match j with
 | 0 => ⟨1, -1, -1, -1, -1, 0⟩
 | 1 => ⟨1, -1, -1, -1, -1, 0⟩
 | 2 => ⟨1, -1, -1, -1, -1, 0⟩
 | 3 => ⟨7, 0, A 0, B 0, -1, 0⟩
 | 4 => ⟨7, 0, A 0, B 1, -1, 0⟩
 | 5 => ⟨7, 0, A 0, B 2, -1, 0⟩
 | 6 => ⟨7, 1, A 1, B 0, -1, 0⟩
 | 7 => ⟨7, 1, A 1, B 1, -1, 0⟩
 | 8 => ⟨7, 1, A 1, B 2, -1, 0⟩
 | 9 => ⟨7, 2, A 2, B 0, -1, 0⟩
 | 10 => ⟨7, 2, A 2, B 1, -1, 0⟩
 | 11 => ⟨7, 2, A 2, B 2, -1, 0⟩
 | 12 => ⟨5, 0, r 4, r 0, -1, 0⟩
 | 13 => ⟨5, 0, r 3, r 12, -1, 0⟩
 | 14 => ⟨5, 0, r 5, r 1, -1, 0⟩
 | 15 => ⟨5, 0, r 13, r 14, -1, 0⟩
 | 16 => ⟨5, 1, r 6, r 0, -1, 0⟩
 | 17 => ⟨5, 1, r 7, r 16, -1, 0⟩
 | 18 => ⟨5, 1, r 8, r 2, -1, 0⟩
 | 19 => ⟨5, 1, r 17, r 18, -1, 0⟩
 | 20 => ⟨5, 2, r 9, r 1, -1, 0⟩
 | 21 => ⟨5, 2, r 11, r 20, -1, 0⟩
 | 22 => ⟨5, 2, r 10, r 2, -1, 0⟩
 | _ => ⟨5, 2, r 21, r 22, -1, 0⟩
theorem opT3d_wf {A B r : Nat → Int} (hA : Wb A) (hB : Wb B) (hr : Wb r) (j : Nat) : opwf (opT3d A B j r) := by
 unfold opT3d
 split
 all_goals first | exact rw1 | exact aw7 (by decide) (hA _) (hB _) | exact xw5 (by decide) (hr _) (hr _)
def opT3i (A B : Nat → Int) (j : Nat) (r : Nat → Int) : Op6 :=
 match j with
 | 0 => ⟨1, -1, -1, -1, -1, 0⟩
 | 1 => ⟨1, -1, -1, -1, -1, 0⟩
 | 2 => ⟨1, -1, -1, -1, -1, 0⟩
 | 3 => ⟨7, 0, A 0, B 0, -1, 0⟩
 | 4 => ⟨7, 0, A 0, B 1, -1, 0⟩
 | 5 => ⟨7, 0, A 0, B 2, -1, 0⟩
 | 6 => ⟨7, 1, A 1, B 0, -1, 0⟩
 | 7 => ⟨7, 1, A 1, B 1, -1, 0⟩
 | 8 => ⟨7, 1, A 1, B 2, -1, 0⟩
 | 9 => ⟨7, 2, A 2, B 0, -1, 0⟩
 | 10 => ⟨7, 2, A 2, B 1, -1, 0⟩
 | 11 => ⟨7, 2, A 2, B 2, -1, 0⟩
 | 12 => ⟨5, 0, r 3, r 0, -1, 0⟩
 | 13 => ⟨5, 0, r 12, r 1, -1, 0⟩
 | 14 => ⟨5, 1, r 0, r 4, -1, 0⟩
 | 15 => ⟨5, 1, r 14, r 6, -1, 0⟩
 | 16 => ⟨5, 1, r 7, r 15, -1, 0⟩
 | 17 => ⟨5, 1, r 16, r 2, -1, 0⟩
 | 18 => ⟨5, 2, r 1, r 5, -1, 0⟩
 | 19 => ⟨5, 2, r 18, r 9, -1, 0⟩
 | 20 => ⟨5, 2, r 11, r 19, -1, 0⟩
 | 21 => ⟨5, 2, r 2, r 8, -1, 0⟩
 | 22 => ⟨5, 2, r 21, r 10, -1, 0⟩
 | _ => ⟨5, 2, r 20, r 22, -1, 0⟩
theorem opT3i_wf {A B r : Nat → Int} (hA : Wb A) (hB : Wb B) (hr : Wb r) (j : Nat) : opwf (opT3i A B j r) := by
 unfold opT3i
 split
 all_goals first | exact rw1 | exact aw7 (by decide) (hA _) (hB _) | exact xw5 (by decide) (hr _) (hr _)
def zero9 : Nat → Int := fun _ => 0
abbrev an6 (i : Nat) (a b : Int) : Op6 := ⟨7, (i : Int), a, b, -1, 0⟩
section
variable (dS : Ms → Op6 → Ms) (dR : Ms → Op6 → Int)
def rnI (S : Ms) (r : Nat → Int) (i : Nat) : Nat → Ms × (Nat → Int)
 | 0 => (S, r)
 | j + 1 => (dS (rnI S r i j).1 rnd6, updI (updI (rnI S r i j).2 (i * 3 + (i + 1 + j)) (dR (rnI S r i j).1 rnd6)) ((i + 1 + j) * 3 + i) (dR (rnI S r i j).1 rnd6))
def rnG (S : Ms) (n : Nat) : Nat → Ms × (Nat → Int)
 | 0 => (S, zero9)
 | i + 1 => rnI dS dR (rnG S n i).1 (rnG S n i).2 i (n - (i + 1))
def pdI (A B : Nat → Int) (S : Ms) (p : Nat → Int) (i : Nat) : Nat → Ms × (Nat → Int)
 | 0 => (S, p)
 | k + 1 => (dS (pdI A B S p i k).1 (an6 i (A i) (B k)), updI (pdI A B S p i k).2 (i * 3 + k) (dR (pdI A B S p i k).1 (an6 i (A i) (B k))))
def pdG (A B : Nat → Int) (S : Ms) (n : Nat) : Nat → Ms × (Nat → Int)
 | 0 => (S, zero9)
 | i + 1 => pdI dS dR A B (pdG A B S n i).1 (pdG A B S n i).2 i n
def moG (dom : Bool) (r p : Nat → Int) (S : Ms) (i k : Nat) : Ms × Int :=
 if dom = true then (dS S (xr6 i (p (i * 3 + k)) (r (i * 3 + k))), dR S (xr6 i (p (i * 3 + k)) (r (i * 3 + k))))
 else if k < i then (dS (dS S (xr6 i (r (k * 3 + i)) (p (k * 3 + i)))) (xr6 i (dR S (xr6 i (r (k * 3 + i)) (p (k * 3 + i)))) (p (i * 3 + k))), dR (dS S (xr6 i (r (k * 3 + i)) (p (k * 3 + i)))) (xr6 i (dR S (xr6 i (r (k * 3 + i)) (p (k * 3 + i)))) (p (i * 3 + k))))
 else (S, r (i * 3 + k))
def fnI (dom : Bool) (r p : Nat → Int) (S : Ms) (i : Nat) : Nat → Ms × Int
 | 0 => (S, p (i * 3 + i))
 | k + 1 => if k = i then fnI dom r p S i k else
   (dS (moG dS dR dom r p (fnI dom r p S i k).1 i k).1 (xr6 i (fnI dom r p S i k).2 (moG dS dR dom r p (fnI dom r p S i k).1 i k).2), dR (moG dS dR dom r p (fnI dom r p S i k).1 i k).1 (xr6 i (fnI dom r p S i k).2 (moG dS dR dom r p (fnI dom r p S i k).1 i k).2))
def fnG (dom : Bool) (r p : Nat → Int) (S : Ms) (n : Nat) : Nat → Ms × (Nat → Int)
 | 0 => (S, none3)
 | i + 1 => ((fnI dS dR dom r p (fnG dom r p S n i).1 i n).1, updI (fnG dom r p S n i).2 i (fnI dS dR dom r p (fnG dom r p S n i).1 i n).2)
def tmG (n : Nat) (dom : Bool) (A B : Nat → Int) (S : Ms) : Ms × (Nat → Int) :=
 fnG dS dR dom (rnG dS dR S n n).2 (pdG dS dR A B (rnG dS dR S n n).1 n n).2 (pdG dS dR A B (rnG dS dR S n n).1 n n).1 n n
theorem tm_opT2d (A B : Nat → Int) (S : Ms) : (tmG dS dR 2 true A B S).1 = (sqG dS dR S (opT2d A B) 9).1 ∧ (tmG dS dR 2 true A B S).2 0 = sqgR dS dR S (opT2d A B) 6 ∧ (tmG dS dR 2 true A B S).2 1 = sqgR dS dR S (opT2d A B) 8 ∧ (tmG dS dR 2 true A B S).2 2 = -1 := ⟨rfl, rfl, rfl, rfl⟩
theorem tm_opT2i (A B : Nat → Int) (S : Ms) : (tmG dS dR 2 false A B S).1 = (sqG dS dR S (opT2i A B) 9).1 ∧ (tmG dS dR 2 false A B S).2 0 = sqgR dS dR S (opT2i A B) 5 ∧ (tmG dS dR 2 false A B S).2 1 = sqgR dS dR S (opT2i A B) 8 ∧ (tmG dS dR 2 false A B S).2 2 = -1 := ⟨rfl, rfl, rfl, rfl⟩
theorem tm_opT3d (A B : Nat → Int) (S : Ms) : (tmG dS dR 3 true A B S).1 = (sqG dS dR S (opT3d A B) 24).1 ∧ (tmG dS dR 3 true A B S).2 0 = sqgR dS dR S (opT3d A B) 15 ∧ (tmG dS dR 3 true A B S).2 1 = sqgR dS dR S (opT3d A B) 19 ∧ (tmG dS dR 3 true A B S).2 2 = sqgR dS dR S (opT3d A B) 23 := ⟨by kernel_rfl, by kernel_rfl, by kernel_rfl, by kernel_rfl⟩
theorem tm_opT3i (A B : Nat → Int) (S : Ms) : (tmG dS dR 3 false A B S).1 = (sqG dS dR S (opT3i A B) 24).1 ∧ (tmG dS dR 3 false A B S).2 0 = sqgR dS dR S (opT3i A B) 13 ∧ (tmG dS dR 3 false A B S).2 1 = sqgR dS dR S (opT3i A B) 17 ∧ (tmG dS dR 3 false A B S).2 2 = sqgR dS dR S (opT3i A B) 23 := ⟨by kernel_rfl, by kernel_rfl, by kernel_rfl, by kernel_rfl⟩
end
def Bn (k : Nat) (n : Int) (S : Ms) : Prop := Bq k S ∧ S.n = n
theorem Bn.does {k : Nat} {n : Int} {S : Ms} (h : Bn k n S) {o : Op6} (ho : opwf o) : Bn (k + 1) n (dS0 S o) := ⟨h.1.does ho (by decide), (doS_n _ _ _).trans h.2⟩
theorem Bn.mono {k k' : Nat} {n : Int} {S : Ms} (h : Bn k n S) (hk : k ≤ k') : Bn k' n S := ⟨h.1.mono hk, h.2⟩
theorem Bn.reg {k : Nat} {n : Int} {S : Ms} (h : Bn k n S) (hk : k ≤ 1000000) (o : Op6) : I64 (dR0 S o) := doR_bd h.1 hk o
theorem zero9_wb : Wb zero9 := zero_wb
theorem an6_wf {i : Nat} {a b : Int} (hi : i ≤ 1000) (ha : I64 a) (hb : I64 b) : opwf (an6 i a b) := aw7 (by omega) ha hb
theorem rnI_bq {k i : Nat} {n : Int} {S : Ms} {r : Nat → Int} (h : Bn k n S) (hr : Wb r) : ∀ {j}, k + j ≤ 1000000 → Bn (k + j) n (rnI dS0 dR0 S r i j).1 ∧ Wb (rnI dS0 dR0 S r i j).2
 | 0, _ => ⟨h, hr⟩
 | j + 1, hk => by
  obtain ⟨h1, h2⟩ := rnI_bq (i := i) h hr (j := j) (by omega)
  exact ⟨h1.does rw1, (h2.upd (h1.reg (by omega) _)).upd (h1.reg (by omega) _)⟩
theorem rnG_bq {k n : Nat} {n' : Int} {S : Ms} (hn : n ≤ 3) (h : Bn k n' S) : ∀ {i}, k + 3 * i ≤ 1000000 → Bn (k + 3 * i) n' (rnG dS0 dR0 S n i).1 ∧ Wb (rnG dS0 dR0 S n i).2
 | 0, _ => ⟨h, zero9_wb⟩
 | i + 1, hk => by
  obtain ⟨h1, h2⟩ := rnG_bq hn h (i := i) (by omega)
  obtain ⟨g1, g2⟩ := rnI_bq (i := i) h1 h2 (j := n - (i + 1)) (by omega)
  exact ⟨g1.mono (by omega), g2⟩
theorem pdI_bq {k i : Nat} {n : Int} {S : Ms} {A B p : Nat → Int} (h : Bn k n S) (hi : i ≤ 1000) (hA : Wb A) (hB : Wb B) (hp : Wb p) : ∀ {j}, k + j ≤ 1000000 → Bn (k + j) n (pdI dS0 dR0 A B S p i j).1 ∧ Wb (pdI dS0 dR0 A B S p i j).2
 | 0, _ => ⟨h, hp⟩
 | j + 1, hk => by
  obtain ⟨h1, h2⟩ := pdI_bq h hi hA hB hp (j := j) (by omega)
  exact ⟨h1.does (an6_wf hi (hA i) (hB j)), h2.upd (h1.reg (by omega) _)⟩
theorem pdG_bq {k n : Nat} {n' : Int} {S : Ms} {A B : Nat → Int} (hn : n ≤ 3) (h : Bn k n' S) (hA : Wb A) (hB : Wb B) : ∀ {i}, i ≤ 1000 → k + 3 * i ≤ 1000000 → Bn (k + 3 * i) n' (pdG dS0 dR0 A B S n i).1 ∧ Wb (pdG dS0 dR0 A B S n i).2
 | 0, _, _ => ⟨h, zero9_wb⟩
 | i + 1, hi, hk => by
  obtain ⟨h1, h2⟩ := pdG_bq hn h hA hB (i := i) (by omega) (by omega)
  obtain ⟨g1, g2⟩ := pdI_bq (i := i) h1 (by omega) hA hB h2 (j := n) (by omega)
  exact ⟨g1.mono (by omega), g2⟩
theorem moG_bq {k i j : Nat} {n : Int} {dom : Bool} {S : Ms} {r p : Nat → Int} (h : Bn k n S) (hi : i ≤ 1000) (hr : Wb r) (hp : Wb p) (hk : k + 2 ≤ 1000000) : Bn (k + 2) n (moG dS0 dR0 dom r p S i j).1 ∧ I64 (moG dS0 dR0 dom r p S i j).2 := by
 unfold moG
 repeat' split
 ·
  have g := h.does (xr6_wf hi (hp (i * 3 + j)) (hr (i * 3 + j)))
  exact ⟨g.mono (by omega), h.reg (by omega) _⟩
 ·
  have g := h.does (xr6_wf hi (hr (j * 3 + i)) (hp (j * 3 + i)))
  have e := h.reg (by omega) (xr6 i (r (j * 3 + i)) (p (j * 3 + i)))
  exact ⟨g.does (xr6_wf hi e (hp _)), g.reg (by omega) _⟩
 · exact ⟨h.mono (by omega), hr _⟩
theorem fnI_bq {k i : Nat} {n : Int} {dom : Bool} {S : Ms} {r p : Nat → Int} (h : Bn k n S) (hi : i ≤ 1000) (hr : Wb r) (hp : Wb p) : ∀ {j}, k + 3 * j ≤ 1000000 → Bn (k + 3 * j) n (fnI dS0 dR0 dom r p S i j).1 ∧ I64 (fnI dS0 dR0 dom r p S i j).2
 | 0, _ => ⟨h, hp _⟩
 | j + 1, hk => by
  obtain ⟨h1, h2⟩ := fnI_bq (dom := dom) h hi hr hp (j := j) (by omega)
  unfold fnI
  split
  · exact ⟨h1.mono (by omega), h2⟩
  ·
   obtain ⟨g1, g2⟩ := moG_bq (dom := dom) (i := i) (j := j) h1 hi hr hp (by omega)
   exact ⟨g1.does (xr6_wf hi h2 g2), g1.reg (by omega) _⟩
theorem fnG_bq {k n : Nat} {n' : Int} {dom : Bool} {S : Ms} {r p : Nat → Int} (hn : n ≤ 3) (h : Bn k n' S) (hr : Wb r) (hp : Wb p) : ∀ {i}, i ≤ 1000 → k + 9 * i ≤ 1000000 → Bn (k + 9 * i) n' (fnG dS0 dR0 dom r p S n i).1 ∧ Wb (fnG dS0 dR0 dom r p S n i).2
 | 0, _, _ => ⟨h, none3_wb⟩
 | i + 1, hi, hk => by
  obtain ⟨h1, h2⟩ := fnG_bq (dom := dom) hn h hr hp (i := i) (by omega) (by omega)
  obtain ⟨g1, g2⟩ := fnI_bq (dom := dom) (i := i) h1 (by omega) hr hp (j := n) (by omega)
  exact ⟨g1.mono (by omega), h2.upd g2⟩
theorem fnI_same {dom : Bool} {S : Ms} {r p : Nat → Int} {i : Nat} : fnI dS0 dR0 dom r p S i (i + 1) = fnI dS0 dR0 dom r p S i i := if_pos rfl
theorem fnI_step {dom : Bool} {S : Ms} {r p : Nat → Int} {i k : Nat} (h : k ≠ i) (Sa T : Ms) (w x : Int) (hS : (fnI dS0 dR0 dom r p S i k).1 = Sa) (hw : (fnI dS0 dR0 dom r p S i k).2 = w) (hT : moG dS0 dR0 dom r p Sa i k = (T, x)) :
  fnI dS0 dR0 dom r p S i (k + 1) = (dS0 T (xr6 i w x), dR0 T (xr6 i w x)) := by
 have e : fnI dS0 dR0 dom r p S i (k + 1) = (dS0 (moG dS0 dR0 dom r p (fnI dS0 dR0 dom r p S i k).1 i k).1 (xr6 i (fnI dS0 dR0 dom r p S i k).2 (moG dS0 dR0 dom r p (fnI dS0 dR0 dom r p S i k).1 i k).2), dR0 (moG dS0 dR0 dom r p (fnI dS0 dR0 dom r p S i k).1 i k).1 (xr6 i (fnI dS0 dR0 dom r p S i k).2 (moG dS0 dR0 dom r p (fnI dS0 dR0 dom r p S i k).1 i k).2)) := if_neg h
 rw [e, hS, hw, hT]
theorem moG_dom (S : Ms) (r p : Nat → Int) (i k : Nat) : moG dS0 dR0 true r p S i k = (dS0 S (xr6 i (p (i * 3 + k)) (r (i * 3 + k))), dR0 S (xr6 i (p (i * 3 + k)) (r (i * 3 + k)))) := if_pos rfl
theorem moG_up (S : Ms) (r p : Nat → Int) {i k : Nat} (h : i < k) : moG dS0 dR0 false r p S i k = (S, r (i * 3 + k)) := by
 unfold moG
 rw [if_neg (by decide), if_neg (by omega)]
theorem moG_down (S : Ms) (r p : Nat → Int) {i k : Nat} (h : k < i) : moG dS0 dR0 false r p S i k = (dS0 (dS0 S (xr6 i (r (k * 3 + i)) (p (k * 3 + i)))) (xr6 i (dR0 S (xr6 i (r (k * 3 + i)) (p (k * 3 + i)))) (p (i * 3 + k))), dR0 (dS0 S (xr6 i (r (k * 3 + i)) (p (k * 3 + i)))) (xr6 i (dR0 S (xr6 i (r (k * 3 + i)) (p (k * 3 + i)))) (p (i * 3 + k)))) := by
 unfold moG
 rw [if_neg (by decide), if_pos h]
def tmO (n : Int) (dom : Bool) (A B : Nat → Int) : Nat → (Nat → Int) → Op6 := if n = 3 then (if dom = true then opT3d A B else opT3i A B) else (if dom = true then opT2d A B else opT2i A B)
def tmM (n : Int) : Nat := if n = 3 then 24 else 9
def tmS (S : Ms) (dom : Bool) (A B : Nat → Int) : Ms := blkS S 3 (tmO S.n dom A B) (tmM S.n)
def tmR (S : Ms) (dom : Bool) (A B : Nat → Int) : Nat → Int :=
 if S.n = 3 then (if dom = true then reg3 (sqr (S.beginS 3) (opT3d A B) 15) (sqr (S.beginS 3) (opT3d A B) 19) (sqr (S.beginS 3) (opT3d A B) 23) else reg3 (sqr (S.beginS 3) (opT3i A B) 13) (sqr (S.beginS 3) (opT3i A B) 17) (sqr (S.beginS 3) (opT3i A B) 23))
 else (if dom = true then reg3 (sqr (S.beginS 3) (opT2d A B) 6) (sqr (S.beginS 3) (opT2d A B) 8) (-1) else reg3 (sqr (S.beginS 3) (opT2i A B) 5) (sqr (S.beginS 3) (opT2i A B) 8) (-1))
theorem tm_all {S : Ms} (dom : Bool) (A B : Nat → Int) (hn : S.n = 2 ∨ S.n = 3) : (tmG dS0 dR0 S.sh dom A B (S.beginS 3)).1.endS = tmS S dom A B ∧ ∀ i, i < 3 → (tmG dS0 dR0 S.sh dom A B (S.beginS 3)).2 i = tmR S dom A B i := by
 unfold tmS tmR tmO tmM blkS sqS
 rcases hn with e | e
 ·
  have hsh : S.sh = 2 := by unfold Ms.sh; omega
  have h3 : ¬ S.n = 3 := by omega
  rw [hsh, if_neg h3, if_neg h3, if_neg h3]
  cases dom with
  | true =>
   rw [if_pos rfl, if_pos rfl]
   obtain ⟨a, b, c, d⟩ := tm_opT2d dS0 dR0 A B (S.beginS 3)
   rw [a, sq_G]
   refine ⟨rfl, fun i hi => ?_⟩
   rcases (by omega : i = 0 ∨ i = 1 ∨ i = 2) with rfl | rfl | rfl
   · rw [b, sqr_G, reg3_0]
   · rw [c, sqr_G, reg3_1]
   · rw [d, reg3_2]
  | false =>
   rw [if_neg (by decide), if_neg (by decide)]
   obtain ⟨a, b, c, d⟩ := tm_opT2i dS0 dR0 A B (S.beginS 3)
   rw [a, sq_G]
   refine ⟨rfl, fun i hi => ?_⟩
   rcases (by omega : i = 0 ∨ i = 1 ∨ i = 2) with rfl | rfl | rfl
   · rw [b, sqr_G, reg3_0]
   · rw [c, sqr_G, reg3_1]
   · rw [d, reg3_2]
 ·
  have hsh : S.sh = 3 := by unfold Ms.sh; omega
  rw [hsh, if_pos e, if_pos e, if_pos e]
  cases dom with
  | true =>
   rw [if_pos rfl, if_pos rfl]
   obtain ⟨a, b, c, d⟩ := tm_opT3d dS0 dR0 A B (S.beginS 3)
   rw [a, sq_G]
   refine ⟨rfl, fun i hi => ?_⟩
   rcases (by omega : i = 0 ∨ i = 1 ∨ i = 2) with rfl | rfl | rfl
   · rw [b, sqr_G, reg3_0]
   · rw [c, sqr_G, reg3_1]
   · rw [d, sqr_G, reg3_2]
  | false =>
   rw [if_neg (by decide), if_neg (by decide)]
   obtain ⟨a, b, c, d⟩ := tm_opT3i dS0 dR0 A B (S.beginS 3)
   rw [a, sq_G]
   refine ⟨rfl, fun i hi => ?_⟩
   rcases (by omega : i = 0 ∨ i = 1 ∨ i = 2) with rfl | rfl | rfl
   · rw [b, sqr_G, reg3_0]
   · rw [c, sqr_G, reg3_1]
   · rw [d, sqr_G, reg3_2]
theorem tmO_wf {n : Int} {dom : Bool} {A B r : Nat → Int} (hA : Wb A) (hB : Wb B) (hr : Wb r) (j : Nat) : opwf (tmO n dom A B j r) := by
 unfold tmO
 repeat' split
 · exact opT3d_wf hA hB hr j
 · exact opT3i_wf hA hB hr j
 · exact opT2d_wf hA hB hr j
 · exact opT2i_wf hA hB hr j
theorem tmM_le (n : Int) : tmM n ≤ 24 := by unfold tmM; split <;> omega
theorem tmS_bq {k : Nat} {S : Ms} (h : Bq k S) (hk : k + 24 ≤ 1000000) {dom : Bool} {A B : Nat → Int} (hA : Wb A) (hB : Wb B) : Bq (k + 25) (tmS S dom A B) := by
 have := tmM_le S.n
 exact (blk_bq h (kd := 3) (op := tmO S.n dom A B) (m := tmM S.n) (fun j _ r hr => tmO_wf hA hB hr j) (by omega)).mono (by omega)
theorem tmS_ext (S : Ms) (dom : Bool) (A B : Nat → Int) : Ext S (tmS S dom A B) := blk_ext _ _ _ _
set_option maxHeartbeats 3200000 in
theorem opT2d_words {S : Ms} {A B : Nat → Int} (K : Blk S 3 (opT2d A B) 9) (x y μ : Nat → Nat) (ha : ∀ i, i < 2 → wordAt (blkS S 3 (opT2d A B) 9).v (blkS S 3 (opT2d A B) 9).L (A i) = x i) (hb : ∀ i, i < 2 → wordAt (blkS S 3 (opT2d A B) 9).v (blkS S 3 (opT2d A B) 9).L (B i) = y i) (hm : ∀ j, S.tw (S.used + j) = μ j) :
  (blkS S 3 (opT2d A B) 9).v (S.L + 6) = ((x 0 &&& y 0) ^^^ ((x 0 &&& y 1) ^^^ μ 0)) ∧ (blkS S 3 (opT2d A B) 9).v (S.L + 8) = ((x 1 &&& y 1) ^^^ ((x 1 &&& y 0) ^^^ μ 0)) := by
 have w0 : (blkS S 3 (opT2d A B) 9).v (S.L + 0) = μ 0 := (K.rand (j := 0) (d := -1) (r := 0) (by omega) rfl (by simp [rands])).trans (hm _)
 have w1 := K.and (j := 1) (d := 0) (a := A 0) (b := B 0) (by omega) (by simp [opT2d])
 rw [ha 0 (by omega), hb 0 (by omega)] at w1
 have w2 := K.and (j := 2) (d := 0) (a := A 0) (b := B 1) (by omega) (by simp [opT2d])
 rw [ha 0 (by omega), hb 1 (by omega)] at w2
 have w3 := K.and (j := 3) (d := 1) (a := A 1) (b := B 0) (by omega) (by simp [opT2d])
 rw [ha 1 (by omega), hb 0 (by omega)] at w3
 have w4 := K.and (j := 4) (d := 1) (a := A 1) (b := B 1) (by omega) (by simp [opT2d])
 rw [ha 1 (by omega), hb 1 (by omega)] at w4
 have w5 := K.xor (j := 5) (d := 0) (a := ((S.L + 2 : Nat) : Int)) (b := ((S.L + 0 : Nat) : Int)) (by omega) (by simp [opT2d, exR])
 rw [K.at_ (j := 2) (by omega), w2, K.at_ (j := 0) (by omega), w0] at w5
 have w6 := K.xor (j := 6) (d := 0) (a := ((S.L + 1 : Nat) : Int)) (b := ((S.L + 5 : Nat) : Int)) (by omega) (by simp [opT2d, exR])
 rw [K.at_ (j := 1) (by omega), w1, K.at_ (j := 5) (by omega), w5] at w6
 have w7 := K.xor (j := 7) (d := 1) (a := ((S.L + 3 : Nat) : Int)) (b := ((S.L + 0 : Nat) : Int)) (by omega) (by simp [opT2d, exR])
 rw [K.at_ (j := 3) (by omega), w3, K.at_ (j := 0) (by omega), w0] at w7
 have w8 := K.xor (j := 8) (d := 1) (a := ((S.L + 4 : Nat) : Int)) (b := ((S.L + 7 : Nat) : Int)) (by omega) (by simp [opT2d, exR])
 rw [K.at_ (j := 4) (by omega), w4, K.at_ (j := 7) (by omega), w7] at w8
 exact ⟨w6, w8⟩
set_option maxHeartbeats 3200000 in
theorem opT2i_words {S : Ms} {A B : Nat → Int} (K : Blk S 3 (opT2i A B) 9) (x y μ : Nat → Nat) (ha : ∀ i, i < 2 → wordAt (blkS S 3 (opT2i A B) 9).v (blkS S 3 (opT2i A B) 9).L (A i) = x i) (hb : ∀ i, i < 2 → wordAt (blkS S 3 (opT2i A B) 9).v (blkS S 3 (opT2i A B) 9).L (B i) = y i) (hm : ∀ j, S.tw (S.used + j) = μ j) :
  (blkS S 3 (opT2i A B) 9).v (S.L + 5) = ((x 0 &&& y 0) ^^^ μ 0) ∧ (blkS S 3 (opT2i A B) 9).v (S.L + 8) = ((x 1 &&& y 1) ^^^ ((μ 0 ^^^ (x 0 &&& y 1)) ^^^ (x 1 &&& y 0))) := by
 have w0 : (blkS S 3 (opT2i A B) 9).v (S.L + 0) = μ 0 := (K.rand (j := 0) (d := -1) (r := 0) (by omega) rfl (by simp [rands])).trans (hm _)
 have w1 := K.and (j := 1) (d := 0) (a := A 0) (b := B 0) (by omega) (by simp [opT2i])
 rw [ha 0 (by omega), hb 0 (by omega)] at w1
 have w2 := K.and (j := 2) (d := 0) (a := A 0) (b := B 1) (by omega) (by simp [opT2i])
 rw [ha 0 (by omega), hb 1 (by omega)] at w2
 have w3 := K.and (j := 3) (d := 1) (a := A 1) (b := B 0) (by omega) (by simp [opT2i])
 rw [ha 1 (by omega), hb 0 (by omega)] at w3
 have w4 := K.and (j := 4) (d := 1) (a := A 1) (b := B 1) (by omega) (by simp [opT2i])
 rw [ha 1 (by omega), hb 1 (by omega)] at w4
 have w5 := K.xor (j := 5) (d := 0) (a := ((S.L + 1 : Nat) : Int)) (b := ((S.L + 0 : Nat) : Int)) (by omega) (by simp [opT2i, exR])
 rw [K.at_ (j := 1) (by omega), w1, K.at_ (j := 0) (by omega), w0] at w5
 have w6 := K.xor (j := 6) (d := 1) (a := ((S.L + 0 : Nat) : Int)) (b := ((S.L + 2 : Nat) : Int)) (by omega) (by simp [opT2i, exR])
 rw [K.at_ (j := 0) (by omega), w0, K.at_ (j := 2) (by omega), w2] at w6
 have w7 := K.xor (j := 7) (d := 1) (a := ((S.L + 6 : Nat) : Int)) (b := ((S.L + 3 : Nat) : Int)) (by omega) (by simp [opT2i, exR])
 rw [K.at_ (j := 6) (by omega), w6, K.at_ (j := 3) (by omega), w3] at w7
 have w8 := K.xor (j := 8) (d := 1) (a := ((S.L + 4 : Nat) : Int)) (b := ((S.L + 7 : Nat) : Int)) (by omega) (by simp [opT2i, exR])
 rw [K.at_ (j := 4) (by omega), w4, K.at_ (j := 7) (by omega), w7] at w8
 exact ⟨w5, w8⟩
set_option maxHeartbeats 3200000 in
theorem opT3d_words {S : Ms} {A B : Nat → Int} (K : Blk S 3 (opT3d A B) 24) (x y μ : Nat → Nat) (ha : ∀ i, i < 3 → wordAt (blkS S 3 (opT3d A B) 24).v (blkS S 3 (opT3d A B) 24).L (A i) = x i) (hb : ∀ i, i < 3 → wordAt (blkS S 3 (opT3d A B) 24).v (blkS S 3 (opT3d A B) 24).L (B i) = y i) (hm : ∀ j, S.tw (S.used + j) = μ j) :
  (blkS S 3 (opT3d A B) 24).v (S.L + 15) = (((x 0 &&& y 0) ^^^ ((x 0 &&& y 1) ^^^ μ 0)) ^^^ ((x 0 &&& y 2) ^^^ μ 1)) ∧ (blkS S 3 (opT3d A B) 24).v (S.L + 19) = (((x 1 &&& y 1) ^^^ ((x 1 &&& y 0) ^^^ μ 0)) ^^^ ((x 1 &&& y 2) ^^^ μ 2)) ∧ (blkS S 3 (opT3d A B) 24).v (S.L + 23) = (((x 2 &&& y 2) ^^^ ((x 2 &&& y 0) ^^^ μ 1)) ^^^ ((x 2 &&& y 1) ^^^ μ 2)) := by
 have w0 : (blkS S 3 (opT3d A B) 24).v (S.L + 0) = μ 0 := (K.rand (j := 0) (d := -1) (r := 0) (by omega) rfl (by simp [rands])).trans (hm _)
 have w1 : (blkS S 3 (opT3d A B) 24).v (S.L + 1) = μ 1 := (K.rand (j := 1) (d := -1) (r := 1) (by omega) rfl (by simp [rands, opT3d])).trans (hm _)
 have w2 : (blkS S 3 (opT3d A B) 24).v (S.L + 2) = μ 2 := (K.rand (j := 2) (d := -1) (r := 2) (by omega) rfl (by simp [rands, opT3d])).trans (hm _)
 have w3 := K.and (j := 3) (d := 0) (a := A 0) (b := B 0) (by omega) (by simp [opT3d])
 rw [ha 0 (by omega), hb 0 (by omega)] at w3
 have w4 := K.and (j := 4) (d := 0) (a := A 0) (b := B 1) (by omega) (by simp [opT3d])
 rw [ha 0 (by omega), hb 1 (by omega)] at w4
 have w5 := K.and (j := 5) (d := 0) (a := A 0) (b := B 2) (by omega) (by simp [opT3d])
 rw [ha 0 (by omega), hb 2 (by omega)] at w5
 have w6 := K.and (j := 6) (d := 1) (a := A 1) (b := B 0) (by omega) (by simp [opT3d])
 rw [ha 1 (by omega), hb 0 (by omega)] at w6
 have w7 := K.and (j := 7) (d := 1) (a := A 1) (b := B 1) (by omega) (by simp [opT3d])
 rw [ha 1 (by omega), hb 1 (by omega)] at w7
 have w8 := K.and (j := 8) (d := 1) (a := A 1) (b := B 2) (by omega) (by simp [opT3d])
 rw [ha 1 (by omega), hb 2 (by omega)] at w8
 have w9 := K.and (j := 9) (d := 2) (a := A 2) (b := B 0) (by omega) (by simp [opT3d])
 rw [ha 2 (by omega), hb 0 (by omega)] at w9
 have w10 := K.and (j := 10) (d := 2) (a := A 2) (b := B 1) (by omega) (by simp [opT3d])
 rw [ha 2 (by omega), hb 1 (by omega)] at w10
 have w11 := K.and (j := 11) (d := 2) (a := A 2) (b := B 2) (by omega) (by simp [opT3d])
 rw [ha 2 (by omega), hb 2 (by omega)] at w11
 have w12 := K.xor (j := 12) (d := 0) (a := ((S.L + 4 : Nat) : Int)) (b := ((S.L + 0 : Nat) : Int)) (by omega) (by simp [opT3d, exR])
 rw [K.at_ (j := 4) (by omega), w4, K.at_ (j := 0) (by omega), w0] at w12
 have w13 := K.xor (j := 13) (d := 0) (a := ((S.L + 3 : Nat) : Int)) (b := ((S.L + 12 : Nat) : Int)) (by omega) (by simp [opT3d, exR])
 rw [K.at_ (j := 3) (by omega), w3, K.at_ (j := 12) (by omega), w12] at w13
 have w14 := K.xor (j := 14) (d := 0) (a := ((S.L + 5 : Nat) : Int)) (b := ((S.L + 1 : Nat) : Int)) (by omega) (by simp [opT3d, exR])
 rw [K.at_ (j := 5) (by omega), w5, K.at_ (j := 1) (by omega), w1] at w14
 have w15 := K.xor (j := 15) (d := 0) (a := ((S.L + 13 : Nat) : Int)) (b := ((S.L + 14 : Nat) : Int)) (by omega) (by simp [opT3d, exR])
 rw [K.at_ (j := 13) (by omega), w13, K.at_ (j := 14) (by omega), w14] at w15
 have w16 := K.xor (j := 16) (d := 1) (a := ((S.L + 6 : Nat) : Int)) (b := ((S.L + 0 : Nat) : Int)) (by omega) (by simp [opT3d, exR])
 rw [K.at_ (j := 6) (by omega), w6, K.at_ (j := 0) (by omega), w0] at w16
 have w17 := K.xor (j := 17) (d := 1) (a := ((S.L + 7 : Nat) : Int)) (b := ((S.L + 16 : Nat) : Int)) (by omega) (by simp [opT3d, exR])
 rw [K.at_ (j := 7) (by omega), w7, K.at_ (j := 16) (by omega), w16] at w17
 have w18 := K.xor (j := 18) (d := 1) (a := ((S.L + 8 : Nat) : Int)) (b := ((S.L + 2 : Nat) : Int)) (by omega) (by simp [opT3d, exR])
 rw [K.at_ (j := 8) (by omega), w8, K.at_ (j := 2) (by omega), w2] at w18
 have w19 := K.xor (j := 19) (d := 1) (a := ((S.L + 17 : Nat) : Int)) (b := ((S.L + 18 : Nat) : Int)) (by omega) (by simp [opT3d, exR])
 rw [K.at_ (j := 17) (by omega), w17, K.at_ (j := 18) (by omega), w18] at w19
 have w20 := K.xor (j := 20) (d := 2) (a := ((S.L + 9 : Nat) : Int)) (b := ((S.L + 1 : Nat) : Int)) (by omega) (by simp [opT3d, exR])
 rw [K.at_ (j := 9) (by omega), w9, K.at_ (j := 1) (by omega), w1] at w20
 have w21 := K.xor (j := 21) (d := 2) (a := ((S.L + 11 : Nat) : Int)) (b := ((S.L + 20 : Nat) : Int)) (by omega) (by simp [opT3d, exR])
 rw [K.at_ (j := 11) (by omega), w11, K.at_ (j := 20) (by omega), w20] at w21
 have w22 := K.xor (j := 22) (d := 2) (a := ((S.L + 10 : Nat) : Int)) (b := ((S.L + 2 : Nat) : Int)) (by omega) (by simp [opT3d, exR])
 rw [K.at_ (j := 10) (by omega), w10, K.at_ (j := 2) (by omega), w2] at w22
 have w23 := K.xor (j := 23) (d := 2) (a := ((S.L + 21 : Nat) : Int)) (b := ((S.L + 22 : Nat) : Int)) (by omega) (by simp [opT3d, exR])
 rw [K.at_ (j := 21) (by omega), w21, K.at_ (j := 22) (by omega), w22] at w23
 exact ⟨w15, w19, w23⟩
set_option maxHeartbeats 3200000 in
theorem opT3i_words {S : Ms} {A B : Nat → Int} (K : Blk S 3 (opT3i A B) 24) (x y μ : Nat → Nat) (ha : ∀ i, i < 3 → wordAt (blkS S 3 (opT3i A B) 24).v (blkS S 3 (opT3i A B) 24).L (A i) = x i) (hb : ∀ i, i < 3 → wordAt (blkS S 3 (opT3i A B) 24).v (blkS S 3 (opT3i A B) 24).L (B i) = y i) (hm : ∀ j, S.tw (S.used + j) = μ j) :
  (blkS S 3 (opT3i A B) 24).v (S.L + 13) = (((x 0 &&& y 0) ^^^ μ 0) ^^^ μ 1) ∧ (blkS S 3 (opT3i A B) 24).v (S.L + 17) = (((x 1 &&& y 1) ^^^ ((μ 0 ^^^ (x 0 &&& y 1)) ^^^ (x 1 &&& y 0))) ^^^ μ 2) ∧ (blkS S 3 (opT3i A B) 24).v (S.L + 23) = (((x 2 &&& y 2) ^^^ ((μ 1 ^^^ (x 0 &&& y 2)) ^^^ (x 2 &&& y 0))) ^^^ ((μ 2 ^^^ (x 1 &&& y 2)) ^^^ (x 2 &&& y 1))) := by
 have w0 : (blkS S 3 (opT3i A B) 24).v (S.L + 0) = μ 0 := (K.rand (j := 0) (d := -1) (r := 0) (by omega) rfl (by simp [rands])).trans (hm _)
 have w1 : (blkS S 3 (opT3i A B) 24).v (S.L + 1) = μ 1 := (K.rand (j := 1) (d := -1) (r := 1) (by omega) rfl (by simp [rands, opT3i])).trans (hm _)
 have w2 : (blkS S 3 (opT3i A B) 24).v (S.L + 2) = μ 2 := (K.rand (j := 2) (d := -1) (r := 2) (by omega) rfl (by simp [rands, opT3i])).trans (hm _)
 have w3 := K.and (j := 3) (d := 0) (a := A 0) (b := B 0) (by omega) (by simp [opT3i])
 rw [ha 0 (by omega), hb 0 (by omega)] at w3
 have w4 := K.and (j := 4) (d := 0) (a := A 0) (b := B 1) (by omega) (by simp [opT3i])
 rw [ha 0 (by omega), hb 1 (by omega)] at w4
 have w5 := K.and (j := 5) (d := 0) (a := A 0) (b := B 2) (by omega) (by simp [opT3i])
 rw [ha 0 (by omega), hb 2 (by omega)] at w5
 have w6 := K.and (j := 6) (d := 1) (a := A 1) (b := B 0) (by omega) (by simp [opT3i])
 rw [ha 1 (by omega), hb 0 (by omega)] at w6
 have w7 := K.and (j := 7) (d := 1) (a := A 1) (b := B 1) (by omega) (by simp [opT3i])
 rw [ha 1 (by omega), hb 1 (by omega)] at w7
 have w8 := K.and (j := 8) (d := 1) (a := A 1) (b := B 2) (by omega) (by simp [opT3i])
 rw [ha 1 (by omega), hb 2 (by omega)] at w8
 have w9 := K.and (j := 9) (d := 2) (a := A 2) (b := B 0) (by omega) (by simp [opT3i])
 rw [ha 2 (by omega), hb 0 (by omega)] at w9
 have w10 := K.and (j := 10) (d := 2) (a := A 2) (b := B 1) (by omega) (by simp [opT3i])
 rw [ha 2 (by omega), hb 1 (by omega)] at w10
 have w11 := K.and (j := 11) (d := 2) (a := A 2) (b := B 2) (by omega) (by simp [opT3i])
 rw [ha 2 (by omega), hb 2 (by omega)] at w11
 have w12 := K.xor (j := 12) (d := 0) (a := ((S.L + 3 : Nat) : Int)) (b := ((S.L + 0 : Nat) : Int)) (by omega) (by simp [opT3i, exR])
 rw [K.at_ (j := 3) (by omega), w3, K.at_ (j := 0) (by omega), w0] at w12
 have w13 := K.xor (j := 13) (d := 0) (a := ((S.L + 12 : Nat) : Int)) (b := ((S.L + 1 : Nat) : Int)) (by omega) (by simp [opT3i, exR])
 rw [K.at_ (j := 12) (by omega), w12, K.at_ (j := 1) (by omega), w1] at w13
 have w14 := K.xor (j := 14) (d := 1) (a := ((S.L + 0 : Nat) : Int)) (b := ((S.L + 4 : Nat) : Int)) (by omega) (by simp [opT3i, exR])
 rw [K.at_ (j := 0) (by omega), w0, K.at_ (j := 4) (by omega), w4] at w14
 have w15 := K.xor (j := 15) (d := 1) (a := ((S.L + 14 : Nat) : Int)) (b := ((S.L + 6 : Nat) : Int)) (by omega) (by simp [opT3i, exR])
 rw [K.at_ (j := 14) (by omega), w14, K.at_ (j := 6) (by omega), w6] at w15
 have w16 := K.xor (j := 16) (d := 1) (a := ((S.L + 7 : Nat) : Int)) (b := ((S.L + 15 : Nat) : Int)) (by omega) (by simp [opT3i, exR])
 rw [K.at_ (j := 7) (by omega), w7, K.at_ (j := 15) (by omega), w15] at w16
 have w17 := K.xor (j := 17) (d := 1) (a := ((S.L + 16 : Nat) : Int)) (b := ((S.L + 2 : Nat) : Int)) (by omega) (by simp [opT3i, exR])
 rw [K.at_ (j := 16) (by omega), w16, K.at_ (j := 2) (by omega), w2] at w17
 have w18 := K.xor (j := 18) (d := 2) (a := ((S.L + 1 : Nat) : Int)) (b := ((S.L + 5 : Nat) : Int)) (by omega) (by simp [opT3i, exR])
 rw [K.at_ (j := 1) (by omega), w1, K.at_ (j := 5) (by omega), w5] at w18
 have w19 := K.xor (j := 19) (d := 2) (a := ((S.L + 18 : Nat) : Int)) (b := ((S.L + 9 : Nat) : Int)) (by omega) (by simp [opT3i, exR])
 rw [K.at_ (j := 18) (by omega), w18, K.at_ (j := 9) (by omega), w9] at w19
 have w20 := K.xor (j := 20) (d := 2) (a := ((S.L + 11 : Nat) : Int)) (b := ((S.L + 19 : Nat) : Int)) (by omega) (by simp [opT3i, exR])
 rw [K.at_ (j := 11) (by omega), w11, K.at_ (j := 19) (by omega), w19] at w20
 have w21 := K.xor (j := 21) (d := 2) (a := ((S.L + 2 : Nat) : Int)) (b := ((S.L + 8 : Nat) : Int)) (by omega) (by simp [opT3i, exR])
 rw [K.at_ (j := 2) (by omega), w2, K.at_ (j := 8) (by omega), w8] at w21
 have w22 := K.xor (j := 22) (d := 2) (a := ((S.L + 21 : Nat) : Int)) (b := ((S.L + 10 : Nat) : Int)) (by omega) (by simp [opT3i, exR])
 rw [K.at_ (j := 21) (by omega), w21, K.at_ (j := 10) (by omega), w10] at w22
 have w23 := K.xor (j := 23) (d := 2) (a := ((S.L + 20 : Nat) : Int)) (b := ((S.L + 22 : Nat) : Int)) (by omega) (by simp [opT3i, exR])
 rw [K.at_ (j := 20) (by omega), w20, K.at_ (j := 22) (by omega), w22] at w23
 exact ⟨w13, w17, w23⟩
def tmW (n : Int) (dom : Bool) (x y μ : Nat → Nat) (i : Nat) : Nat :=
 if n = 3 then (if dom = true then ( if i = 0 then (((x 0 &&& y 0) ^^^ ((x 0 &&& y 1) ^^^ μ 0)) ^^^ ((x 0 &&& y 2) ^^^ μ 1)) else if i = 1 then (((x 1 &&& y 1) ^^^ ((x 1 &&& y 0) ^^^ μ 0)) ^^^ ((x 1 &&& y 2) ^^^ μ 2)) else (((x 2 &&& y 2) ^^^ ((x 2 &&& y 0) ^^^ μ 1)) ^^^ ((x 2 &&& y 1) ^^^ μ 2))) else ( if i = 0 then (((x 0 &&& y 0) ^^^ μ 0) ^^^ μ 1) else if i = 1 then (((x 1 &&& y 1) ^^^ ((μ 0 ^^^ (x 0 &&& y 1)) ^^^ (x 1 &&& y 0))) ^^^ μ 2) else (((x 2 &&& y 2) ^^^ ((μ 1 ^^^ (x 0 &&& y 2)) ^^^ (x 2 &&& y 0))) ^^^ ((μ 2 ^^^ (x 1 &&& y 2)) ^^^ (x 2 &&& y 1))))) else (if dom = true then ( if i = 0 then ((x 0 &&& y 0) ^^^ ((x 0 &&& y 1) ^^^ μ 0)) else ((x 1 &&& y 1) ^^^ ((x 1 &&& y 0) ^^^ μ 0))) else ( if i = 0 then ((x 0 &&& y 0) ^^^ μ 0) else ((x 1 &&& y 1) ^^^ ((μ 0 ^^^ (x 0 &&& y 1)) ^^^ (x 1 &&& y 0)))))
theorem tm_words {S : Ms} {dom : Bool} {A B : Nat → Int} (hs : S.skip = 0) (hd : S.dry = false) (hn : S.n = 2 ∨ S.n = 3) (hA : Gw S A) (hB : Gw S B) (h : (tmS S dom A B).e = 0) :
  ∃ q : Nat → Nat, (∀ i, i < 3 → (i < S.sh → tmR S dom A B i = ((q i : Nat) : Int) ∧ q i < (tmS S dom A B).L) ∧ (S.sh ≤ i → tmR S dom A B i = -1)) ∧
   ∀ i, i < S.sh → (tmS S dom A B).v (q i) = tmW S.n dom (fun j => wordAt S.v S.L (A j)) (fun j => wordAt S.v S.L (B j)) (fun j => S.tw (S.used + j)) i := by
 have hX := tmS_ext S dom A B
 have oA : ∀ i, i < 3 → wordAt (tmS S dom A B).v (tmS S dom A B).L (A i) = wordAt S.v S.L (A i) := fun i hi => wordAt_ext hX (hA.lt i hi)
 have oB : ∀ i, i < 3 → wordAt (tmS S dom A B).v (tmS S dom A B).L (B i) = wordAt S.v S.L (B i) := fun i hi => wordAt_ext hX (hB.lt i hi)
 clear hX
 unfold tmS tmR tmW at *
 rcases hn with e | e
 ·
  have hsh : S.sh = 2 := by unfold Ms.sh; omega
  have h3 : ¬ S.n = 3 := by omega
  have hM : tmM S.n = 9 := if_neg h3
  cases dom with
  | true =>
   have hO : tmO S.n true A B = opT2d A B := (if_neg h3).trans (if_pos rfl)
   rw [hO, hM] at h oA oB ⊢
   have K := blk_of hs hd h
   have hL := K.L
   obtain ⟨w0, w1⟩ := opT2d_words K (fun j => wordAt S.v S.L (A j)) (fun j => wordAt S.v S.L (B j)) (fun j => S.tw (S.used + j)) (fun i hi => oA i (by omega)) (fun i hi => oB i (by omega)) (fun _ => rfl)
   refine ⟨nat3 (S.L + 6) (S.L + 8) 0, fun i hi => ⟨fun hi2 => ?_, fun hi2 => ?_⟩, fun i hi => ?_⟩
   ·
    rw [if_neg h3, if_pos rfl, hL]
    rcases (by omega : i = 0 ∨ i = 1) with rfl | rfl
    · rw [reg3_0, K.reg 6 (by omega), nat3_0]; exact ⟨rfl, by omega⟩
    · rw [reg3_1, K.reg 8 (by omega), nat3_1]; exact ⟨rfl, by omega⟩
   ·
    obtain rfl : i = 2 := by omega
    rw [if_neg h3, if_pos rfl, reg3_2]
   ·
    rw [if_neg h3, if_pos rfl]
    rcases (by omega : i = 0 ∨ i = 1) with rfl | rfl
    · rw [if_pos rfl, nat3_0]; exact w0
    · rw [if_neg (by decide), nat3_1]; exact w1
  | false =>
   have hO : tmO S.n false A B = opT2i A B := (if_neg h3).trans (if_neg (by decide))
   rw [hO, hM] at h oA oB ⊢
   have K := blk_of hs hd h
   have hL := K.L
   obtain ⟨w0, w1⟩ := opT2i_words K (fun j => wordAt S.v S.L (A j)) (fun j => wordAt S.v S.L (B j)) (fun j => S.tw (S.used + j)) (fun i hi => oA i (by omega)) (fun i hi => oB i (by omega)) (fun _ => rfl)
   refine ⟨nat3 (S.L + 5) (S.L + 8) 0, fun i hi => ⟨fun hi2 => ?_, fun hi2 => ?_⟩, fun i hi => ?_⟩
   ·
    rw [if_neg h3, if_neg (by decide), hL]
    rcases (by omega : i = 0 ∨ i = 1) with rfl | rfl
    · rw [reg3_0, K.reg 5 (by omega), nat3_0]; exact ⟨rfl, by omega⟩
    · rw [reg3_1, K.reg 8 (by omega), nat3_1]; exact ⟨rfl, by omega⟩
   ·
    obtain rfl : i = 2 := by omega
    rw [if_neg h3, if_neg (by decide), reg3_2]
   ·
    rw [if_neg h3, if_neg (by decide)]
    rcases (by omega : i = 0 ∨ i = 1) with rfl | rfl
    · rw [if_pos rfl, nat3_0]; exact w0
    · rw [if_neg (by decide), nat3_1]; exact w1
 ·
  have hsh : S.sh = 3 := by unfold Ms.sh; omega
  have hM : tmM S.n = 24 := if_pos e
  cases dom with
  | true =>
   have hO : tmO S.n true A B = opT3d A B := (if_pos e).trans (if_pos rfl)
   rw [hO, hM] at h oA oB ⊢
   have K := blk_of hs hd h
   have hL := K.L
   obtain ⟨w0, w1, w2⟩ := opT3d_words K (fun j => wordAt S.v S.L (A j)) (fun j => wordAt S.v S.L (B j)) (fun j => S.tw (S.used + j)) (fun i hi => oA i (by omega)) (fun i hi => oB i (by omega)) (fun _ => rfl)
   refine ⟨nat3 (S.L + 15) (S.L + 19) (S.L + 23), fun i hi => ⟨fun hi2 => ?_, fun hi2 => ?_⟩, fun i hi => ?_⟩
   ·
    rw [if_pos e, if_pos rfl, hL]
    rcases (by omega : i = 0 ∨ i = 1 ∨ i = 2) with rfl | rfl | rfl
    · rw [reg3_0, K.reg 15 (by omega), nat3_0]; exact ⟨rfl, by omega⟩
    · rw [reg3_1, K.reg 19 (by omega), nat3_1]; exact ⟨rfl, by omega⟩
    · rw [reg3_2, K.reg 23 (by omega), nat3_2]; exact ⟨rfl, by omega⟩
   · omega
   ·
    rw [if_pos e, if_pos rfl]
    rcases (by omega : i = 0 ∨ i = 1 ∨ i = 2) with rfl | rfl | rfl
    · rw [if_pos rfl, nat3_0]; exact w0
    · rw [if_neg (by decide), if_pos rfl, nat3_1]; exact w1
    · rw [if_neg (by decide), if_neg (by decide), nat3_2]; exact w2
  | false =>
   have hO : tmO S.n false A B = opT3i A B := (if_pos e).trans (if_neg (by decide))
   rw [hO, hM] at h oA oB ⊢
   have K := blk_of hs hd h
   have hL := K.L
   obtain ⟨w0, w1, w2⟩ := opT3i_words K (fun j => wordAt S.v S.L (A j)) (fun j => wordAt S.v S.L (B j)) (fun j => S.tw (S.used + j)) (fun i hi => oA i (by omega)) (fun i hi => oB i (by omega)) (fun _ => rfl)
   refine ⟨nat3 (S.L + 13) (S.L + 17) (S.L + 23), fun i hi => ⟨fun hi2 => ?_, fun hi2 => ?_⟩, fun i hi => ?_⟩
   ·
    rw [if_pos e, if_neg (by decide), hL]
    rcases (by omega : i = 0 ∨ i = 1 ∨ i = 2) with rfl | rfl | rfl
    · rw [reg3_0, K.reg 13 (by omega), nat3_0]; exact ⟨rfl, by omega⟩
    · rw [reg3_1, K.reg 17 (by omega), nat3_1]; exact ⟨rfl, by omega⟩
    · rw [reg3_2, K.reg 23 (by omega), nat3_2]; exact ⟨rfl, by omega⟩
   · omega
   ·
    rw [if_pos e, if_neg (by decide)]
    rcases (by omega : i = 0 ∨ i = 1 ∨ i = 2) with rfl | rfl | rfl
    · rw [if_pos rfl, nat3_0]; exact w0
    · rw [if_neg (by decide), if_pos rfl, nat3_1]; exact w1
    · rw [if_neg (by decide), if_neg (by decide), nat3_2]; exact w2
theorem tmW_all {n : Int} (hn : n = 2 ∨ n = 3) (dom : Bool) (x y μ : Nat → Nat) : (n = 2 → tmW n dom x y μ 0 ^^^ tmW n dom x y μ 1 = (x 0 ^^^ x 1) &&& (y 0 ^^^ y 1)) ∧ (n = 3 → tmW n dom x y μ 0 ^^^ tmW n dom x y μ 1 ^^^ tmW n dom x y μ 2 = (x 0 ^^^ x 1 ^^^ x 2) &&& (y 0 ^^^ y 1 ^^^ y 2)) := by
 refine ⟨fun e => ?_, fun e => ?_⟩
 ·
  subst e
  unfold tmW
  rw [if_neg (by decide)]
  cases dom
  ·
   refine Nat.eq_of_testBit_eq fun j => ?_
   simp only [reduceIte, Nat.testBit_xor, Nat.testBit_and, Bool.false_eq_true, Nat.one_ne_zero, show ¬ (2 : Int) = 3 by decide]
   generalize (x 0).testBit j = a
   generalize (x 1).testBit j = b
   generalize (y 0).testBit j = c
   generalize (y 1).testBit j = d
   generalize (μ 0).testBit j = r
   revert a b c d r
   decide
  ·
   refine Nat.eq_of_testBit_eq fun j => ?_
   simp only [reduceIte, Nat.testBit_xor, Nat.testBit_and, Nat.one_ne_zero, show ¬ (2 : Int) = 3 by decide]
   generalize (x 0).testBit j = a
   generalize (x 1).testBit j = b
   generalize (y 0).testBit j = c
   generalize (y 1).testBit j = d
   generalize (μ 0).testBit j = r
   revert a b c d r
   decide
 ·
  subst e
  unfold tmW
  cases dom
  ·
   refine Nat.eq_of_testBit_eq fun j => ?_
   simp only [reduceIte, Nat.testBit_xor, Nat.testBit_and, Bool.false_eq_true, Nat.one_ne_zero, show ¬ 2 = 0 by decide, show ¬ 2 = 1 by decide]
   generalize (x 0).testBit j = a
   generalize (x 1).testBit j = b
   generalize (x 2).testBit j = c
   generalize (y 0).testBit j = d
   generalize (y 1).testBit j = e
   generalize (y 2).testBit j = f
   generalize (μ 0).testBit j = r
   generalize (μ 1).testBit j = s
   generalize (μ 2).testBit j = u
   revert a b c d e f r s u
   decide
  ·
   refine Nat.eq_of_testBit_eq fun j => ?_
   simp only [reduceIte, Nat.testBit_xor, Nat.testBit_and, Nat.one_ne_zero, show ¬ 2 = 0 by decide, show ¬ 2 = 1 by decide]
   generalize (x 0).testBit j = a
   generalize (x 1).testBit j = b
   generalize (x 2).testBit j = c
   generalize (y 0).testBit j = d
   generalize (y 1).testBit j = e
   generalize (y 2).testBit j = f
   generalize (μ 0).testBit j = r
   generalize (μ 1).testBit j = s
   generalize (μ 2).testBit j = u
   revert a b c d e f r s u
   decide
theorem tm_vl {S : Ms} {dom : Bool} {A B : Nat → Int} (hs : S.skip = 0) (hd : S.dry = false) (hn : S.n = 2 ∨ S.n = 3) (hA : Gw S A) (hB : Gw S B) (h : (tmS S dom A B).e = 0) :
  vlN (tmS S dom A B).v (tmS S dom A B).L (tmR S dom A B) = vlN S.v S.L A &&& vlN S.v S.L B ∧ Gw (tmS S dom A B) (tmR S dom A B) := by
 obtain ⟨q, hq, hw⟩ := tm_words hs hd hn hA hB h
 have at_ : ∀ i, i < 3 → i < S.sh → wordAt (tmS S dom A B).v (tmS S dom A B).L (tmR S dom A B i) = (tmS S dom A B).v (q i) := fun i hi hj => by
  obtain ⟨e, l⟩ := (hq i hi).1 hj
  rw [e]; exact wordAt_nat l
 have gw : Gw (tmS S dom A B) (tmR S dom A B) := ⟨fun i hi => by
   by_cases e : i < S.sh
   ·
    obtain ⟨e1, l⟩ := (hq i hi).1 e
    rw [e1]; omega
   · rw [(hq i hi).2 (by omega)]; omega, fun i hi hj => by
   have e2 : (tmS S dom A B).sh = S.sh := by unfold Ms.sh; rw [(tmS_ext S dom A B).n]
   rw [e2] at hi
   rw [(hq i hj).2 hi]; omega⟩
 refine ⟨?_, gw⟩
 rw [vl_three, vl_three, vl_three]
 obtain ⟨t2, t3⟩ := tmW_all hn dom (fun j => wordAt S.v S.L (A j)) (fun j => wordAt S.v S.L (B j)) (fun j => S.tw (S.used + j))
 rcases hn with e | e
 ·
  have hsh : S.sh = 2 := by unfold Ms.sh; omega
  rw [at_ 0 (by omega) (by omega), at_ 1 (by omega) (by omega), (hq 2 (by omega)).2 (by omega), hw 0 (by omega), hw 1 (by omega), wordAt_neg (by omega : (-1 : Int) < 0), wordAt_neg (hA.no 2 (by omega) (by omega)), wordAt_neg (hB.no 2 (by omega) (by omega)), Nat.xor_zero, Nat.xor_zero, Nat.xor_zero]
  exact t2 e
 ·
  have hsh : S.sh = 3 := by unfold Ms.sh; omega
  rw [at_ 0 (by omega) (by omega), at_ 1 (by omega) (by omega), at_ 2 (by omega) (by omega), hw 0 (by omega), hw 1 (by omega), hw 2 (by omega)]
  exact t3 e
theorem tmR_wb {k : Nat} {S : Ms} (h : Bq k S) (hk : k + 24 ≤ 1000000) {dom : Bool} {A B : Nat → Int} (hA : Wb A) (hB : Wb B) : Wb (tmR S dom A B) := by
 have hB' := h.begins 3
 unfold tmR
 repeat' split
 · exact reg3_wb (sqr_bd hB' (fun j _ r hr => opT3d_wf hA hB hr j) (by omega)) (sqr_bd hB' (fun j _ r hr => opT3d_wf hA hB hr j) (by omega)) (sqr_bd hB' (fun j _ r hr => opT3d_wf hA hB hr j) (by omega))
 · exact reg3_wb (sqr_bd hB' (fun j _ r hr => opT3i_wf hA hB hr j) (by omega)) (sqr_bd hB' (fun j _ r hr => opT3i_wf hA hB hr j) (by omega)) (sqr_bd hB' (fun j _ r hr => opT3i_wf hA hB hr j) (by omega))
 · exact reg3_wb (sqr_bd hB' (fun j _ r hr => opT2d_wf hA hB hr j) (by omega)) (sqr_bd hB' (fun j _ r hr => opT2d_wf hA hB hr j) (by omega)) I64.m1
 · exact reg3_wb (sqr_bd hB' (fun j _ r hr => opT2i_wf hA hB hr j) (by omega)) (sqr_bd hB' (fun j _ r hr => opT2i_wf hA hB hr j) (by omega)) I64.m1
end Go.Proofs.YthkijncnndoafaaGreatDoor
