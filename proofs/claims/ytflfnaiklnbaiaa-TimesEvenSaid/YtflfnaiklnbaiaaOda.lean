import Derived.Test.YtflfnaiklnbaiaaProg
import Derived.Test.YtflfnaiklnbaiaaShr
/- The document's machine alone, and boxes. -/
namespace Go.Proofs.Ytflfnaiklnbaiaa
open Go.RowKit
set_option maxRecDepth 100000
/-- From w0, with the blocks F0, the document's machine has come to S at w; bs: boxes that were made since. -/
structure Od (lg : LoG) (F0 : Nat → Prop) (w0 w : World) (b : Nat) (S : Ms) (bs : List (Nat × Obj)) : Prop where
  ex : ∃ ov bv vv tv, Dm lg w b S ov bv vv tv ∧ (∀ k, Ft b ov bv vv k → F0 k ∨ w0.heap.size ≤ k) ∧ ∀ q ∈ bs, ¬ Ft b ov bv vv q.1
  tch : Tch F0 w0 w
  g : ∀ k, lg.G k → k < w0.heap.size
  bx : ∀ q ∈ bs, w0.heap.size ≤ q.1 ∧ w.heap[q.1]? = some q.2
  nd : (bs.map (·.1)).Nodup
section
variable {lg : LoG} {F0 : Nat → Prop} {w0 w w' : World} {b : Nat} {S S' : Ms} {bs : List (Nat × Obj)}
theorem Od.start {ov bv vv tv : Value} (h : Dm lg w b S ov bv vv tv) (hg : ∀ k, lg.G k → k < w.heap.size) : Od lg (Ft b ov bv vv) w w b S [] :=
  ⟨⟨ov, bv, vv, tv, h, fun _ q => .inl q, fun q hq => (List.not_mem_nil hq).elim⟩, Tch.refl _ _, hg, fun q hq => (List.not_mem_nil hq).elim, by simp⟩
theorem Od.lt (h : Od lg F0 w0 w b S bs) {q : Nat × Obj} (hq : q ∈ bs) : q.1 < w.heap.size := (Array.getElem?_eq_some_iff.1 (h.bx q hq).2).1
theorem Od.self (h : Od lg F0 w0 w b S bs) (hb : Below w.heap.size w w') : Od lg F0 w0 w' b S bs := by
  obtain ⟨ov, bv, vv, tv, h1, h2, h3⟩ := h.ex
  exact ⟨⟨ov, bv, vv, tv, h1.self hb, h2, h3⟩, h.tch.trans (Tch.of_below (F := F0) hb) (fun _ _ f => f), h.g, fun q hq => ⟨(h.bx q hq).1, (hb.block _ (h.lt hq)).trans (h.bx q hq).2⟩, h.nd⟩
theorem Od.new (h : Od lg F0 w0 w b S bs) (cs : Array Value) (T : TypeId) : Od lg F0 w0 (w.alloc (.cells cs T)) b S ((w.heap.size, .cells cs T (0, 0)) :: bs) := by
  have hb := (Below.refl w.heap.size w).alloc (Nat.le_refl _) (.cells cs T)
  have h' := h.self hb
  obtain ⟨ov, bv, vv, tv, h1, h2, h3⟩ := h.ex
  refine ⟨⟨ov, bv, vv, tv, h1.self hb, h2, fun q hq => ?_⟩, h'.tch, h.g, fun q hq => ?_, ?_⟩
  · rcases List.mem_cons.1 hq with rfl | hq
    · exact fun e => by have := h1.ftlt e; omega
    · exact h3 q hq
  · rcases List.mem_cons.1 hq with rfl | hq
    · exact ⟨h.tch.size, heap_alloc_new _ _⟩
    · exact h'.bx q hq
  · rw [List.map_cons, List.nodup_cons]
    refine ⟨fun e => ?_, h.nd⟩
    obtain ⟨q, hq, e⟩ := List.mem_map.1 e
    have := h.lt hq
    have e' : q.1 = w.heap.size := e
    omega
theorem Od.sub {bs' : List (Nat × Obj)} (h : Od lg F0 w0 w b S bs) (hs : ∀ q ∈ bs', q ∈ bs) (hn : (bs'.map (·.1)).Nodup) : Od lg F0 w0 w b S bs' := by
  obtain ⟨ov, bv, vv, tv, h1, h2, h3⟩ := h.ex
  exact ⟨⟨ov, bv, vv, tv, h1, h2, fun q hq => h3 q (hs q hq)⟩, h.tch, h.g, fun q hq => h.bx q (hs q hq), hn⟩
theorem Od.drop {q : Nat × Obj} (h : Od lg F0 w0 w b S (q :: bs)) : Od lg F0 w0 w b S bs := h.sub (fun _ hz => List.mem_cons_of_mem _ hz) (by have := h.nd; rw [List.map_cons, List.nodup_cons] at this; exact this.2)
theorem Od.swap {q r : Nat × Obj} (h : Od lg F0 w0 w b S (q :: r :: bs)) : Od lg F0 w0 w b S (r :: q :: bs) := h.sub (fun z hz => by simp at hz ⊢; rcases hz with e | e | e <;> simp [e]) (by
  have := h.nd
  simp only [List.map_cons, List.nodup_cons, List.mem_cons, not_or] at this ⊢
  exact ⟨⟨fun e => this.1.1 e.symm, this.2.1⟩, this.1.2, this.2.2⟩)
/-- The first box is turned. -/
theorem Od.turn {n : Nat} {o o' : Obj} (h : Od lg F0 w0 w b S ((n, o) :: bs)) (hn : w'.heap[n]? = some o') (ho : ∀ k, k ≠ n → w'.heap[k]? = w.heap[k]?) (hs : w.heap.size ≤ w'.heap.size) (hos : w'.os = w.os ∧ w'.tape = w.tape ∧ w'.output = w.output) : Od lg F0 w0 w' b S ((n, o') :: bs) := by
  have hb := h.bx _ (List.mem_cons_self ..)
  have hnd := h.nd
  rw [List.map_cons, List.nodup_cons] at hnd
  obtain ⟨ov, bv, vv, tv, h1, h2, h3⟩ := h.ex
  have hn0 : w0.heap.size ≤ n := hb.1
  have hne : ∀ k, Ft b ov bv vv k → k ≠ n := fun k hk e => h3 _ (List.mem_cons_self ..) (by show Ft b ov bv vv n; rw [← e]; exact hk)
  refine ⟨⟨ov, bv, vv, tv, h1.stays hs (fun k hk => ho k (hne k hk)) (fun k hk _ => ho k (by have := h.g k hk; omega)), h2, fun q hq => ?_⟩, ?_, h.g, fun q hq => ?_, ?_⟩
  · rcases List.mem_cons.1 hq with rfl | hq
    · exact h3 (n, o) (List.mem_cons_self ..)
    · exact h3 q (List.mem_cons_of_mem _ hq)
  · exact h.tch.trans ⟨hos.1, hos.2.1, hos.2.2, hs, fun k hk hF => ho k (fun e => hF (by show n = k; exact e.symm))⟩ (G := fun k => n = k) (fun j hj e => by have e' : n = j := e; omega)
  · rcases List.mem_cons.1 hq with rfl | hq
    · exact ⟨hb.1, hn⟩
    · exact ⟨(h.bx q (List.mem_cons_of_mem _ hq)).1, (ho q.1 (fun e => hnd.1 (List.mem_map.2 ⟨q, hq, e⟩))).trans (h.bx q (List.mem_cons_of_mem _ hq)).2⟩
  · rw [List.map_cons, List.nodup_cons]; exact hnd
theorem Od.row {n : Nat} {cs : Array Value} {T : TypeId} (h : Od lg F0 w0 w b S ((n, .cells cs T (0, 0)) :: bs)) (cs' : Array Value) : Od lg F0 w0 (w.setRow n cs') b S ((n, .cells cs' T (0, 0)) :: bs) :=
  h.turn (setRow_heap w n cs cs' T _ (h.bx _ (List.mem_cons_self ..)).2) (fun k hk => setRow_other w n k cs' hk) (by simp [World.setRow]) ⟨rfl, rfl, rfl⟩
theorem Od.cell {n : Nat} {cs : Array Value} {T : TypeId} (h : Od lg F0 w0 w b S ((n, .cells cs T (0, 0)) :: bs)) (i : Nat) (v : Value) : Od lg F0 w0 (w.setCell ⟨n, i, none⟩ v) b S ((n, .cells (cs.setIfInBounds i v) T (0, 0)) :: bs) :=
  h.turn (heap_setCell_same w n i cs T v (h.bx _ (List.mem_cons_self ..)).2) (fun k hk => heap_setCell_other w ⟨n, i, none⟩ k v hk) (by simp [World.setCell]) ⟨rfl, rfl, rfl⟩
theorem Od.bl (h : Od lg F0 w0 w b S bs) (i : Nat) {n : Nat} {u : Obj} (hi : bs[i]? = some (n, u)) : w.heap[n]? = some u := (h.bx (n, u) (List.mem_of_getElem? hi)).2
/-- The shares' number. -/
theorem Od.n (h : Od lg F0 w0 w b S bs) : w.cell? ⟨b, 0, none⟩ = some (.int .i64 S.n) := by
  obtain ⟨ov, bv, vv, tv, h1, _⟩ := h.ex
  exact h1.c_n
/-- A method's contract. -/
theorem Od.lift (h : Od lg F0 w0 w b S bs) {f : FuncId} {args : Array Value} {E : Ending → Prop} (hc : ∀ ov bv vv tv, Dm lg w b S ov bv vv tv → Calls Try.prog f args w fun e w' => E e ∧ DmR lg b ov bv vv S' w w') : Calls Try.prog f args w fun e w' => E e ∧ Od lg F0 w0 w' b S' bs := by
  obtain ⟨ov, bv, vv, tv, h1, h2, h3⟩ := h.ex
  refine (hc ov bv vv tv h1).mono fun e w' hr => ⟨hr.1, ?_⟩
  obtain ⟨ov', bv', vv', tv', g1, g2, g3⟩ := hr.2
  refine ⟨⟨ov', bv', vv', tv', g1, fun k hk => ?_, fun q hq e => ?_⟩, h.tch.trans g2 (fun j hj f => (h2 j f).resolve_right (by omega)), h.g, fun q hq => ⟨(h.bx q hq).1, (g2.block q.1 (h.lt hq) (h3 q hq)).trans (h.bx q hq).2⟩, h.nd⟩
  · rcases g3 k hk with f | f
    · exact h2 k f
    · exact .inr (Nat.le_trans h.tch.size f)
  · rcases g3 _ e with f | f
    · exact h3 q hq f
    · have := h.lt hq; omega
theorem Od.fin {ov bv vv : Value} (h : Od lg (Ft b ov bv vv) w0 w b S bs) : DmR lg b ov bv vv S w0 w := by
  obtain ⟨ov', bv', vv', tv', h1, h2, _⟩ := h.ex
  exact ⟨ov', bv', vv', tv', h1, h.tch, h2⟩
/-- An op, with no outside word; a block's begin and end. -/
theorem Od.do0 {k : Nat} (o : Op6) (h : Od lg F0 w0 w b S bs) (hq : Bq k S) (hk : k ≤ 100000) (ho : opwf o) : Calls Try.prog 12 #[.pointer (some ⟨b, 0, none⟩), .agg (opCs o), .int .u64 0] w fun e w' => e = .returned (.int .i64 (S.doR o)) ∧ Od lg F0 w0 w' b (S.doS o 0) bs :=
  h.lift (fun ov bv vv tv hd => ddo_any lg b S o 0 ov bv vv tv w hd (hq.bd hk) (by decide) (by have := ho.2.2.2.2.2; omega))
theorem Od.begins {k : Nat} (kd : Int) (h : Od lg F0 w0 w b S bs) (hq : Bq k S) (hk : k ≤ 100000) : Calls Try.prog 36 #[.pointer (some ⟨b, 0, none⟩), .int .i64 kd] w fun e w' => e = .returned (.tuple #[]) ∧ Od lg F0 w0 w' b (S.beginS kd) bs :=
  h.lift (fun ov bv vv tv hd => (dbegin_any lg b S ov bv vv tv kd w hd (hq.bd hk)).mono fun _ _ hr => ⟨hr.1, ov, bv, vv, tv, hr.2.1, hr.2.2, fun _ hk => .inl hk⟩)
theorem Od.ends {k : Nat} (h : Od lg F0 w0 w b S bs) (hq : Bq k S) (hk : k ≤ 100000) : Calls Try.prog 38 #[.pointer (some ⟨b, 0, none⟩)] w fun e w' => e = .returned (.tuple #[]) ∧ Od lg F0 w0 w' b S.endS bs :=
  h.lift (fun ov bv vv tv hd => dend_any lg b S ov bv vv tv w hd (hq.bd hk))
end
/-- What is told of the document's machine alone, of both. -/
theorem Bz.docs {Pm : World → Nat → Ms → (Nat → Prop) → Prop} (hM : Mach Pm) {lo : Nat} {X : Nat → Prop} {W w : World} {p b : Nat} {S1 S S' : Ms} (h : Bz Pm lo X W w p b S1 S) {f : FuncId} {args : Array Value} {E : Ending → Prop}
    (hc : ∀ lg F0, Od lg F0 w w b S [] → Calls Try.prog f args w fun e w' => E e ∧ Od lg F0 w w' b S' []) : Calls Try.prog f args w fun e w' => E e ∧ Bz Pm lo X W w' p b S1 S' ∧ ∀ k, X k → w'.heap[k]? = w.heap[k]? := by
  obtain ⟨F, G, ov, bv, vv, tv, h1, h2, h3, h4, h5, h6, h7⟩ := h
  exact (hc ⟨lo, G⟩ _ (Od.start h2 h5)).mono fun _ _ hr => ⟨hr.1, Bz.doc hM h1 h2 h3 h4 h5 h6 h7 hr.2.fin⟩
end Go.Proofs.Ytflfnaiklnbaiaa

/- Boxes beside machines: one of them is turned, wherever it stands in the list. -/
namespace Go.Proofs.Ytflfnaiklnbaiaa
open Go.RowKit
set_option maxRecDepth 100000
theorem nodup_at {l : List Nat} (h : l.Nodup) {i j n : Nat} (hi : l[i]? = some n) (hj : l[j]? = some n) : i = j := by
  obtain ⟨h1, e1⟩ := List.getElem?_eq_some_iff.1 hi
  obtain ⟨h2, e2⟩ := List.getElem?_eq_some_iff.1 hj
  exact (List.getElem_inj h).1 (e1.trans e2.symm)
theorem bxs_set {bs : List (Nat × Obj)} {w w' : World} {lo i n : Nat} {o o' : Obj} (hnd : (bs.map (·.1)).Nodup) (hb : ∀ q ∈ bs, lo ≤ q.1 ∧ w.heap[q.1]? = some q.2) (hi : bs[i]? = some (n, o)) (hn : w'.heap[n]? = some o') (ho : ∀ k, k ≠ n → w'.heap[k]? = w.heap[k]?) :
    (bs.set i (n, o')).map (·.1) = bs.map (·.1) ∧ ∀ q ∈ bs.set i (n, o'), lo ≤ q.1 ∧ w'.heap[q.1]? = some q.2 := by
  have hlt : i < bs.length := (List.getElem?_eq_some_iff.1 hi).1
  have hin := hb _ (List.mem_of_getElem? hi)
  refine ⟨?_, fun q hq => ?_⟩
  · apply List.ext_getElem?
    intro j
    rw [List.getElem?_map, List.getElem?_map, List.getElem?_set]
    by_cases e : i = j
    · subst e; rw [if_pos rfl, if_pos hlt, hi]; rfl
    · rw [if_neg e]
  · obtain ⟨j, hj⟩ := List.mem_iff_getElem?.1 hq
    rw [List.getElem?_set] at hj
    by_cases e : i = j
    · subst e
      rw [if_pos rfl, if_pos hlt] at hj
      obtain rfl := Option.some.inj hj
      exact ⟨hin.1, hn⟩
    · rw [if_neg e] at hj
      have hq' := hb q (List.mem_of_getElem? hj)
      have hne : q.1 ≠ n := fun e2 => e (nodup_at hnd (i := i) (j := j) (n := n) (by rw [List.getElem?_map, hi]; rfl) (by rw [List.getElem?_map, hj]; exact congrArg some e2))
      exact ⟨hq'.1, (ho _ hne).trans hq'.2⟩
theorem mem_fst {bs bs' : List (Nat × Obj)} (h : bs'.map (·.1) = bs.map (·.1)) {q : Nat × Obj} (hq : q ∈ bs') : ∃ r ∈ bs, r.1 = q.1 := by
  have : q.1 ∈ bs'.map (·.1) := List.mem_map.2 ⟨q, hq, rfl⟩
  rw [h] at this
  exact List.mem_map.1 this
section
variable {lg : LoG} {F0 : Nat → Prop} {w0 w w' : World} {b : Nat} {S : Ms} {bs : List (Nat × Obj)}
theorem Od.turnI {i n : Nat} {o o' : Obj} (h : Od lg F0 w0 w b S bs) (hi : bs[i]? = some (n, o)) (hn : w'.heap[n]? = some o') (ho : ∀ k, k ≠ n → w'.heap[k]? = w.heap[k]?) (hs : w.heap.size ≤ w'.heap.size) (hos : w'.os = w.os ∧ w'.tape = w.tape ∧ w'.output = w.output) : Od lg F0 w0 w' b S (bs.set i (n, o')) := by
  obtain ⟨h1, h2⟩ := bxs_set h.nd h.bx hi hn ho
  have hq := List.mem_of_getElem? hi
  obtain ⟨ov, bv, vv, tv, g1, g2, g3⟩ := h.ex
  have hn0 : w0.heap.size ≤ n := (h.bx _ hq).1
  have hne : ∀ k, Ft b ov bv vv k → k ≠ n := fun k hk e => g3 _ hq (by show Ft b ov bv vv n; rw [← e]; exact hk)
  refine ⟨⟨ov, bv, vv, tv, g1.stays hs (fun k hk => ho k (hne k hk)) (fun k hk _ => ho k (by have := h.g k hk; omega)), g2, fun q hq => ?_⟩, ?_, h.g, h2, h1 ▸ h.nd⟩
  · obtain ⟨r, hr, e⟩ := mem_fst h1 hq
    rw [← e]; exact g3 r hr
  · exact h.tch.trans ⟨hos.1, hos.2.1, hos.2.2, hs, fun k hk hF => ho k (fun e => hF (by show n = k; exact e.symm))⟩ (G := fun k => n = k) (fun j hj e => by have e' : n = j := e; omega)
theorem Od.cellI {n : Nat} {cs : Array Value} {T : TypeId} (h : Od lg F0 w0 w b S bs) (i : Nat) (hi : bs[i]? = some (n, .cells cs T (0, 0))) (j : Nat) (v : Value) : Od lg F0 w0 (w.setCell ⟨n, j, none⟩ v) b S (bs.set i (n, .cells (cs.setIfInBounds j v) T (0, 0))) :=
  h.turnI hi (heap_setCell_same w n j cs T v (h.bl i hi)) (fun k hk => heap_setCell_other w ⟨n, j, none⟩ k v hk) (by simp [World.setCell]) ⟨rfl, rfl, rfl⟩
theorem Od.rowI {n : Nat} {cs : Array Value} {T : TypeId} (h : Od lg F0 w0 w b S bs) (i : Nat) (hi : bs[i]? = some (n, .cells cs T (0, 0))) (cs' : Array Value) : Od lg F0 w0 (w.setRow n cs') b S (bs.set i (n, .cells cs' T (0, 0))) :=
  h.turnI hi (setRow_heap w n cs cs' T _ (h.bl i hi)) (fun k hk => setRow_other w n k cs' hk) (by simp [World.setRow]) ⟨rfl, rfl, rfl⟩
end
section
variable {Pm : World → Nat → Ms → (Nat → Prop) → Prop} {F0 : Nat → Prop} {w0 w w' : World} {b : Nat} {S : Ms} {bs : List (Nat × Obj)}
theorem Ow.turnI {i n : Nat} {o o' : Obj} (hM : Mach Pm) (h : Ow Pm F0 w0 w b S bs) (hi : bs[i]? = some (n, o)) (hn : w'.heap[n]? = some o') (ho : ∀ k, k ≠ n → w'.heap[k]? = w.heap[k]?) (hs : w.heap.size ≤ w'.heap.size) (hos : w'.os = w.os ∧ w'.tape = w.tape ∧ w'.output = w.output) : Ow Pm F0 w0 w' b S (bs.set i (n, o')) := by
  obtain ⟨h1, h2⟩ := bxs_set h.nd h.bx hi hn ho
  have hq := List.mem_of_getElem? hi
  obtain ⟨F, g1, g2, g3⟩ := h.ex
  have hn0 : w0.heap.size ≤ n := (h.bx _ hq).1
  have hne : ∀ k, F k → k ≠ n := fun k hk e => g3 _ hq (by show F n; rw [← e]; exact hk)
  refine ⟨⟨F, hM.stays g1 hs (fun k hk => ho k (hne k hk)), g2, fun q hq => ?_⟩, ?_, h2, h1 ▸ h.nd⟩
  · obtain ⟨r, hr, e⟩ := mem_fst h1 hq
    rw [← e]; exact g3 r hr
  · exact h.tch.trans ⟨hos.1, hos.2.1, hos.2.2, hs, fun k hk hF => ho k (fun e => hF (by show n = k; exact e.symm))⟩ (G := fun k => n = k) (fun j hj e => by have e' : n = j := e; omega)
theorem Ow.cellI {n : Nat} {cs : Array Value} {T : TypeId} (hM : Mach Pm) (h : Ow Pm F0 w0 w b S bs) (i : Nat) (hi : bs[i]? = some (n, .cells cs T (0, 0))) (j : Nat) (v : Value) : Ow Pm F0 w0 (w.setCell ⟨n, j, none⟩ v) b S (bs.set i (n, .cells (cs.setIfInBounds j v) T (0, 0))) :=
  h.turnI hM hi (heap_setCell_same w n j cs T v (h.bl i hi)) (fun k hk => heap_setCell_other w ⟨n, j, none⟩ k v hk) (by simp [World.setCell]) ⟨rfl, rfl, rfl⟩
theorem Ow.rowI {n : Nat} {cs : Array Value} {T : TypeId} (hM : Mach Pm) (h : Ow Pm F0 w0 w b S bs) (i : Nat) (hi : bs[i]? = some (n, .cells cs T (0, 0))) (cs' : Array Value) : Ow Pm F0 w0 (w.setRow n cs') b S (bs.set i (n, .cells cs' T (0, 0))) :=
  h.turnI hM hi (setRow_heap w n cs cs' T _ (h.bl i hi)) (fun k hk => setRow_other w n k cs' hk) (by simp [World.setRow]) ⟨rfl, rfl, rfl⟩
end
section
variable {Pm : World → Nat → Ms → (Nat → Prop) → Prop} {lo : Nat} {X0 : Nat → Prop} {W w0 w w' : World} {p b : Nat} {S1 S2 : Ms} {bs : List (Nat × Obj)}
theorem Gy.turnI {i n : Nat} {o o' : Obj} (hM : Mach Pm) (h : Gy Pm lo X0 W w0 w p b S1 S2 bs) (hi : bs[i]? = some (n, o)) (hn : w'.heap[n]? = some o') (ho : ∀ k, k ≠ n → w'.heap[k]? = w.heap[k]?) (hs : w.heap.size ≤ w'.heap.size) (hos : w'.os = w.os ∧ w'.tape = w.tape ∧ w'.output = w.output) : Gy Pm lo X0 W w0 w' p b S1 S2 (bs.set i (n, o')) := by
  obtain ⟨h1, h2⟩ := bxs_set h.nd h.bx hi hn ho
  have hq := List.mem_of_getElem? hi
  have hn0 : w0.heap.size ≤ n := (h.bx _ hq).1
  have hT : Tch (fun k => k = n) w w' := ⟨hos.1, hos.2.1, hos.2.2, hs, fun k _ hk => ho k hk⟩
  refine ⟨(h.z.apart hM hT (fun k hk => ?_)).less (fun k hk => ?_), h2, fun k hk => ⟨(h.st k hk).1, (ho k (by have := (h.st k hk).1; omega)).trans (h.st k hk).2⟩, h.lo, Nat.le_trans h.le hs, h1 ▸ h.nd⟩
  · subst hk
    exact ⟨.inr ⟨(k, o), hq, rfl⟩, Nat.le_trans h.lo hn0⟩
  · rcases hk with e | ⟨q, hq, rfl⟩
    · exact .inl e
    · obtain ⟨r, hr, e⟩ := mem_fst h1 hq
      exact .inr ⟨r, hr, e⟩
theorem Gy.cellI {n : Nat} {cs : Array Value} {T : TypeId} (hM : Mach Pm) (h : Gy Pm lo X0 W w0 w p b S1 S2 bs) (i : Nat) (hi : bs[i]? = some (n, .cells cs T (0, 0))) (j : Nat) (v : Value) : Gy Pm lo X0 W w0 (w.setCell ⟨n, j, none⟩ v) p b S1 S2 (bs.set i (n, .cells (cs.setIfInBounds j v) T (0, 0))) :=
  h.turnI hM hi (heap_setCell_same w n j cs T v (h.bl i hi)) (fun k hk => heap_setCell_other w ⟨n, j, none⟩ k v hk) (by simp [World.setCell]) ⟨rfl, rfl, rfl⟩
theorem Gy.rowI {n : Nat} {cs : Array Value} {T : TypeId} (hM : Mach Pm) (h : Gy Pm lo X0 W w0 w p b S1 S2 bs) (i : Nat) (hi : bs[i]? = some (n, .cells cs T (0, 0))) (cs' : Array Value) : Gy Pm lo X0 W w0 (w.setRow n cs') p b S1 S2 (bs.set i (n, .cells cs' T (0, 0))) :=
  h.turnI hM hi (setRow_heap w n cs cs' T _ (h.bl i hi)) (fun k hk => setRow_other w n k cs' hk) (by simp [World.setRow]) ⟨rfl, rfl, rfl⟩
end
end Go.Proofs.Ytflfnaiklnbaiaa

/- General: ops one behind the other, each told by the registers that were made so far. No program is named. -/
namespace Go.Proofs.Ytflfnaiklnbaiaa

/-- m ops, one behind the other: the machine, and the registers that they made. -/
def sq (S : Ms) (op : Nat → (Nat → Int) → Op6) : Nat → Ms × (Nat → Int)
  | 0 => (S, none3)
  | m + 1 => ((sq S op m).1.doS (op m (sq S op m).2) 0, updI (sq S op m).2 m ((sq S op m).1.doR (op m (sq S op m).2)))
def sqS (S : Ms) (op : Nat → (Nat → Int) → Op6) (m : Nat) : Ms := (sq S op m).1
def sqR (S : Ms) (op : Nat → (Nat → Int) → Op6) (m : Nat) : Nat → Int := (sq S op m).2
/-- The op of place m, and its register. -/
def sqO (S : Ms) (op : Nat → (Nat → Int) → Op6) (m : Nat) : Op6 := op m (sqR S op m)
def sqr (S : Ms) (op : Nat → (Nat → Int) → Op6) (m : Nat) : Int := (sqS S op m).doR (sqO S op m)
theorem sqS_next (S : Ms) (op : Nat → (Nat → Int) → Op6) (m : Nat) : sqS S op (m + 1) = (sqS S op m).doS (sqO S op m) 0 := rfl
theorem sqR_next (S : Ms) (op : Nat → (Nat → Int) → Op6) (m : Nat) : sqR S op (m + 1) = updI (sqR S op m) m (sqr S op m) := rfl
theorem sq_more (S : Ms) (op : Nat → (Nat → Int) → Op6) (m : Nat) : ∀ d, Ext (sqS S op m) (sqS S op (m + d))
  | 0 => Ext.refl _
  | d + 1 => (sq_more S op m d).trans (by rw [show m + (d + 1) = (m + d) + 1 from rfl, sqS_next]; exact doS_ext _ _ _)
theorem sq_ext (S : Ms) (op : Nat → (Nat → Int) → Op6) (m : Nat) : Ext S (sqS S op m) := by
  have := sq_more S op 0 m
  rw [Nat.zero_add] at this
  exact this
theorem sq_tw (S : Ms) (op : Nat → (Nat → Int) → Op6) : ∀ m, (sqS S op m).tw = S.tw
  | 0 => rfl
  | m + 1 => by rw [sqS_next, doS_tw]; exact sq_tw S op m
theorem sq_bq {k : Nat} {S : Ms} (h : Bq k S) {op : Nat → (Nat → Int) → Op6} : ∀ {m}, (∀ j, j < m → ∀ r, Wb r → opwf (op j r)) → k + m ≤ 1000000 → Bq (k + m) (sqS S op m) ∧ Wb (sqR S op m)
  | 0, _, _ => ⟨h, none3_wb⟩
  | m + 1, ho, hk => by
    obtain ⟨h1, h2⟩ := sq_bq h (op := op) (m := m) (fun j hj => ho j (by omega)) (by omega)
    exact ⟨h1.does (ho m (by omega) _ h2) (by decide), h2.upd (doR_bd h1 (by omega) _)⟩
theorem sq_e {S : Ms} {op : Nat → (Nat → Int) → Op6} : ∀ {m}, (sqS S op m).e = 0 → ∀ j, j ≤ m → (sqS S op j).e = 0
  | 0, h, j, hj => by obtain rfl : j = 0 := by omega
                      exact h
  | m + 1, h, j, hj => by
    by_cases e : j = m + 1
    · subst e; exact h
    · exact sq_e (do_ok h).1 j (by omega)
/-- The registers of ops that are all done. -/
def exR (L m : Nat) : Nat → Int := fun i => if i < m then ((L + i : Nat) : Int) else -1
theorem exR_at {L m i : Nat} (h : i < m) : exR L m i = ((L + i : Nat) : Int) := if_pos h
theorem sq_regs {S : Ms} {op : Nat → (Nat → Int) → Op6} (hs : S.skip = 0) : ∀ {m}, (sqS S op m).e = 0 → sqR S op m = exR S.L m ∧ (sqS S op m).L = S.L + m
  | 0, _ => ⟨rfl, rfl⟩
  | m + 1, h => by
    obtain ⟨h1, h2⟩ := sq_regs (op := op) hs (do_ok h).1
    obtain ⟨w1, w2, _⟩ := do_word h ((sq_ext S op m).skip.trans hs)
    have w2' : (sqS S op (m + 1)).L = (sqS S op m).L + 1 := w2
    refine ⟨?_, by rw [w2', h2]; omega⟩
    funext i
    rw [sqR_next]
    have w1' : sqr S op m = ((S.L + m : Nat) : Int) := by rw [← h2]; exact w1
    by_cases e : i = m
    · subst e; rw [updI_at, exR_at (by omega), w1']
    · rw [updI_no _ _ e, h1]
      unfold exR
      by_cases q : i < m
      · rw [if_pos q, if_pos (by omega)]
      · rw [if_neg q, if_neg (by omega)]
/-- How many masks the first m ops draw. -/
def rands (op : Nat → (Nat → Int) → Op6) (L : Nat) : Nat → Nat
  | 0 => 0
  | m + 1 => rands op L m + (if (op m (exR L m)).K = 1 then 1 else 0)
theorem sq_used {S : Ms} {op : Nat → (Nat → Int) → Op6} (hs : S.skip = 0) (hd : S.dry = false) : ∀ {m}, (sqS S op m).e = 0 → (sqS S op m).used = S.used + rands op S.L m
  | 0, _ => rfl
  | m + 1, h => by
    have h0 := (do_ok h).1
    have h1 := sq_used (op := op) hs hd h0
    have h2 : (sqS S op m).doS (sqO S op m) 0 = (sqS S op m).put (sqO S op m) 0 := (do_ok h).2.1
    have hdd : (sqS S op m).dry = false := (sq_ext S op m).dry.trans hd
    rw [sqS_next, h2]
    show (if (sqO S op m).K = 1 ∧ (sqS S op m).dry = false then (sqS S op m).used + 1 else (sqS S op m).used) = S.used + (rands op S.L m + _)
    have ho : sqO S op m = op m (exR S.L m) := by unfold sqO; rw [(sq_regs hs h0).1]
    rw [ho, h1]
    by_cases e : (op m (exR S.L m)).K = 1
    · rw [if_pos ⟨e, hdd⟩, if_pos e]; omega
    · rw [if_neg (fun q => e q.1), if_neg e]; omega
/-- A register's word, where all ops are done. -/
theorem sq_word {S : Ms} {op : Nat → (Nat → Int) → Op6} {m j : Nat} (hs : S.skip = 0) (hd : S.dry = false) (h : (sqS S op m).e = 0) (hj : j < m) :
    (sqS S op m).v (S.L + j) = evN (op j (exR S.L j)).K (op j (exR S.L j)).C (wordAt (sqS S op m).v (sqS S op m).L (op j (exR S.L j)).A) (wordAt (sqS S op m).v (sqS S op m).L (op j (exR S.L j)).B) (wordAt (sqS S op m).v (sqS S op m).L (op j (exR S.L j)).E) (if (op j (exR S.L j)).K = 1 then S.tw (S.used + rands op S.L j) else 0) := by
  have hj1 : (sqS S op (j + 1)).e = 0 := sq_e h _ (by omega)
  have hj0 : (sqS S op j).e = 0 := sq_e h _ (by omega)
  have hsj : (sqS S op j).skip = 0 := (sq_ext S op j).skip.trans hs
  have hdj : (sqS S op j).dry = false := (sq_ext S op j).dry.trans hd
  obtain ⟨h1, h2⟩ := sq_regs hs hj0
  have ho : sqO S op j = op j (exR S.L j) := by unfold sqO; rw [h1]
  have hM := sq_more S op (j + 1) (m - (j + 1))
  rw [show j + 1 + (m - (j + 1)) = m by omega] at hM
  have hM0 := sq_more S op j (m - j)
  rw [show j + (m - j) = m by omega] at hM0
  have hL1 : (sqS S op (j + 1)).L = S.L + (j + 1) := (sq_regs hs hj1).2
  obtain ⟨_, g2, _, g4⟩ := do_ok (S := sqS S op j) (o := sqO S op j) (x := 0) hj1
  have hv : (sqS S op (j + 1)).v (S.L + j) = (sqS S op j).makes (sqO S op j) 0 := by
    rw [sqS_next, g2]
    show updN (sqS S op j).v (sqS S op j).L _ _ = _
    rw [h2]; exact updN_at _ _ _
  have hlen : (sqS S op j).len = S.L + j := by unfold Ms.len; rw [hsj, h2]; omega
  unfold Ms.bad at g4
  rw [Bool.or_eq_false_iff, Bool.not_eq_false', hlen] at g4
  obtain ⟨rA, rB, rE⟩ := okOp_regs g4.1
  rw [hM.v (S.L + j) (by omega), hv]
  unfold Ms.makes
  rw [← wordAt_ext hM0 (by rw [h2]; exact rA), ← wordAt_ext hM0 (by rw [h2]; exact rB), ← wordAt_ext hM0 (by rw [h2]; exact rE), ho]
  congr 1
  unfold Ms.word
  by_cases e : (op j (exR S.L j)).K = 1
  · rw [if_pos ⟨e, hdj⟩, if_pos e, sq_tw, sq_used hs hd hj0]
  · rw [if_neg (fun q => e q.1), if_neg e]
end Go.Proofs.Ytflfnaiklnbaiaa

/- General: words that get new masks. No program is named. -/
namespace Go.Proofs.Ytflfnaiklnbaiaa

/-- A block of ops. -/
def blkS (S : Ms) (kd : Int) (op : Nat → (Nat → Int) → Op6) (m : Nat) : Ms := (sqS (S.beginS kd) op m).endS
theorem endS_e {S : Ms} (h : S.endS.e = 0) : S.e = 0 ∧ S.kind ≠ 0 := by
  unfold Ms.endS at h
  by_cases e : S.e = 0
  · refine ⟨e, fun k => ?_⟩
    rw [if_neg (by omega), if_pos k] at h
    simp at h
  · rw [if_pos e] at h; exact absurd h e
theorem endS_v (S : Ms) : S.endS.v = S.v ∧ S.endS.L = S.L ∧ S.endS.used = S.used ∧ S.endS.free = S.free ∧ S.endS.TN = S.TN ∧ S.endS.most = S.most ∧ S.endS.words = S.words := by
  unfold Ms.endS
  repeat' split
  all_goals exact ⟨rfl, rfl, rfl, rfl, rfl, rfl, rfl⟩
theorem beginS_v (S : Ms) (k : Int) : (S.beginS k).v = S.v ∧ (S.beginS k).L = S.L ∧ (S.beginS k).used = S.used ∧ (S.beginS k).free = S.free ∧ (S.beginS k).TN = S.TN ∧ (S.beginS k).most = S.most ∧ (S.beginS k).words = S.words := by
  unfold Ms.beginS
  repeat' split
  all_goals exact ⟨rfl, rfl, rfl, rfl, rfl, rfl, rfl⟩
theorem beginS_e {S : Ms} {k : Int} (h : (S.beginS k).e = 0) : S.e = 0 ∧ S.kind = 0 := by
  unfold Ms.beginS at h
  by_cases e : S.e = 0
  · rw [if_neg (by omega)] at h
    refine ⟨e, ?_⟩
    by_cases q : S.kind ≠ 0 ∨ k < 1 ∨ 3 < k
    · rw [if_pos q] at h; simp at h
    · omega
  · rw [if_pos e] at h; exact absurd h e
theorem blk_ext (S : Ms) (kd : Int) (op : Nat → (Nat → Int) → Op6) (m : Nat) : Ext S (blkS S kd op m) := ((beginS_ext S kd).trans (sq_ext _ _ _)).trans (endS_ext _)
theorem blk_bq {k : Nat} {S : Ms} (h : Bq k S) {kd : Int} {op : Nat → (Nat → Int) → Op6} {m : Nat} (ho : ∀ j, j < m → ∀ r, Wb r → opwf (op j r)) (hk : k + m ≤ 1000000) : Bq (k + m + 1) (blkS S kd op m) := ((sq_bq (h.begins kd) ho hk).1.ends hk)
/-- Where a block is done: its ops' words, and registers. -/
structure Blk (S : Ms) (kd : Int) (op : Nat → (Nat → Int) → Op6) (m : Nat) : Prop where
  L : (blkS S kd op m).L = S.L + m
  reg : ∀ j, j < m → sqr (S.beginS kd) op j = ((S.L + j : Nat) : Int)
  word : ∀ j, j < m → (blkS S kd op m).v (S.L + j) = evN (op j (exR S.L j)).K (op j (exR S.L j)).C (wordAt (blkS S kd op m).v (blkS S kd op m).L (op j (exR S.L j)).A) (wordAt (blkS S kd op m).v (blkS S kd op m).L (op j (exR S.L j)).B) (wordAt (blkS S kd op m).v (blkS S kd op m).L (op j (exR S.L j)).E) (if (op j (exR S.L j)).K = 1 then S.tw (S.used + rands op S.L j) else 0)
  e : S.e = 0
theorem blk_of {S : Ms} {kd : Int} {op : Nat → (Nat → Int) → Op6} {m : Nat} (hs : S.skip = 0) (hd : S.dry = false) (h : (blkS S kd op m).e = 0) : Blk S kd op m := by
  have h1 : (sqS (S.beginS kd) op m).e = 0 := (endS_e h).1
  have hB := beginS_ext S kd
  obtain ⟨b1, b2, b3, _⟩ := beginS_v S kd
  obtain ⟨_, b5, _⟩ := beginS_n S kd
  obtain ⟨e1, e2, _⟩ := endS_v (sqS (S.beginS kd) op m)
  have hs' : (S.beginS kd).skip = 0 := hB.skip.trans hs
  have hd' : (S.beginS kd).dry = false := hB.dry.trans hd
  refine ⟨?_, fun j hj => ?_, fun j hj => ?_, ?_⟩
  · show (sqS (S.beginS kd) op m).endS.L = _
    rw [e2, (sq_regs hs' h1).2, b2]
  · have hj0 := sq_e h1 (j + 1) (by omega)
    have := (do_word hj0 ((sq_ext _ op j).skip.trans hs')).1
    show (sqS (S.beginS kd) op j).doR _ = _
    refine Eq.trans this ?_
    rw [show (sq (S.beginS kd) op j).1 = sqS (S.beginS kd) op j from rfl, (sq_regs hs' (sq_e h1 j (by omega))).2, b2]
  · have := sq_word hs' hd' h1 hj
    rw [b2, b5, b3] at this
    show (sqS (S.beginS kd) op m).endS.v _ = evN _ _ (wordAt (sqS (S.beginS kd) op m).endS.v (sqS (S.beginS kd) op m).endS.L _) (wordAt (sqS (S.beginS kd) op m).endS.v (sqS (S.beginS kd) op m).endS.L _) (wordAt (sqS (S.beginS kd) op m).endS.v (sqS (S.beginS kd) op m).endS.L _) _
    rw [e1, e2]
    exact this
  · exact (beginS_e (sq_e h1 0 (by omega))).1
theorem wordAt_nat {v : Nat → Nat} {L i : Nat} (h : i < L) : wordAt v L ((i : Nat) : Int) = v i := by
  unfold wordAt
  rw [if_pos ⟨by omega, by omega⟩, Int.toNat_natCast]

theorem Blk.xor {S : Ms} {kd : Int} {op : Nat → (Nat → Int) → Op6} {m j : Nat} (B : Blk S kd op m) (hj : j < m) {d a b : Int} (h : op j (exR S.L j) = ⟨5, d, a, b, -1, 0⟩) :
    (blkS S kd op m).v (S.L + j) = wordAt (blkS S kd op m).v (blkS S kd op m).L a ^^^ wordAt (blkS S kd op m).v (blkS S kd op m).L b := by
  have := B.word j hj
  rw [h] at this
  exact this.trans (ev5 _ _ _ _ _)
theorem Blk.rand {S : Ms} {kd : Int} {op : Nat → (Nat → Int) → Op6} {m j : Nat} (B : Blk S kd op m) (hj : j < m) {d : Int} {r : Nat} (h : op j (exR S.L j) = ⟨1, d, -1, -1, -1, 0⟩) (hr : rands op S.L j = r) : (blkS S kd op m).v (S.L + j) = S.tw (S.used + r) := by
  have := B.word j hj
  rw [h] at this
  rw [this, hr, if_pos rfl]
  exact ev1 _ _ _ _ _
theorem Blk.at_ {S : Ms} {kd : Int} {op : Nat → (Nat → Int) → Op6} {m j : Nat} (B : Blk S kd op m) (hj : j < m) : wordAt (blkS S kd op m).v (blkS S kd op m).L ((S.L + j : Nat) : Int) = (blkS S kd op m).v (S.L + j) := by
  unfold wordAt
  rw [if_pos ⟨by omega, by rw [B.L]; omega⟩, Int.toNat_natCast]

/-! ### fresh -/
/-- Three registers. -/
def reg3 (a b c : Int) : Nat → Int := fun i => if i = 0 then a else if i = 1 then b else if i = 2 then c else -1
theorem reg3_0 (a b c : Int) : reg3 a b c 0 = a := if_pos rfl
theorem reg3_1 (a b c : Int) : reg3 a b c 1 = b := (if_neg (by decide)).trans (if_pos rfl)
theorem reg3_2 (a b c : Int) : reg3 a b c 2 = c := (if_neg (by decide)).trans ((if_neg (by decide)).trans (if_pos rfl))
def nat3 (a b c : Nat) : Nat → Nat := fun i => if i = 0 then a else if i = 1 then b else c
theorem nat3_0 (a b c : Nat) : nat3 a b c 0 = a := if_pos rfl
theorem nat3_1 (a b c : Nat) : nat3 a b c 1 = b := (if_neg (by decide)).trans (if_pos rfl)
theorem nat3_2 (a b c : Nat) : nat3 a b c 2 = c := (if_neg (by decide)).trans (if_neg (by decide))
theorem rw1 : opwf ⟨1, -1, -1, -1, -1, 0⟩ := ⟨i64c 1 (by decide) (by decide), I64.m1, I64.m1, I64.m1, I64.m1, by show 0 < _; omega⟩
theorem xw5 {d a b : Int} (hd : 0 ≤ d ∧ d ≤ 1000) (ha : I64 a) (hb : I64 b) : opwf ⟨5, d, a, b, -1, 0⟩ := ⟨i64c 5 (by decide) (by decide), i64c d hd.1 hd.2, ha, hb, I64.m1, by show 0 < _; omega⟩
end Go.Proofs.Ytflfnaiklnbaiaa

/- General: masks drawn into an array, shares covered by masks, two shares a mask: the ops of fresh. No program is named. -/
namespace Go.Proofs.Ytflfnaiklnbaiaa

/-- Is mask k put to share i, of c masks? Each mask is put to all but one of three shares. -/
def tch (c i k : Nat) : Bool := decide (k < c) && decide (i + k ≠ 2)
abbrev rnd6 : Op6 := ⟨1, -1, -1, -1, -1, 0⟩
abbrev xr6 (i : Nat) (r z : Int) : Op6 := ⟨5, (i : Int), r, z, -1, 0⟩
section
variable (dS : Ms → Op6 → Ms) (dR : Ms → Op6 → Int)
def sqG (S : Ms) (op : Nat → (Nat → Int) → Op6) : Nat → Ms × (Nat → Int)
  | 0 => (S, none3)
  | m + 1 => (dS (sqG S op m).1 (op m (sqG S op m).2), updI (sqG S op m).2 m (dR (sqG S op m).1 (op m (sqG S op m).2)))
def sqgR (S : Ms) (op : Nat → (Nat → Int) → Op6) (m : Nat) : Int := dR (sqG dS dR S op m).1 (op m (sqG dS dR S op m).2)
end
/-- At the machine. -/
def dS0 (S : Ms) (o : Op6) : Ms := S.doS o 0
def dR0 (S : Ms) (o : Op6) : Int := S.doR o
theorem sq_G (S : Ms) (op : Nat → (Nat → Int) → Op6) : ∀ m, sqG dS0 dR0 S op m = sq S op m
  | 0 => rfl
  | m + 1 => by
    have ih := sq_G S op m
    unfold sqG sq
    rw [ih]
    rfl
theorem sqr_G (S : Ms) (op : Nat → (Nat → Int) → Op6) (m : Nat) : sqgR dS0 dR0 S op m = sqr S op m := by
  unfold sqgR sqr sqO sqS sqR
  rw [sq_G]
  rfl
/-- Bounds. -/
theorem xr6_wf {i : Nat} {r z : Int} (hi : i ≤ 1000) (hr : I64 r) (hz : I64 z) : opwf (xr6 i r z) := xw5 (by omega) hr hz
theorem zero_wb : Wb (fun _ => 0) := fun _ => i64c 0 (by decide) (by decide)
end Go.Proofs.Ytflfnaiklnbaiaa
