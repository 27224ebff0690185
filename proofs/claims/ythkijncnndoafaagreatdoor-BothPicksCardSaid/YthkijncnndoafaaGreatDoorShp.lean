import Derived.Test.YthkijncnndoafaaGreatDoorWlm
import Derived.Test.YthkijncnndoafaaGreatDoorProg
import Derived.Laws.StructEq
namespace Go.Proofs.YthkijncnndoafaaGreatDoor

theorem sh_bd {S : Ms} (hn : S.n = 2 ∨ S.n = 3) : 2 ≤ S.sh ∧ S.sh ≤ 3 := by unfold Ms.sh; omega
theorem i64k (z : Int) (h : 0 ≤ z) (h2 : z ≤ 1000) : I64 z := i64c z h h2
theorem cstS_bq {k : Nat} {S : Ms} (h : Bq k S) (hn : S.n = 2 ∨ S.n = 3) {K : Int} (hK : I64 K) {c : Nat} (hc : c < 2 ^ 64) : Bq (k + 6) (cstS S K c) :=
 (eaS_bq h 0 S.sh (fun j hj => opCst_wf hK hc (by have := sh_bd hn; omega))).mono (by have := sh_bd hn; omega)
theorem oneS_bq {k : Nat} {S : Ms} (h : Bq k S) (hn : S.n = 2 ∨ S.n = 3) {K : Int} (hK : I64 K) {A : Nat → Int} (hA : Wb A) {c : Nat} (hc : c < 2 ^ 64) : Bq (k + 6) (oneS S K A c) :=
 (eaS_bq h 0 S.sh (fun j hj => opOne_wf hK hA hc (by have := sh_bd hn; omega))).mono (by have := sh_bd hn; omega)
theorem notS_bq {k : Nat} {S : Ms} (h : Bq k S) {A : Nat → Int} (hA : Wb A) : Bq (k + 6) (notS S A) := (h.does (opNot_wf hA) (by decide)).mono (by omega)
open Go.RowKit
set_option maxRecDepth 100000
structure ShI (Pm : World → Nat → Ms → (Nat → Prop) → Prop) : Prop where
 pub : ∀ (b k : Nat) (S : Ms) (F : Nat → Prop) (c : Nat) (w : World), Pm w b S F → Bq k S → k + 10 ≤ 100000 → (S.n = 2 ∨ S.n = 3) → c < 2 ^ 64 → Calls Tryz.prog 11 #[.pointer (some ⟨b, 0, none⟩), .int .u64 (c : Int)] w fun e w' => e = .returned (.agg (wdV (cstR S 3 c))) ∧ PmR Pm b (cstS S 3 c) F w w'
 xor : ∀ (b k : Nat) (S : Ms) (F : Nat → Prop) (A B : Nat → Int) (w : World), Pm w b S F → Bq k S → k + 10 ≤ 100000 → (S.n = 2 ∨ S.n = 3) → Wb A → Wb B → Calls Tryz.prog 60 #[.pointer (some ⟨b, 0, none⟩), .agg (wdV A), .agg (wdV B)] w fun e w' => e = .returned (.agg (wdV (xorR S A B))) ∧ PmR Pm b (xorS S A B) F w w'
 not : ∀ (b k : Nat) (S : Ms) (F : Nat → Prop) (A : Nat → Int) (w : World), Pm w b S F → Bq k S → k + 10 ≤ 100000 → (S.n = 2 ∨ S.n = 3) → Wb A → Calls Tryz.prog 50 #[.pointer (some ⟨b, 0, none⟩), .agg (wdV A)] w fun e w' => e = .returned (.agg (wdV (notR S A))) ∧ PmR Pm b (notS S A) F w w'
 one : ∀ (b k : Nat) (S : Ms) (F : Nat → Prop) (K : Int) (A : Nat → Int) (c : Nat) (w : World), Pm w b S F → Bq k S → k + 10 ≤ 100000 → (S.n = 2 ∨ S.n = 3) → I64 K → Wb A → c < 2 ^ 64 → Calls Tryz.prog 53 #[.pointer (some ⟨b, 0, none⟩), .int .i64 K, .agg (wdV A), .int .u64 (c : Int)] w fun e w' => e = .returned (.agg (wdV (oneR S K A c))) ∧ PmR Pm b (oneS S K A c) F w w'
 value : ∀ (v : Value) (vv : Nat → Nat) (L : Nat) (A : Nat → Int) (w : World), Rd .u64 w v (wdL vv L) → (∀ i, i < L → vv i < 2 ^ 64) → Calls Tryz.prog 25 #[v, .agg (wdV A)] w fun e w' => e = .returned (.int .u64 (vlN vv L A : Nat)) ∧ Below w.heap.size w w'
section
variable {Pm : World → Nat → Ms → (Nat → Prop) → Prop} (hM : Mach Pm) (hS : ShI Pm) {lo : Nat} {X : Nat → Prop} {W w : World} {b bd k : Nat} {S S2 : Ms}
include hM hS
theorem qpub (c : Nat) (h : Bz Pm lo X W w b bd S S2) (hq : Bq k S) (hk : k + 10 ≤ 100000) (hn : S.n = 2 ∨ S.n = 3) (g0 : c < 2 ^ 64) :
  Calls Tryz.prog 11 #[.pointer (some ⟨b, 0, none⟩), .int .u64 (c : Int)] w fun e w' => e = .returned (.agg (wdV (cstR S 3 c))) ∧ Bz Pm lo X W w' b bd (cstS S 3 c) S2 ∧ ∀ k, X k → w'.heap[k]? = w.heap[k]? := by
 obtain ⟨F, G, ov, bv, vv, tv, h1, h2, h3, h4, h5, h6, h7⟩ := h
 exact (hS.pub b k S F c w h1 hq hk hn g0).mono fun e w' hr => ⟨hr.1, Bz.prog hM h1 h2 h3 h4 h5 h6 h7 hr.2⟩
theorem qnot (A : Nat → Int) (h : Bz Pm lo X W w b bd S S2) (hq : Bq k S) (hk : k + 10 ≤ 100000) (hn : S.n = 2 ∨ S.n = 3) (g0 : Wb A) :
  Calls Tryz.prog 50 #[.pointer (some ⟨b, 0, none⟩), .agg (wdV A)] w fun e w' => e = .returned (.agg (wdV (notR S A))) ∧ Bz Pm lo X W w' b bd (notS S A) S2 ∧ ∀ k, X k → w'.heap[k]? = w.heap[k]? := by
 obtain ⟨F, G, ov, bv, vv, tv, h1, h2, h3, h4, h5, h6, h7⟩ := h
 exact (hS.not b k S F A w h1 hq hk hn g0).mono fun e w' hr => ⟨hr.1, Bz.prog hM h1 h2 h3 h4 h5 h6 h7 hr.2⟩
theorem qone (K : Int) (A : Nat → Int) (c : Nat) (h : Bz Pm lo X W w b bd S S2) (hq : Bq k S) (hk : k + 10 ≤ 100000) (hn : S.n = 2 ∨ S.n = 3) (g0 : I64 K) (g1 : Wb A) (g2 : c < 2 ^ 64) :
  Calls Tryz.prog 53 #[.pointer (some ⟨b, 0, none⟩), .int .i64 K, .agg (wdV A), .int .u64 (c : Int)] w fun e w' => e = .returned (.agg (wdV (oneR S K A c))) ∧ Bz Pm lo X W w' b bd (oneS S K A c) S2 ∧ ∀ k, X k → w'.heap[k]? = w.heap[k]? := by
 obtain ⟨F, G, ov, bv, vv, tv, h1, h2, h3, h4, h5, h6, h7⟩ := h
 exact (hS.one b k S F K A c w h1 hq hk hn g0 g1 g2).mono fun e w' hr => ⟨hr.1, Bz.prog hM h1 h2 h3 h4 h5 h6 h7 hr.2⟩
end
theorem fields33 : Tryz.prog.underlying 37 = some (.struct (Tryz.prog.fieldsOf 37)) := by kernel_rfl
theorem run_eqItems_wd (w : World) (d : Nat) (W U : Nat → Int) : ∀ (is : List Nat), (∀ i ∈ is, i < 3) →
  (Op.eqItems (d + 1) 3 1 (wdV W) (wdV U) is).run Tryz.prog w = .ok (decide (∀ i ∈ is, W i = U i)) w
 | [], _ => by simp [Op.eqItems]
 | i :: is, h => by
  have hf := wdV_at W i (h i (by simp))
  have hg := wdV_at U i (h i (by simp))
  have ih := run_eqItems_wd w d W U is (fun j hj => h j (by simp [hj]))
  have p1 : (part 3 (wdV W) (i * 1)).run Tryz.prog w = .ok (.int .i64 (W i)) w := by simp only [Nat.mul_one]; simp [part, hf, run_underlying Tryz.underlying3, isAgg, go_sem]
  have p2 : (part 3 (wdV U) (i * 1)).run Tryz.prog w = .ok (.int .i64 (U i)) w := by simp only [Nat.mul_one]; simp [part, hg, run_underlying Tryz.underlying3, isAgg, go_sem]
  simp only [Op.eqItems, Sem.run_bind, p1, p2, Result.andThen_ok, run_equalIn_int w d 3 .i64 .i64 _ _ Tryz.underlying3]
  by_cases hh : W i = U i
  · simp [hh, ih]
  ·
   have : (W i == U i) = false := by simp [hh]
   simp [this, hh]
theorem eqWd (W U : Nat → Int) (w : World) : (Op.equalIn 10000 37 (.agg (wdV W)) (.agg (wdV U))).run Tryz.prog w = .ok (decide (W 0 = U 0 ∧ W 1 = U 1 ∧ W 2 = U 2)) w := by
 have ha : (Op.equalIn 9999 35 (.agg (wdV W)) (.agg (wdV U))).run Tryz.prog w = .ok (decide (W 0 = U 0 ∧ W 1 = U 1 ∧ W 2 = U 2)) w := by
  obtain ⟨k, hk, h1⟩ : ∃ i, Tryz.prog.info? 3 = some i ∧ i.size = 1 := ⟨_, rfl, rfl⟩
  have hc : Tryz.prog.cellsOf 3 = 1 := by kernel_rfl
  rw [run_equalIn_array w 9998 _ _ Tryz.underlying35 hk, hc, run_eqItems_wd w 9997 W U _ (fun i hi => List.mem_range.1 hi)]
  congr 1
  simp [List.range, List.range.loop]
 rw [run_equalIn_struct w 9999 37 _ _ fields33 (by kernel_rfl)]
 simp only [Program.fieldsOf, Tryz.underlying37]
 generalize decide (W 0 = U 0 ∧ W 1 = U 1 ∧ W 2 = U 2) = q at *
 go_simp
 cases q <;> rfl
open Go.RowKit
set_option maxRecDepth 100000
structure Ow (Pm : World → Nat → Ms → (Nat → Prop) → Prop) (F0 : Nat → Prop) (w0 w : World) (b : Nat) (S : Ms) (bs : List (Nat × Obj)) : Prop where
 ex : ∃ F, Pm w b S F ∧ (∀ k, F k → F0 k ∨ w0.heap.size ≤ k) ∧ ∀ q ∈ bs, ¬ F q.1
 tch : Tch F0 w0 w
 bx : ∀ q ∈ bs, w0.heap.size ≤ q.1 ∧ w.heap[q.1]? = some q.2
 nd : (bs.map (·.1)).Nodup
section
variable {Pm : World → Nat → Ms → (Nat → Prop) → Prop} {F0 : Nat → Prop} {w0 w w' : World} {b : Nat} {S S' : Ms} {bs : List (Nat × Obj)}
theorem Ow.start {F : Nat → Prop} (h : Pm w b S F) : Ow Pm F w w b S [] := ⟨⟨F, h, fun _ q => .inl q, fun q hq => (List.not_mem_nil hq).elim⟩, Tch.refl _ _, fun q hq => (List.not_mem_nil hq).elim, by simp⟩
theorem Ow.lt (h : Ow Pm F0 w0 w b S bs) {q : Nat × Obj} (hq : q ∈ bs) : q.1 < w.heap.size := (Array.getElem?_eq_some_iff.1 (h.bx q hq).2).1
theorem Ow.self (hM : Mach Pm) (h : Ow Pm F0 w0 w b S bs) (hb : Below w.heap.size w w') : Ow Pm F0 w0 w' b S bs := by
 obtain ⟨F, h1, h2, h3⟩ := h.ex
 exact ⟨⟨F, hM.stays h1 hb.size (fun k hk => hb.block k (hM.lt h1 k hk)), h2, h3⟩, h.tch.trans (Tch.of_below (F := F0) hb) (fun _ _ f => f), fun q hq => ⟨(h.bx q hq).1, (hb.block _ (h.lt hq)).trans (h.bx q hq).2⟩, h.nd⟩
theorem Ow.new (hM : Mach Pm) (h : Ow Pm F0 w0 w b S bs) (cs : Array Value) (T : TypeId) : Ow Pm F0 w0 (w.alloc (.cells cs T)) b S ((w.heap.size, .cells cs T (0, 0)) :: bs) := by
 have h' := h.self hM ((Below.refl w.heap.size w).alloc (Nat.le_refl _) (.cells cs T))
 obtain ⟨F, h1, h2, h3⟩ := h.ex
 refine ⟨⟨F, hM.stays h1 (by rw [sz_al]; omega) (fun k hk => Below.heap_alloc w _ k (hM.lt h1 k hk)), h2, fun q hq => ?_⟩, h'.tch, fun q hq => ?_, ?_⟩
 ·
  rcases List.mem_cons.1 hq with rfl | hq
  · exact fun e => by have := hM.lt h1 _ e; omega
  · exact h3 q hq
 ·
  rcases List.mem_cons.1 hq with rfl | hq
  · exact ⟨h.tch.size, heap_alloc_new _ _⟩
  · exact h'.bx q hq
 ·
  rw [List.map_cons, List.nodup_cons]
  refine ⟨fun e => ?_, h.nd⟩
  obtain ⟨q, hq, e⟩ := List.mem_map.1 e
  have := h.lt hq
  have e' : q.1 = w.heap.size := e
  omega
theorem Ow.sub {bs' : List (Nat × Obj)} (h : Ow Pm F0 w0 w b S bs) (hs : ∀ q ∈ bs', q ∈ bs) (hn : (bs'.map (·.1)).Nodup) : Ow Pm F0 w0 w b S bs' := by
 obtain ⟨F, h1, h2, h3⟩ := h.ex
 exact ⟨⟨F, h1, h2, fun q hq => h3 q (hs q hq)⟩, h.tch, fun q hq => h.bx q (hs q hq), hn⟩
theorem Ow.drop {q : Nat × Obj} (h : Ow Pm F0 w0 w b S (q :: bs)) : Ow Pm F0 w0 w b S bs := h.sub (fun _ hz => List.mem_cons_of_mem _ hz) (by have := h.nd; rw [List.map_cons, List.nodup_cons] at this; exact this.2)
theorem Ow.swap {q r : Nat × Obj} (h : Ow Pm F0 w0 w b S (q :: r :: bs)) : Ow Pm F0 w0 w b S (r :: q :: bs) := h.sub (fun z hz => by simp at hz ⊢; rcases hz with e | e | e <;> simp [e]) (by
 have := h.nd
 simp only [List.map_cons, List.nodup_cons, List.mem_cons, not_or] at this ⊢
 exact ⟨⟨fun e => this.1.1 e.symm, this.2.1⟩, this.1.2, this.2.2⟩)
theorem Ow.turn (hM : Mach Pm) {n : Nat} {o o' : Obj} (h : Ow Pm F0 w0 w b S ((n, o) :: bs)) (hn : w'.heap[n]? = some o') (ho : ∀ k, k ≠ n → w'.heap[k]? = w.heap[k]?) (hs : w.heap.size ≤ w'.heap.size) (hos : w'.os = w.os ∧ w'.tape = w.tape ∧ w'.output = w.output) : Ow Pm F0 w0 w' b S ((n, o') :: bs) := by
 have hb := h.bx _ (List.mem_cons_self ..)
 have hnd := h.nd
 rw [List.map_cons, List.nodup_cons] at hnd
 obtain ⟨F, h1, h2, h3⟩ := h.ex
 have hne : ∀ k, F k → k ≠ n := fun k hk e => h3 _ (List.mem_cons_self ..) (by show F n; rw [← e]; exact hk)
 refine ⟨⟨F, hM.stays h1 hs (fun k hk => ho k (hne k hk)), h2, fun q hq => ?_⟩, ?_, fun q hq => ?_, ?_⟩
 ·
  rcases List.mem_cons.1 hq with rfl | hq
  · exact h3 (n, o) (List.mem_cons_self ..)
  · exact h3 q (List.mem_cons_of_mem _ hq)
 ·
  have hn0 : w0.heap.size ≤ n := hb.1
  exact h.tch.trans ⟨hos.1, hos.2.1, hos.2.2, hs, fun k hk hF => ho k (fun e => hF (by show n = k; exact e.symm))⟩ (G := fun k => n = k) (fun j hj e => by have e' : n = j := e; omega)
 ·
  rcases List.mem_cons.1 hq with rfl | hq
  · exact ⟨hb.1, hn⟩
  · exact ⟨(h.bx q (List.mem_cons_of_mem _ hq)).1, (ho q.1 (fun e => hnd.1 (List.mem_map.2 ⟨q, hq, e⟩))).trans (h.bx q (List.mem_cons_of_mem _ hq)).2⟩
 · rw [List.map_cons, List.nodup_cons]; exact hnd
theorem Ow.row (hM : Mach Pm) {n : Nat} {cs : Array Value} {T : TypeId} (h : Ow Pm F0 w0 w b S ((n, .cells cs T (0, 0)) :: bs)) (cs' : Array Value) : Ow Pm F0 w0 (w.setRow n cs') b S ((n, .cells cs' T (0, 0)) :: bs) :=
 h.turn hM (setRow_heap w n cs cs' T _ (h.bx _ (List.mem_cons_self ..)).2) (fun k hk => setRow_other w n k cs' hk) (by simp [World.setRow]) ⟨rfl, rfl, rfl⟩
theorem Ow.cell (hM : Mach Pm) {n : Nat} {cs : Array Value} {T : TypeId} (h : Ow Pm F0 w0 w b S ((n, .cells cs T (0, 0)) :: bs)) (i : Nat) (v : Value) : Ow Pm F0 w0 (w.setCell ⟨n, i, none⟩ v) b S ((n, .cells (cs.setIfInBounds i v) T (0, 0)) :: bs) :=
 h.turn hM (heap_setCell_same w n i cs T v (h.bx _ (List.mem_cons_self ..)).2) (fun k hk => heap_setCell_other w ⟨n, i, none⟩ k v hk) (by simp [World.setCell]) ⟨rfl, rfl, rfl⟩
theorem Ow.bl (h : Ow Pm F0 w0 w b S bs) (i : Nat) {n : Nat} {u : Obj} (hi : bs[i]? = some (n, u)) : w.heap[n]? = some u := (h.bx (n, u) (List.mem_of_getElem? hi)).2
theorem Ow.lift (_ : Mach Pm) (h : Ow Pm F0 w0 w b S bs) {f : FuncId} {args : Array Value} {E : Ending → Prop} (hc : ∀ F, Pm w b S F → Calls Tryz.prog f args w fun e w' => E e ∧ PmR Pm b S' F w w') : Calls Tryz.prog f args w fun e w' => E e ∧ Ow Pm F0 w0 w' b S' bs := by
 obtain ⟨F, h1, h2, h3⟩ := h.ex
 refine (hc F h1).mono fun e w' hr => ⟨hr.1, ?_⟩
 obtain ⟨F', g1, g2, g3⟩ := hr.2
 refine ⟨⟨F', g1, fun k hk => ?_, fun q hq e => ?_⟩, h.tch.trans g2 (fun j hj f => (h2 j f).resolve_right (by omega)), fun q hq => ⟨(h.bx q hq).1, (g2.block q.1 (h.lt hq) (h3 q hq)).trans (h.bx q hq).2⟩, h.nd⟩
 ·
  rcases g3 k hk with f | f
  · exact h2 k f
  · exact .inr (Nat.le_trans h.tch.size f)
 ·
  rcases g3 _ e with f | f
  · exact h3 q hq f
  · have := h.lt hq; omega
theorem Ow.fin (h : Ow Pm F0 w0 w b S bs) : PmR Pm b S F0 w0 w := by
 obtain ⟨F, h1, h2, _⟩ := h.ex
 exact ⟨F, h1, h.tch, h2⟩
theorem Ow.asks (h : Ow Pm F0 w0 w b S bs) {f : FuncId} {args : Array Value} {E : Ending → World → Prop} (hc : ∀ F, Pm w b S F → Calls Tryz.prog f args w E) : Calls Tryz.prog f args w E := by
 obtain ⟨F, h1, _, _⟩ := h.ex
 exact hc F h1
end
open Go.RowKit
set_option maxRecDepth 100000
theorem built_wd (A : Nat → Int) : Tryz.prog.built 37 [(0, .agg (wdV A))] = some (wdV A) := by kernel_rfl
theorem step_build_wd (A : Nat → Int) {w : World} {ops : Array Oper} {rest : List Oper} {o : Oper} {a : Act} {Q : Exit → Act → World → Prop} (hgd : o.guard = none) (x : Operand) (ho : o.op = .build 37 #[(0, x)])
  (hx : a.eval x = .agg (wdV A)) (k : wpList Tryz.prog ops Q rest (a.put o.dst (.agg (wdV A))) w) : wpList Tryz.prog ops Q (o :: rest) a w := by
 have e : ((#[(0, x)] : Array (Nat × Operand)).map fun (i, x) => (i, a.eval x)).toList = [(0, .agg (wdV A))] := by simp [hx]
 refine wpList_build hgd 37 #[(0, x)] ho (by rw [e, built_wd]; rfl) ?_
 rw [e, built_wd]; exact k
set_option maxHeartbeats 3200000 in
theorem each_alone {Pm : World → Nat → Ms → (Nat → Prop) → Prop} (hM : Mach Pm) {F0 : Nat → Prop} {w0 w : World} {b : Nat} {bs : List (Nat × Obj)} (p1 p2 p3 n N : Nat) (St : Nat → Ms) (U : Nat → Nat → Int) (rg : Nat → Int) (h : Ow Pm F0 w0 w b (St 0) bs) (hn3 : n ≤ 3) (hq : Bq N (St 0)) (hk : N ≤ 1000000) (hn : (St 0).n = (n : Int))
  (hU0 : U 0 = none3) (hU : ∀ j, j < n → U (j + 1) = updI (U j) j (rg j))
  (HC : ∀ (j : Nat) (bs' : List (Nat × Obj)) (w' : World), j < n → (∀ q ∈ bs, q ∈ bs') → Ow Pm F0 w0 w' b (St j) bs' → Calls Tryz.prog 65 #[.int .i64 (j : Int), .pointer (some ⟨p1, 0, none⟩), .pointer (some ⟨p2, 0, none⟩), .pointer (some ⟨p3, 0, none⟩)] w' fun e w2 => e = .returned (.int .i64 (rg j)) ∧ Ow Pm F0 w0 w2 b (St (j + 1)) bs') :
  Calls Tryz.prog 64 #[.pointer (some ⟨b, 0, none⟩), .func (.func 65) #[] #[.pointer (some ⟨p1, 0, none⟩), .pointer (some ⟨p2, 0, none⟩), .pointer (some ⟨p3, 0, none⟩)]] w fun e w' => e = .returned (.agg (wdV (U n))) ∧ Ow Pm F0 w0 w' b (St n) bs := by
 have HNB : Hid (∀ (bs' : List (Nat × Obj)) (w' : World), Ow Pm F0 w0 w' b (St 0) bs' → Calls Tryz.prog 76 #[.pointer (some ⟨b, 0, none⟩)] w' fun e w2 => e = .returned (.int .i64 (n : Int)) ∧ Below w'.heap.size w' w2) := hid (fun bs' w' h' => h'.asks (fun F hF => by have := hM.n b N (St 0) F w' hF hq hk; rw [hn] at this; exact this))
 have HC' := hid HC
 have HN3 : Hid (n ≤ 3) := hid hn3
 have HU := hid hU
 have HU0 := hid hU0
 have H0 := hid (h.new hM #[.int .i64 0, .int .i64 0, .int .i64 0] 37)
 obtain ⟨w1, hw1⟩ : ∃ w1, w.alloc (.cells #[.int .i64 0, .int .i64 0, .int .i64 0] 37) = w1 := ⟨_, rfl⟩
 rw [hw1] at H0
 have HW := hid hw1
 clear h hq hk hn HC hw1 hU hU0 hn3
 obtain ⟨g4, hg4⟩ : ∃ g4, w.heap.size = g4 := ⟨_, rfl⟩
 rw [hg4] at H0
 have HG4 := hid hg4
 clear hg4
 go_enter Tryz.func64, Tryz.ntmps64
 go_upto_region 1 with fail
 rw [HW.out, HG4.out]
 go_upto_region 2 with fail
 have H2 := hid (H0.out.new hM (wdV none3) 35)
 obtain ⟨g5, hg5⟩ : ∃ g5, w1.heap.size = g5 := ⟨_, rfl⟩
 rw [hg5] at H2
 have H3 : Hid (Ow Pm F0 w0 (w1.alloc (.cells #[.int .i64 (-1), .int .i64 (-1), .int .i64 (-1)] 35)) b (St 0) ((g5, .cells (wdV none3) 35 (0, 0)) :: (g4, .cells #[.int .i64 0, .int .i64 0, .int .i64 0] 37 (0, 0)) :: bs)) := H2
 generalize w1.alloc (.cells #[.int .i64 (-1), .int .i64 (-1), .int .i64 (-1)] 35) = w3 at *
 rw [hg5]
 clear hg5 H2 H0
 rw [← HU0.out] at H3
 go_wp2_with (go_at_call 76; (with_reducible refine (HNB.out _ _ H3.out).mono ?_); rintro e w4 ⟨rfl, hb⟩; have H4 := hid (H3.out.self hM hb); clear hb)
 go_loopw [10] (fun iv wr => ∃ j : Nat, j ≤ n ∧ iv = .int .i64 j ∧ Ow Pm F0 w0 wr b (St j) ((g5, .cells (wdV (U j)) 35 (0, 0)) :: (g4, .cells #[.int .i64 0, .int .i64 0, .int .i64 0] 37 (0, 0)) :: bs)) (fun iv _ => n - (intOf iv).toNat)
 case atStart => exact ⟨0, by omega, rfl, H4.out⟩
 case round =>
  clear H3 H4
  obtain ⟨j, hj, rfl, hI⟩ := hrel
  have HI := hid hI
  clear hI
  have hn3 := HN3.out
  by_cases hlt : j < n
  ·
   have j1 : (j : Int) < (n : Int) := by omega
   have j0 : (0 : Int) ≤ (j : Int) := by omega
   have j3 : (j : Int) < 3 := by omega
   have HJ3 : Hid (j < 3) := hid (by omega)
   have HCJ : Hid (∀ w', Ow Pm F0 w0 w' b (St j) ((g5, .cells (wdV (U j)) 35 (0, 0)) :: (g4, .cells #[.int .i64 0, .int .i64 0, .int .i64 0] 37 (0, 0)) :: bs) → Calls Tryz.prog 65 #[.int .i64 (j : Int), .pointer (some ⟨p1, 0, none⟩), .pointer (some ⟨p2, 0, none⟩), .pointer (some ⟨p3, 0, none⟩)] w' fun e w2 => e = .returned (.int .i64 (rg j)) ∧ Ow Pm F0 w0 w2 b (St (j + 1)) ((g5, .cells (wdV (U j)) 35 (0, 0)) :: (g4, .cells #[.int .i64 0, .int .i64 0, .int .i64 0] 37 (0, 0)) :: bs)) := hid (fun w' h' => HC'.out j _ w' hlt (fun q hq => by simp [hq]) h')
   have HER : Hid ((wdV (U j)).setIfInBounds j (.int .i64 (rg j)) = wdV (U (j + 1))) := hid (by rw [wdV_upd _ j _ (by omega), HU.out j hlt])
   go_wp2_with (go_at_call 65; (with_reducible refine (HCJ.out _ HI.out).mono ?_); rintro e w6 ⟨rfl, h6⟩; have H6 := hid h6; have cj := row_c (i := j) (H6.out.bl 0 rfl) (wdV_at (U j) j HJ3.out); have fj := frozen_of_row w6 g5 j _ _ (H6.out.bl 0 rfl); clear h6)
   have H7 := hid (H6.out.cell hM j (.int .i64 (rg j)))
   rw [HER.out] at H7
   go_roundw
   case rel => exact ⟨j + 1, by omega, by go_num, H7.out⟩
   case measure => simp [intOf]; omega
  ·
   obtain rfl : j = n := by omega
   clear hlt
   go_wp2_with (first
    | (refine step_load_row rfl 35 _ rfl g5 35 (wdV (U j)) _ rfl (HI.out.bl 0 rfl) Tryz.underlying35 rfl (by kernel_rfl) ?_)
    | (refine step_build_wd (U j) rfl _ rfl rfl ?_)
    | (refine step_store_row rfl 37 _ _ rfl g4 37 _ (wdV (U j)) rfl rfl (HI.out.bl 1 rfl) (by kernel_rfl) rfl (by kernel_rfl) ?_))
   have H8 := hid (HI.out.swap.row hM (wdV (U j)))
   exact bodyPost_ret (results_cell_row (by rfl) _ _ g4 37 (wdV (U j)) (0, 0) _ rfl (H8.out.bl 0 rfl) Tryz.underlying37 rfl (by kernel_rfl)) rfl ⟨rfl, H8.out.drop.drop⟩
set_option maxHeartbeats 3200000 in
theorem each_xor {Pm : World → Nat → Ms → (Nat → Prop) → Prop} (hM : Mach Pm) {F0 : Nat → Prop} {w0 w : World} {b : Nat} {bs : List (Nat × Obj)} (p1 p2 p3 n N : Nat) (St : Nat → Ms) (U : Nat → Nat → Int) (rg : Nat → Int) (h : Ow Pm F0 w0 w b (St 0) bs) (hn3 : n ≤ 3) (hq : Bq N (St 0)) (hk : N ≤ 1000000) (hn : (St 0).n = (n : Int))
  (hU0 : U 0 = none3) (hU : ∀ j, j < n → U (j + 1) = updI (U j) j (rg j))
  (HC : ∀ (j : Nat) (bs' : List (Nat × Obj)) (w' : World), j < n → (∀ q ∈ bs, q ∈ bs') → Ow Pm F0 w0 w' b (St j) bs' → Calls Tryz.prog 84 #[.int .i64 (j : Int), .pointer (some ⟨p1, 0, none⟩), .pointer (some ⟨p2, 0, none⟩), .pointer (some ⟨p3, 0, none⟩)] w' fun e w2 => e = .returned (.int .i64 (rg j)) ∧ Ow Pm F0 w0 w2 b (St (j + 1)) bs') :
  Calls Tryz.prog 64 #[.pointer (some ⟨b, 0, none⟩), .func (.func 84) #[] #[.pointer (some ⟨p1, 0, none⟩), .pointer (some ⟨p2, 0, none⟩), .pointer (some ⟨p3, 0, none⟩)]] w fun e w' => e = .returned (.agg (wdV (U n))) ∧ Ow Pm F0 w0 w' b (St n) bs := by
 have HNB : Hid (∀ (bs' : List (Nat × Obj)) (w' : World), Ow Pm F0 w0 w' b (St 0) bs' → Calls Tryz.prog 76 #[.pointer (some ⟨b, 0, none⟩)] w' fun e w2 => e = .returned (.int .i64 (n : Int)) ∧ Below w'.heap.size w' w2) := hid (fun bs' w' h' => h'.asks (fun F hF => by have := hM.n b N (St 0) F w' hF hq hk; rw [hn] at this; exact this))
 have HC' := hid HC
 have HN3 : Hid (n ≤ 3) := hid hn3
 have HU := hid hU
 have HU0 := hid hU0
 have H0 := hid (h.new hM #[.int .i64 0, .int .i64 0, .int .i64 0] 37)
 obtain ⟨w1, hw1⟩ : ∃ w1, w.alloc (.cells #[.int .i64 0, .int .i64 0, .int .i64 0] 37) = w1 := ⟨_, rfl⟩
 rw [hw1] at H0
 have HW := hid hw1
 clear h hq hk hn HC hw1 hU hU0 hn3
 obtain ⟨g4, hg4⟩ : ∃ g4, w.heap.size = g4 := ⟨_, rfl⟩
 rw [hg4] at H0
 have HG4 := hid hg4
 clear hg4
 go_enter Tryz.func64, Tryz.ntmps64
 go_upto_region 1 with fail
 rw [HW.out, HG4.out]
 go_upto_region 2 with fail
 have H2 := hid (H0.out.new hM (wdV none3) 35)
 obtain ⟨g5, hg5⟩ : ∃ g5, w1.heap.size = g5 := ⟨_, rfl⟩
 rw [hg5] at H2
 have H3 : Hid (Ow Pm F0 w0 (w1.alloc (.cells #[.int .i64 (-1), .int .i64 (-1), .int .i64 (-1)] 35)) b (St 0) ((g5, .cells (wdV none3) 35 (0, 0)) :: (g4, .cells #[.int .i64 0, .int .i64 0, .int .i64 0] 37 (0, 0)) :: bs)) := H2
 generalize w1.alloc (.cells #[.int .i64 (-1), .int .i64 (-1), .int .i64 (-1)] 35) = w3 at *
 rw [hg5]
 clear hg5 H2 H0
 rw [← HU0.out] at H3
 go_wp2_with (go_at_call 76; (with_reducible refine (HNB.out _ _ H3.out).mono ?_); rintro e w4 ⟨rfl, hb⟩; have H4 := hid (H3.out.self hM hb); clear hb)
 go_loopw [10] (fun iv wr => ∃ j : Nat, j ≤ n ∧ iv = .int .i64 j ∧ Ow Pm F0 w0 wr b (St j) ((g5, .cells (wdV (U j)) 35 (0, 0)) :: (g4, .cells #[.int .i64 0, .int .i64 0, .int .i64 0] 37 (0, 0)) :: bs)) (fun iv _ => n - (intOf iv).toNat)
 case atStart => exact ⟨0, by omega, rfl, H4.out⟩
 case round =>
  clear H3 H4
  obtain ⟨j, hj, rfl, hI⟩ := hrel
  have HI := hid hI
  clear hI
  have hn3 := HN3.out
  by_cases hlt : j < n
  ·
   have j1 : (j : Int) < (n : Int) := by omega
   have j0 : (0 : Int) ≤ (j : Int) := by omega
   have j3 : (j : Int) < 3 := by omega
   have HJ3 : Hid (j < 3) := hid (by omega)
   have HCJ : Hid (∀ w', Ow Pm F0 w0 w' b (St j) ((g5, .cells (wdV (U j)) 35 (0, 0)) :: (g4, .cells #[.int .i64 0, .int .i64 0, .int .i64 0] 37 (0, 0)) :: bs) → Calls Tryz.prog 84 #[.int .i64 (j : Int), .pointer (some ⟨p1, 0, none⟩), .pointer (some ⟨p2, 0, none⟩), .pointer (some ⟨p3, 0, none⟩)] w' fun e w2 => e = .returned (.int .i64 (rg j)) ∧ Ow Pm F0 w0 w2 b (St (j + 1)) ((g5, .cells (wdV (U j)) 35 (0, 0)) :: (g4, .cells #[.int .i64 0, .int .i64 0, .int .i64 0] 37 (0, 0)) :: bs)) := hid (fun w' h' => HC'.out j _ w' hlt (fun q hq => by simp [hq]) h')
   have HER : Hid ((wdV (U j)).setIfInBounds j (.int .i64 (rg j)) = wdV (U (j + 1))) := hid (by rw [wdV_upd _ j _ (by omega), HU.out j hlt])
   go_wp2_with (go_at_call 84; (with_reducible refine (HCJ.out _ HI.out).mono ?_); rintro e w6 ⟨rfl, h6⟩; have H6 := hid h6; have cj := row_c (i := j) (H6.out.bl 0 rfl) (wdV_at (U j) j HJ3.out); have fj := frozen_of_row w6 g5 j _ _ (H6.out.bl 0 rfl); clear h6)
   have H7 := hid (H6.out.cell hM j (.int .i64 (rg j)))
   rw [HER.out] at H7
   go_roundw
   case rel => exact ⟨j + 1, by omega, by go_num, H7.out⟩
   case measure => simp [intOf]; omega
  ·
   obtain rfl : j = n := by omega
   clear hlt
   go_wp2_with (first
    | (refine step_load_row rfl 35 _ rfl g5 35 (wdV (U j)) _ rfl (HI.out.bl 0 rfl) Tryz.underlying35 rfl (by kernel_rfl) ?_)
    | (refine step_build_wd (U j) rfl _ rfl rfl ?_)
    | (refine step_store_row rfl 37 _ _ rfl g4 37 _ (wdV (U j)) rfl rfl (HI.out.bl 1 rfl) (by kernel_rfl) rfl (by kernel_rfl) ?_))
   have H8 := hid (HI.out.swap.row hM (wdV (U j)))
   exact bodyPost_ret (results_cell_row (by rfl) _ _ g4 37 (wdV (U j)) (0, 0) _ rfl (H8.out.bl 0 rfl) Tryz.underlying37 rfl (by kernel_rfl)) rfl ⟨rfl, H8.out.drop.drop⟩
set_option maxHeartbeats 3200000 in
theorem each_one {Pm : World → Nat → Ms → (Nat → Prop) → Prop} (hM : Mach Pm) {F0 : Nat → Prop} {w0 w : World} {b : Nat} {bs : List (Nat × Obj)} (p1 p2 p3 p4 n N : Nat) (St : Nat → Ms) (U : Nat → Nat → Int) (rg : Nat → Int) (h : Ow Pm F0 w0 w b (St 0) bs) (hn3 : n ≤ 3) (hq : Bq N (St 0)) (hk : N ≤ 1000000) (hn : (St 0).n = (n : Int))
  (hU0 : U 0 = none3) (hU : ∀ j, j < n → U (j + 1) = updI (U j) j (rg j))
  (HC : ∀ (j : Nat) (bs' : List (Nat × Obj)) (w' : World), j < n → (∀ q ∈ bs, q ∈ bs') → Ow Pm F0 w0 w' b (St j) bs' → Calls Tryz.prog 80 #[.int .i64 (j : Int), .pointer (some ⟨p1, 0, none⟩), .pointer (some ⟨p2, 0, none⟩), .pointer (some ⟨p3, 0, none⟩), .pointer (some ⟨p4, 0, none⟩)] w' fun e w2 => e = .returned (.int .i64 (rg j)) ∧ Ow Pm F0 w0 w2 b (St (j + 1)) bs') :
  Calls Tryz.prog 64 #[.pointer (some ⟨b, 0, none⟩), .func (.func 80) #[] #[.pointer (some ⟨p1, 0, none⟩), .pointer (some ⟨p2, 0, none⟩), .pointer (some ⟨p3, 0, none⟩), .pointer (some ⟨p4, 0, none⟩)]] w fun e w' => e = .returned (.agg (wdV (U n))) ∧ Ow Pm F0 w0 w' b (St n) bs := by
 have HNB : Hid (∀ (bs' : List (Nat × Obj)) (w' : World), Ow Pm F0 w0 w' b (St 0) bs' → Calls Tryz.prog 76 #[.pointer (some ⟨b, 0, none⟩)] w' fun e w2 => e = .returned (.int .i64 (n : Int)) ∧ Below w'.heap.size w' w2) := hid (fun bs' w' h' => h'.asks (fun F hF => by have := hM.n b N (St 0) F w' hF hq hk; rw [hn] at this; exact this))
 have HC' := hid HC
 have HN3 : Hid (n ≤ 3) := hid hn3
 have HU := hid hU
 have HU0 := hid hU0
 have H0 := hid (h.new hM #[.int .i64 0, .int .i64 0, .int .i64 0] 37)
 obtain ⟨w1, hw1⟩ : ∃ w1, w.alloc (.cells #[.int .i64 0, .int .i64 0, .int .i64 0] 37) = w1 := ⟨_, rfl⟩
 rw [hw1] at H0
 have HW := hid hw1
 clear h hq hk hn HC hw1 hU hU0 hn3
 obtain ⟨g4, hg4⟩ : ∃ g4, w.heap.size = g4 := ⟨_, rfl⟩
 rw [hg4] at H0
 have HG4 := hid hg4
 clear hg4
 go_enter Tryz.func64, Tryz.ntmps64
 go_upto_region 1 with fail
 rw [HW.out, HG4.out]
 go_upto_region 2 with fail
 have H2 := hid (H0.out.new hM (wdV none3) 35)
 obtain ⟨g5, hg5⟩ : ∃ g5, w1.heap.size = g5 := ⟨_, rfl⟩
 rw [hg5] at H2
 have H3 : Hid (Ow Pm F0 w0 (w1.alloc (.cells #[.int .i64 (-1), .int .i64 (-1), .int .i64 (-1)] 35)) b (St 0) ((g5, .cells (wdV none3) 35 (0, 0)) :: (g4, .cells #[.int .i64 0, .int .i64 0, .int .i64 0] 37 (0, 0)) :: bs)) := H2
 generalize w1.alloc (.cells #[.int .i64 (-1), .int .i64 (-1), .int .i64 (-1)] 35) = w3 at *
 rw [hg5]
 clear hg5 H2 H0
 rw [← HU0.out] at H3
 go_wp2_with (go_at_call 76; (with_reducible refine (HNB.out _ _ H3.out).mono ?_); rintro e w4 ⟨rfl, hb⟩; have H4 := hid (H3.out.self hM hb); clear hb)
 go_loopw [10] (fun iv wr => ∃ j : Nat, j ≤ n ∧ iv = .int .i64 j ∧ Ow Pm F0 w0 wr b (St j) ((g5, .cells (wdV (U j)) 35 (0, 0)) :: (g4, .cells #[.int .i64 0, .int .i64 0, .int .i64 0] 37 (0, 0)) :: bs)) (fun iv _ => n - (intOf iv).toNat)
 case atStart => exact ⟨0, by omega, rfl, H4.out⟩
 case round =>
  clear H3 H4
  obtain ⟨j, hj, rfl, hI⟩ := hrel
  have HI := hid hI
  clear hI
  have hn3 := HN3.out
  by_cases hlt : j < n
  ·
   have j1 : (j : Int) < (n : Int) := by omega
   have j0 : (0 : Int) ≤ (j : Int) := by omega
   have j3 : (j : Int) < 3 := by omega
   have HJ3 : Hid (j < 3) := hid (by omega)
   have HCJ : Hid (∀ w', Ow Pm F0 w0 w' b (St j) ((g5, .cells (wdV (U j)) 35 (0, 0)) :: (g4, .cells #[.int .i64 0, .int .i64 0, .int .i64 0] 37 (0, 0)) :: bs) → Calls Tryz.prog 80 #[.int .i64 (j : Int), .pointer (some ⟨p1, 0, none⟩), .pointer (some ⟨p2, 0, none⟩), .pointer (some ⟨p3, 0, none⟩), .pointer (some ⟨p4, 0, none⟩)] w' fun e w2 => e = .returned (.int .i64 (rg j)) ∧ Ow Pm F0 w0 w2 b (St (j + 1)) ((g5, .cells (wdV (U j)) 35 (0, 0)) :: (g4, .cells #[.int .i64 0, .int .i64 0, .int .i64 0] 37 (0, 0)) :: bs)) := hid (fun w' h' => HC'.out j _ w' hlt (fun q hq => by simp [hq]) h')
   have HER : Hid ((wdV (U j)).setIfInBounds j (.int .i64 (rg j)) = wdV (U (j + 1))) := hid (by rw [wdV_upd _ j _ (by omega), HU.out j hlt])
   go_wp2_with (go_at_call 80; (with_reducible refine (HCJ.out _ HI.out).mono ?_); rintro e w6 ⟨rfl, h6⟩; have H6 := hid h6; have cj := row_c (i := j) (H6.out.bl 0 rfl) (wdV_at (U j) j HJ3.out); have fj := frozen_of_row w6 g5 j _ _ (H6.out.bl 0 rfl); clear h6)
   have H7 := hid (H6.out.cell hM j (.int .i64 (rg j)))
   rw [HER.out] at H7
   go_roundw
   case rel => exact ⟨j + 1, by omega, by go_num, H7.out⟩
   case measure => simp [intOf]; omega
  ·
   obtain rfl : j = n := by omega
   clear hlt
   go_wp2_with (first
    | (refine step_load_row rfl 35 _ rfl g5 35 (wdV (U j)) _ rfl (HI.out.bl 0 rfl) Tryz.underlying35 rfl (by kernel_rfl) ?_)
    | (refine step_build_wd (U j) rfl _ rfl rfl ?_)
    | (refine step_store_row rfl 37 _ _ rfl g4 37 _ (wdV (U j)) rfl rfl (HI.out.bl 1 rfl) (by kernel_rfl) rfl (by kernel_rfl) ?_))
   have H8 := hid (HI.out.swap.row hM (wdV (U j)))
   exact bodyPost_ret (results_cell_row (by rfl) _ _ g4 37 (wdV (U j)) (0, 0) _ rfl (H8.out.bl 0 rfl) Tryz.underlying37 rfl (by kernel_rfl)) rfl ⟨rfl, H8.out.drop.drop⟩

def sq (S : Ms) (op : Nat → (Nat → Int) → Op6) : Nat → Ms × (Nat → Int)
 | 0 => (S, none3)
 | m + 1 => ((sq S op m).1.doS (op m (sq S op m).2) 0, updI (sq S op m).2 m ((sq S op m).1.doR (op m (sq S op m).2)))
def sqS (S : Ms) (op : Nat → (Nat → Int) → Op6) (m : Nat) : Ms := (sq S op m).1
def sqR (S : Ms) (op : Nat → (Nat → Int) → Op6) (m : Nat) : Nat → Int := (sq S op m).2
def sqO (S : Ms) (op : Nat → (Nat → Int) → Op6) (m : Nat) : Op6 := op m (sqR S op m)
def sqr (S : Ms) (op : Nat → (Nat → Int) → Op6) (m : Nat) : Int := (sqS S op m).doR (sqO S op m)
theorem sqS_next (S : Ms) (op : Nat → (Nat → Int) → Op6) (m : Nat) : sqS S op (m + 1) = (sqS S op m).doS (sqO S op m) 0 := rfl
theorem sqR_next (S : Ms) (op : Nat → (Nat → Int) → Op6) (m : Nat) : sqR S op (m + 1) = updI (sqR S op m) m (sqr S op m) := rfl
theorem sqR_at (S : Ms) (op : Nat → (Nat → Int) → Op6) {j : Nat} : ∀ {m}, j < m → sqR S op m j = sqr S op j
 | m + 1, h => by
  rw [sqR_next]
  by_cases e : j = m
  · subst e; exact updI_at _ _ _
  · rw [updI_no _ _ e]; exact sqR_at S op (by omega)
theorem sq_more (S : Ms) (op : Nat → (Nat → Int) → Op6) (m : Nat) : ∀ d, Ext (sqS S op m) (sqS S op (m + d))
 | 0 => Ext.refl _
 | d + 1 => (sq_more S op m d).trans (by rw [show m + (d + 1) = (m + d) + 1 from rfl, sqS_next]; exact doS_ext _ _ _)
theorem sq_ext (S : Ms) (op : Nat → (Nat → Int) → Op6) (m : Nat) : Ext S (sqS S op m) := by
 have := sq_more S op 0 m
 rw [Nat.zero_add] at this
 exact this
theorem sq_tw (S : Ms) (op : Nat → (Nat → Int) → Op6) : ∀ m, (sqS S op m).tw = S.tw
 | 0 => rfl
 | m + 1 => by rw [sqS_next, doS_tw]; exact sq_tw S op m
theorem sq_bq {k : Nat} {S : Ms} (h : Bq k S) {op : Nat → (Nat → Int) → Op6} : ∀ {m}, (∀ j, j < m → ∀ r, Wb r → opwf (op j r)) → k + m ≤ 1000000 → Bq (k + m) (sqS S op m) ∧ Wb (sqR S op m)
 | 0, _, _ => ⟨h, none3_wb⟩
 | m + 1, ho, hk => by
  obtain ⟨h1, h2⟩ := sq_bq h (op := op) (m := m) (fun j hj => ho j (by omega)) (by omega)
  exact ⟨h1.does (ho m (by omega) _ h2) (by decide), h2.upd (doR_bd h1 (by omega) _)⟩
theorem sq_e {S : Ms} {op : Nat → (Nat → Int) → Op6} : ∀ {m}, (sqS S op m).e = 0 → ∀ j, j ≤ m → (sqS S op j).e = 0
 | 0, h, j, hj => by
   obtain rfl : j = 0 := by omega
   exact h
 | m + 1, h, j, hj => by
  by_cases e : j = m + 1
  · subst e; exact h
  · exact sq_e (do_ok h).1 j (by omega)
def exR (L m : Nat) : Nat → Int := fun i => if i < m then ((L + i : Nat) : Int) else -1
theorem exR_at {L m i : Nat} (h : i < m) : exR L m i = ((L + i : Nat) : Int) := if_pos h
theorem sq_regs {S : Ms} {op : Nat → (Nat → Int) → Op6} (hs : S.skip = 0) : ∀ {m}, (sqS S op m).e = 0 → sqR S op m = exR S.L m ∧ (sqS S op m).L = S.L + m
 | 0, _ => ⟨rfl, rfl⟩
 | m + 1, h => by
  obtain ⟨h1, h2⟩ := sq_regs (op := op) hs (do_ok h).1
  obtain ⟨w1, w2, _⟩ := do_word h ((sq_ext S op m).skip.trans hs)
  have w2' : (sqS S op (m + 1)).L = (sqS S op m).L + 1 := w2
  refine ⟨?_, by rw [w2', h2]; omega⟩
  funext i
  rw [sqR_next]
  have w1' : sqr S op m = ((S.L + m : Nat) : Int) := by rw [← h2]; exact w1
  by_cases e : i = m
  · subst e; rw [updI_at, exR_at (by omega), w1']
  ·
   rw [updI_no _ _ e, h1]
   unfold exR
   by_cases q : i < m
   · rw [if_pos q, if_pos (by omega)]
   · rw [if_neg q, if_neg (by omega)]
def rands (op : Nat → (Nat → Int) → Op6) (L : Nat) : Nat → Nat
 | 0 => 0
 | m + 1 => rands op L m + (if (op m (exR L m)).K = 1 then 1 else 0)
theorem sq_used {S : Ms} {op : Nat → (Nat → Int) → Op6} (hs : S.skip = 0) (hd : S.dry = false) : ∀ {m}, (sqS S op m).e = 0 → (sqS S op m).used = S.used + rands op S.L m
 | 0, _ => rfl
 | m + 1, h => by
  have h0 := (do_ok h).1
  have h1 := sq_used (op := op) hs hd h0
  have h2 : (sqS S op m).doS (sqO S op m) 0 = (sqS S op m).put (sqO S op m) 0 := (do_ok h).2.1
  have hdd : (sqS S op m).dry = false := (sq_ext S op m).dry.trans hd
  rw [sqS_next, h2]
  show (if (sqO S op m).K = 1 ∧ (sqS S op m).dry = false then (sqS S op m).used + 1 else (sqS S op m).used) = S.used + (rands op S.L m + _)
  have ho : sqO S op m = op m (exR S.L m) := by unfold sqO; rw [(sq_regs hs h0).1]
  rw [ho, h1]
  by_cases e : (op m (exR S.L m)).K = 1
  · rw [if_pos ⟨e, hdd⟩, if_pos e]; omega
  · rw [if_neg (fun q => e q.1), if_neg e]; omega
theorem sq_word {S : Ms} {op : Nat → (Nat → Int) → Op6} {m j : Nat} (hs : S.skip = 0) (hd : S.dry = false) (h : (sqS S op m).e = 0) (hj : j < m) :
  (sqS S op m).v (S.L + j) = evN (op j (exR S.L j)).K (op j (exR S.L j)).C (wordAt (sqS S op m).v (sqS S op m).L (op j (exR S.L j)).A) (wordAt (sqS S op m).v (sqS S op m).L (op j (exR S.L j)).B) (wordAt (sqS S op m).v (sqS S op m).L (op j (exR S.L j)).E) (if (op j (exR S.L j)).K = 1 then S.tw (S.used + rands op S.L j) else 0) := by
 have hj1 : (sqS S op (j + 1)).e = 0 := sq_e h _ (by omega)
 have hj0 : (sqS S op j).e = 0 := sq_e h _ (by omega)
 have hsj : (sqS S op j).skip = 0 := (sq_ext S op j).skip.trans hs
 have hdj : (sqS S op j).dry = false := (sq_ext S op j).dry.trans hd
 obtain ⟨h1, h2⟩ := sq_regs hs hj0
 have ho : sqO S op j = op j (exR S.L j) := by unfold sqO; rw [h1]
 have hM := sq_more S op (j + 1) (m - (j + 1))
 rw [show j + 1 + (m - (j + 1)) = m by omega] at hM
 have hM0 := sq_more S op j (m - j)
 rw [show j + (m - j) = m by omega] at hM0
 have hL1 : (sqS S op (j + 1)).L = S.L + (j + 1) := (sq_regs hs hj1).2
 obtain ⟨_, g2, _, g4⟩ := do_ok (S := sqS S op j) (o := sqO S op j) (x := 0) hj1
 have hv : (sqS S op (j + 1)).v (S.L + j) = (sqS S op j).makes (sqO S op j) 0 := by
  rw [sqS_next, g2]
  show updN (sqS S op j).v (sqS S op j).L _ _ = _
  rw [h2]; exact updN_at _ _ _
 have hlen : (sqS S op j).len = S.L + j := by unfold Ms.len; rw [hsj, h2]; omega
 unfold Ms.bad at g4
 rw [Bool.or_eq_false_iff, Bool.not_eq_false', hlen] at g4
 obtain ⟨rA, rB, rE⟩ := okOp_regs g4.1
 rw [hM.v (S.L + j) (by omega), hv]
 unfold Ms.makes
 rw [← wordAt_ext hM0 (by rw [h2]; exact rA), ← wordAt_ext hM0 (by rw [h2]; exact rB), ← wordAt_ext hM0 (by rw [h2]; exact rE), ho]
 congr 1
 unfold Ms.word
 by_cases e : (op j (exR S.L j)).K = 1
 · rw [if_pos ⟨e, hdj⟩, if_pos e, sq_tw, sq_used hs hd hj0]
 · rw [if_neg (fun q => e q.1), if_neg e]

def blkS (S : Ms) (kd : Int) (op : Nat → (Nat → Int) → Op6) (m : Nat) : Ms := (sqS (S.beginS kd) op m).endS
theorem endS_e {S : Ms} (h : S.endS.e = 0) : S.e = 0 ∧ S.kind ≠ 0 := by
 unfold Ms.endS at h
 by_cases e : S.e = 0
 ·
  refine ⟨e, fun k => ?_⟩
  rw [if_neg (by omega), if_pos k] at h
  simp at h
 · rw [if_pos e] at h; exact absurd h e
theorem endS_v (S : Ms) : S.endS.v = S.v ∧ S.endS.L = S.L ∧ S.endS.used = S.used ∧ S.endS.free = S.free ∧ S.endS.TN = S.TN ∧ S.endS.most = S.most ∧ S.endS.words = S.words := by
 unfold Ms.endS
 repeat' split
 all_goals exact ⟨rfl, rfl, rfl, rfl, rfl, rfl, rfl⟩
theorem beginS_v (S : Ms) (k : Int) : (S.beginS k).v = S.v ∧ (S.beginS k).L = S.L ∧ (S.beginS k).used = S.used ∧ (S.beginS k).free = S.free ∧ (S.beginS k).TN = S.TN ∧ (S.beginS k).most = S.most ∧ (S.beginS k).words = S.words := by
 unfold Ms.beginS
 repeat' split
 all_goals exact ⟨rfl, rfl, rfl, rfl, rfl, rfl, rfl⟩
theorem beginS_e {S : Ms} {k : Int} (h : (S.beginS k).e = 0) : S.e = 0 ∧ S.kind = 0 := by
 unfold Ms.beginS at h
 by_cases e : S.e = 0
 ·
  rw [if_neg (by omega)] at h
  refine ⟨e, ?_⟩
  by_cases q : S.kind ≠ 0 ∨ k < 1 ∨ 3 < k
  · rw [if_pos q] at h; simp at h
  · omega
 · rw [if_pos e] at h; exact absurd h e
theorem blk_ext (S : Ms) (kd : Int) (op : Nat → (Nat → Int) → Op6) (m : Nat) : Ext S (blkS S kd op m) := ((beginS_ext S kd).trans (sq_ext _ _ _)).trans (endS_ext _)
theorem blk_bq {k : Nat} {S : Ms} (h : Bq k S) {kd : Int} {op : Nat → (Nat → Int) → Op6} {m : Nat} (ho : ∀ j, j < m → ∀ r, Wb r → opwf (op j r)) (hk : k + m ≤ 1000000) : Bq (k + m + 1) (blkS S kd op m) := ((sq_bq (h.begins kd) ho hk).1.ends hk)
structure Blk (S : Ms) (kd : Int) (op : Nat → (Nat → Int) → Op6) (m : Nat) : Prop where
 L : (blkS S kd op m).L = S.L + m
 reg : ∀ j, j < m → sqr (S.beginS kd) op j = ((S.L + j : Nat) : Int)
 word : ∀ j, j < m → (blkS S kd op m).v (S.L + j) = evN (op j (exR S.L j)).K (op j (exR S.L j)).C (wordAt (blkS S kd op m).v (blkS S kd op m).L (op j (exR S.L j)).A) (wordAt (blkS S kd op m).v (blkS S kd op m).L (op j (exR S.L j)).B) (wordAt (blkS S kd op m).v (blkS S kd op m).L (op j (exR S.L j)).E) (if (op j (exR S.L j)).K = 1 then S.tw (S.used + rands op S.L j) else 0)
 e : S.e = 0
theorem blk_of {S : Ms} {kd : Int} {op : Nat → (Nat → Int) → Op6} {m : Nat} (hs : S.skip = 0) (hd : S.dry = false) (h : (blkS S kd op m).e = 0) : Blk S kd op m := by
 have h1 : (sqS (S.beginS kd) op m).e = 0 := (endS_e h).1
 have hB := beginS_ext S kd
 obtain ⟨b1, b2, b3, _⟩ := beginS_v S kd
 obtain ⟨_, b5, _⟩ := beginS_n S kd
 obtain ⟨e1, e2, _⟩ := endS_v (sqS (S.beginS kd) op m)
 have hs' : (S.beginS kd).skip = 0 := hB.skip.trans hs
 have hd' : (S.beginS kd).dry = false := hB.dry.trans hd
 refine ⟨?_, fun j hj => ?_, fun j hj => ?_, ?_⟩
 ·
  show (sqS (S.beginS kd) op m).endS.L = _
  rw [e2, (sq_regs hs' h1).2, b2]
 ·
  have hj0 := sq_e h1 (j + 1) (by omega)
  have := (do_word hj0 ((sq_ext _ op j).skip.trans hs')).1
  show (sqS (S.beginS kd) op j).doR _ = _
  refine Eq.trans this ?_
  rw [show (sq (S.beginS kd) op j).1 = sqS (S.beginS kd) op j from rfl, (sq_regs hs' (sq_e h1 j (by omega))).2, b2]
 ·
  have := sq_word hs' hd' h1 hj
  rw [b2, b5, b3] at this
  show (sqS (S.beginS kd) op m).endS.v _ = evN _ _ (wordAt (sqS (S.beginS kd) op m).endS.v (sqS (S.beginS kd) op m).endS.L _) (wordAt (sqS (S.beginS kd) op m).endS.v (sqS (S.beginS kd) op m).endS.L _) (wordAt (sqS (S.beginS kd) op m).endS.v (sqS (S.beginS kd) op m).endS.L _) _
  rw [e1, e2]
  exact this
 · exact (beginS_e (sq_e h1 0 (by omega))).1
theorem wordAt_nat {v : Nat → Nat} {L i : Nat} (h : i < L) : wordAt v L ((i : Nat) : Int) = v i := by
 unfold wordAt
 rw [if_pos ⟨by omega, by omega⟩, Int.toNat_natCast]

theorem Blk.xor {S : Ms} {kd : Int} {op : Nat → (Nat → Int) → Op6} {m j : Nat} (B : Blk S kd op m) (hj : j < m) {d a b : Int} (h : op j (exR S.L j) = ⟨5, d, a, b, -1, 0⟩) :
  (blkS S kd op m).v (S.L + j) = wordAt (blkS S kd op m).v (blkS S kd op m).L a ^^^ wordAt (blkS S kd op m).v (blkS S kd op m).L b := by
 have := B.word j hj
 rw [h] at this
 exact this.trans (ev5 _ _ _ _ _)
theorem Blk.rand {S : Ms} {kd : Int} {op : Nat → (Nat → Int) → Op6} {m j : Nat} (B : Blk S kd op m) (hj : j < m) {d : Int} {r : Nat} (h : op j (exR S.L j) = ⟨1, d, -1, -1, -1, 0⟩) (hr : rands op S.L j = r) : (blkS S kd op m).v (S.L + j) = S.tw (S.used + r) := by
 have := B.word j hj
 rw [h] at this
 rw [this, hr, if_pos rfl]
 exact ev1 _ _ _ _ _
theorem Blk.at_ {S : Ms} {kd : Int} {op : Nat → (Nat → Int) → Op6} {m j : Nat} (B : Blk S kd op m) (hj : j < m) : wordAt (blkS S kd op m).v (blkS S kd op m).L ((S.L + j : Nat) : Int) = (blkS S kd op m).v (S.L + j) := by
 unfold wordAt
 rw [if_pos ⟨by omega, by rw [B.L]; omega⟩, Int.toNat_natCast]

def opF2 (A : Nat → Int) (j : Nat) (r : Nat → Int) : Op6 :=
 match j with
 | 0 => ⟨1, -1, -1, -1, -1, 0⟩
 | 1 => ⟨5, 0, A 0, r 0, -1, 0⟩
 | _ => ⟨5, 1, A 1, r 0, -1, 0⟩
def opF3 (A : Nat → Int) (j : Nat) (r : Nat → Int) : Op6 :=
 match j with
 | 0 => ⟨1, -1, -1, -1, -1, 0⟩
 | 1 => ⟨1, -1, -1, -1, -1, 0⟩
 | 2 => ⟨1, -1, -1, -1, -1, 0⟩
 | 3 => ⟨5, 0, A 0, r 0, -1, 0⟩
 | 4 => ⟨5, 0, r 3, r 1, -1, 0⟩
 | 5 => ⟨5, 1, A 1, r 0, -1, 0⟩
 | 6 => ⟨5, 1, r 5, r 2, -1, 0⟩
 | 7 => ⟨5, 2, A 2, r 1, -1, 0⟩
 | _ => ⟨5, 2, r 7, r 2, -1, 0⟩
def opG3 (A : Nat → Int) (j : Nat) (r : Nat → Int) : Op6 :=
 match j with
 | 0 => ⟨1, -1, -1, -1, -1, 0⟩
 | 1 => ⟨1, -1, -1, -1, -1, 0⟩
 | 2 => ⟨5, 0, A 0, r 0, -1, 0⟩
 | 3 => ⟨5, 0, r 2, r 1, -1, 0⟩
 | 4 => ⟨5, 1, A 1, r 0, -1, 0⟩
 | _ => ⟨5, 2, A 2, r 1, -1, 0⟩
def reg3 (a b c : Int) : Nat → Int := fun i => if i = 0 then a else if i = 1 then b else if i = 2 then c else -1
theorem reg3_0 (a b c : Int) : reg3 a b c 0 = a := if_pos rfl
theorem reg3_1 (a b c : Int) : reg3 a b c 1 = b := (if_neg (by decide)).trans (if_pos rfl)
theorem reg3_2 (a b c : Int) : reg3 a b c 2 = c := (if_neg (by decide)).trans ((if_neg (by decide)).trans (if_pos rfl))
def nat3 (a b c : Nat) : Nat → Nat := fun i => if i = 0 then a else if i = 1 then b else c
theorem nat3_0 (a b c : Nat) : nat3 a b c 0 = a := if_pos rfl
theorem nat3_1 (a b c : Nat) : nat3 a b c 1 = b := (if_neg (by decide)).trans (if_pos rfl)
theorem nat3_2 (a b c : Nat) : nat3 a b c 2 = c := (if_neg (by decide)).trans (if_neg (by decide))
theorem reg3_wb {a b c : Int} (ha : I64 a) (hb : I64 b) (hc : I64 c) : Wb (reg3 a b c) := fun i => by
 unfold reg3
 repeat' split
 · exact ha
 · exact hb
 · exact hc
 · exact I64.m1
def frO (n : Int) (simple : Bool) (A : Nat → Int) : Nat → (Nat → Int) → Op6 := if n = 3 then (if simple = true then opG3 A else opF3 A) else opF2 A
def frM (n : Int) (simple : Bool) : Nat := if n = 3 then (if simple = true then 6 else 9) else 3
def frS (S : Ms) (simple : Bool) (A : Nat → Int) : Ms := blkS S 2 (frO S.n simple A) (frM S.n simple)
def frR (S : Ms) (simple : Bool) (A : Nat → Int) : Nat → Int :=
 if S.n = 3 then (if simple = true then reg3 (sqr (S.beginS 2) (opG3 A) 3) (sqr (S.beginS 2) (opG3 A) 4) (sqr (S.beginS 2) (opG3 A) 5) else reg3 (sqr (S.beginS 2) (opF3 A) 4) (sqr (S.beginS 2) (opF3 A) 6) (sqr (S.beginS 2) (opF3 A) 8))
 else reg3 (sqr (S.beginS 2) (opF2 A) 1) (sqr (S.beginS 2) (opF2 A) 2) (-1)
theorem rw1 : opwf ⟨1, -1, -1, -1, -1, 0⟩ := ⟨i64c 1 (by decide) (by decide), I64.m1, I64.m1, I64.m1, I64.m1, by show 0 < _; omega⟩
theorem xw5 {d a b : Int} (hd : 0 ≤ d ∧ d ≤ 1000) (ha : I64 a) (hb : I64 b) : opwf ⟨5, d, a, b, -1, 0⟩ := ⟨i64c 5 (by decide) (by decide), i64c d hd.1 hd.2, ha, hb, I64.m1, by show 0 < _; omega⟩
theorem opF2_wf {A r : Nat → Int} (hA : Wb A) (hr : Wb r) (j : Nat) : opwf (opF2 A j r) := by
 unfold opF2
 split
 · exact rw1
 · exact xw5 (by decide) (hA _) (hr _)
 · exact xw5 (by decide) (hA _) (hr _)
theorem opF3_wf {A r : Nat → Int} (hA : Wb A) (hr : Wb r) (j : Nat) : opwf (opF3 A j r) := by
 unfold opF3
 split
 · exact rw1
 · exact rw1
 · exact rw1
 all_goals first | exact xw5 (by decide) (hA _) (hr _) | exact xw5 (by decide) (hr _) (hr _)
theorem opG3_wf {A r : Nat → Int} (hA : Wb A) (hr : Wb r) (j : Nat) : opwf (opG3 A j r) := by
 unfold opG3
 split
 · exact rw1
 · exact rw1
 all_goals first | exact xw5 (by decide) (hA _) (hr _) | exact xw5 (by decide) (hr _) (hr _)
theorem frO_wf {n : Int} {sm : Bool} {A r : Nat → Int} (hA : Wb A) (hr : Wb r) (j : Nat) : opwf (frO n sm A j r) := by
 unfold frO
 repeat' split
 · exact opG3_wf hA hr j
 · exact opF3_wf hA hr j
 · exact opF2_wf hA hr j
theorem frM_le (n : Int) (sm : Bool) : frM n sm ≤ 9 := by
  unfold frM; repeat' split
  all_goals omega
theorem frS_bq {k : Nat} {S : Ms} (h : Bq k S) (hk : k + 9 ≤ 1000000) {sm : Bool} {A : Nat → Int} (hA : Wb A) : Bq (k + 10) (frS S sm A) := by
 have := frM_le S.n sm
 exact (blk_bq h (kd := 2) (op := frO S.n sm A) (m := frM S.n sm) (fun j _ r hr => frO_wf hA hr j) (by omega)).mono (by omega)
theorem frS_ext (S : Ms) (sm : Bool) (A : Nat → Int) : Ext S (frS S sm A) := blk_ext _ _ _ _
theorem sqr_bd {k : Nat} {S : Ms} (h : Bq k S) {op : Nat → (Nat → Int) → Op6} {m : Nat} (ho : ∀ j, j < m → ∀ r, Wb r → opwf (op j r)) (hk : k + m ≤ 1000000) : I64 (sqr S op m) := doR_bd (sq_bq h ho hk).1 hk _
theorem frR_wb {k : Nat} {S : Ms} (h : Bq k S) (hk : k + 9 ≤ 1000000) {sm : Bool} {A : Nat → Int} (hA : Wb A) : Wb (frR S sm A) := by
 have hB := h.begins 2
 unfold frR
 repeat' split
 · exact reg3_wb (sqr_bd hB (fun j _ r hr => opG3_wf hA hr j) (by omega)) (sqr_bd hB (fun j _ r hr => opG3_wf hA hr j) (by omega)) (sqr_bd hB (fun j _ r hr => opG3_wf hA hr j) (by omega))
 · exact reg3_wb (sqr_bd hB (fun j _ r hr => opF3_wf hA hr j) (by omega)) (sqr_bd hB (fun j _ r hr => opF3_wf hA hr j) (by omega)) (sqr_bd hB (fun j _ r hr => opF3_wf hA hr j) (by omega))
 · exact reg3_wb (sqr_bd hB (fun j _ r hr => opF2_wf hA hr j) (by omega)) (sqr_bd hB (fun j _ r hr => opF2_wf hA hr j) (by omega)) I64.m1
set_option maxHeartbeats 3200000 in
theorem fr_words {S : Ms} {sm : Bool} {A : Nat → Int} (hs : S.skip = 0) (hd : S.dry = false) (hn : S.n = 2 ∨ S.n = 3) (hA : Gw S A) (h : (frS S sm A).e = 0) :
  ∃ q : Nat → Nat, (∀ i, i < 3 → (i < S.sh → frR S sm A i = ((q i : Nat) : Int) ∧ q i < (frS S sm A).L) ∧ (S.sh ≤ i → frR S sm A i = -1)) ∧
   (S.n = 2 → (frS S sm A).v (q 0) = wordAt S.v S.L (A 0) ^^^ S.tw S.used ∧ (frS S sm A).v (q 1) = wordAt S.v S.L (A 1) ^^^ S.tw S.used) ∧
   (S.n = 3 → sm = false → (frS S sm A).v (q 0) = wordAt S.v S.L (A 0) ^^^ S.tw S.used ^^^ S.tw (S.used + 1) ∧ (frS S sm A).v (q 1) = wordAt S.v S.L (A 1) ^^^ S.tw S.used ^^^ S.tw (S.used + 2) ∧ (frS S sm A).v (q 2) = wordAt S.v S.L (A 2) ^^^ S.tw (S.used + 1) ^^^ S.tw (S.used + 2)) ∧
   (S.n = 3 → sm = true → (frS S sm A).v (q 0) = wordAt S.v S.L (A 0) ^^^ S.tw S.used ^^^ S.tw (S.used + 1) ∧ (frS S sm A).v (q 1) = wordAt S.v S.L (A 1) ^^^ S.tw S.used ∧ (frS S sm A).v (q 2) = wordAt S.v S.L (A 2) ^^^ S.tw (S.used + 1)) := by
 have hX := frS_ext S sm A
 have old : ∀ i, i < 3 → wordAt (frS S sm A).v (frS S sm A).L (A i) = wordAt S.v S.L (A i) := fun i hi => wordAt_ext hX (hA.lt i hi)
 have o0 := old 0 (by omega)
 have o1 := old 1 (by omega)
 have o2 := old 2 (by omega)
 unfold frS frR at *
 rcases hn with e | e
 ·
  have hsh : S.sh = 2 := by unfold Ms.sh; omega
  have hO : frO S.n sm A = opF2 A := if_neg (by omega)
  have hM : frM S.n sm = 3 := if_neg (by omega)
  clear hX old
  rw [hO, hM] at h o0 o1 o2 ⊢
  have B := blk_of hs hd h
  have hL := B.L
  refine ⟨nat3 (S.L + 1) (S.L + 2) 0, fun i hi => ⟨fun hi2 => ?_, fun hi2 => ?_⟩, fun _ => ?_, fun q => by omega, fun q => by omega⟩
  ·
   rw [if_neg (by omega), hL]
   rcases (by omega : i = 0 ∨ i = 1) with rfl | rfl
   · rw [reg3_0, B.reg 1 (by omega), nat3_0]; exact ⟨rfl, by omega⟩
   · rw [reg3_1, B.reg 2 (by omega), nat3_1]; exact ⟨rfl, by omega⟩
  ·
   obtain rfl : i = 2 := by omega
   rw [if_neg (by omega), reg3_2]
  ·
   have w0 : (blkS S 2 (opF2 A) 3).v (S.L + 0) = S.tw S.used := B.rand (j := 0) (d := -1) (r := 0) (by omega) rfl (by simp [rands])
   have w1 := B.xor (j := 1) (d := 0) (a := (A 0)) (b := ((S.L + 0 : Nat) : Int)) (by omega) (by simp [opF2, exR])
   rw [o0, B.at_ (j := 0) (by omega), w0] at w1
   have w2 := B.xor (j := 2) (d := 1) (a := (A 1)) (b := ((S.L + 0 : Nat) : Int)) (by omega) (by simp [opF2, exR])
   rw [o1, B.at_ (j := 0) (by omega), w0] at w2
   rw [nat3_0, nat3_1]; exact ⟨w1, w2⟩
 ·
  have hsh : S.sh = 3 := by unfold Ms.sh; omega
  cases sm with
  | true =>
   have hO : frO S.n true A = opG3 A := (if_pos e).trans (if_pos rfl)
   have hM : frM S.n true = 6 := (if_pos e).trans (if_pos rfl)
   clear hX old
   rw [hO, hM] at h o0 o1 o2 ⊢
   have B := blk_of hs hd h
   have hL := B.L
   refine ⟨nat3 (S.L + 3) (S.L + 4) (S.L + 5), fun i hi => ⟨fun _ => ?_, fun hi2 => by omega⟩, fun q => by omega, fun _ q => (Bool.noConfusion q), fun _ _ => ?_⟩
   ·
    rw [if_pos e, if_pos rfl, hL]
    rcases (by omega : i = 0 ∨ i = 1 ∨ i = 2) with rfl | rfl | rfl
    · rw [reg3_0, B.reg 3 (by omega), nat3_0]; exact ⟨rfl, by omega⟩
    · rw [reg3_1, B.reg 4 (by omega), nat3_1]; exact ⟨rfl, by omega⟩
    · rw [reg3_2, B.reg 5 (by omega), nat3_2]; exact ⟨rfl, by omega⟩
   ·
    have w0 : (blkS S 2 (opG3 A) 6).v (S.L + 0) = S.tw S.used := B.rand (j := 0) (d := -1) (r := 0) (by omega) rfl (by simp [rands])
    have w1 := B.rand (j := 1) (d := -1) (r := 1) (by omega) rfl (by simp [rands, opG3])
    have w2 := B.xor (j := 2) (d := 0) (a := (A 0)) (b := ((S.L + 0 : Nat) : Int)) (by omega) (by simp [opG3, exR])
    rw [o0, B.at_ (j := 0) (by omega), w0] at w2
    have w3 := B.xor (j := 3) (d := 0) (a := ((S.L + 2 : Nat) : Int)) (b := ((S.L + 1 : Nat) : Int)) (by omega) (by simp [opG3, exR])
    rw [B.at_ (j := 2) (by omega), w2, B.at_ (j := 1) (by omega), w1] at w3
    have w4 := B.xor (j := 4) (d := 1) (a := (A 1)) (b := ((S.L + 0 : Nat) : Int)) (by omega) (by simp [opG3, exR])
    rw [o1, B.at_ (j := 0) (by omega), w0] at w4
    have w5 := B.xor (j := 5) (d := 2) (a := (A 2)) (b := ((S.L + 1 : Nat) : Int)) (by omega) (by simp [opG3, exR])
    rw [o2, B.at_ (j := 1) (by omega), w1] at w5
    rw [nat3_0, nat3_1, nat3_2]; exact ⟨w3, w4, w5⟩
  | false =>
   have hO : frO S.n false A = opF3 A := (if_pos e).trans (if_neg (by decide))
   have hM : frM S.n false = 9 := (if_pos e).trans (if_neg (by decide))
   clear hX old
   rw [hO, hM] at h o0 o1 o2 ⊢
   have B := blk_of hs hd h
   have hL := B.L
   refine ⟨nat3 (S.L + 4) (S.L + 6) (S.L + 8), fun i hi => ⟨fun _ => ?_, fun hi2 => by omega⟩, fun q => by omega, fun _ _ => ?_, fun _ q => (Bool.noConfusion q)⟩
   ·
    rw [if_pos e, if_neg (by decide), hL]
    rcases (by omega : i = 0 ∨ i = 1 ∨ i = 2) with rfl | rfl | rfl
    · rw [reg3_0, B.reg 4 (by omega), nat3_0]; exact ⟨rfl, by omega⟩
    · rw [reg3_1, B.reg 6 (by omega), nat3_1]; exact ⟨rfl, by omega⟩
    · rw [reg3_2, B.reg 8 (by omega), nat3_2]; exact ⟨rfl, by omega⟩
   ·
    have w0 : (blkS S 2 (opF3 A) 9).v (S.L + 0) = S.tw S.used := B.rand (j := 0) (d := -1) (r := 0) (by omega) rfl (by simp [rands])
    have w1 := B.rand (j := 1) (d := -1) (r := 1) (by omega) rfl (by simp [rands, opF3])
    have w2 := B.rand (j := 2) (d := -1) (r := 2) (by omega) rfl (by simp [rands, opF3])
    have w3 := B.xor (j := 3) (d := 0) (a := (A 0)) (b := ((S.L + 0 : Nat) : Int)) (by omega) (by simp [opF3, exR])
    rw [o0, B.at_ (j := 0) (by omega), w0] at w3
    have w4 := B.xor (j := 4) (d := 0) (a := ((S.L + 3 : Nat) : Int)) (b := ((S.L + 1 : Nat) : Int)) (by omega) (by simp [opF3, exR])
    rw [B.at_ (j := 3) (by omega), w3, B.at_ (j := 1) (by omega), w1] at w4
    have w5 := B.xor (j := 5) (d := 1) (a := (A 1)) (b := ((S.L + 0 : Nat) : Int)) (by omega) (by simp [opF3, exR])
    rw [o1, B.at_ (j := 0) (by omega), w0] at w5
    have w6 := B.xor (j := 6) (d := 1) (a := ((S.L + 5 : Nat) : Int)) (b := ((S.L + 2 : Nat) : Int)) (by omega) (by simp [opF3, exR])
    rw [B.at_ (j := 5) (by omega), w5, B.at_ (j := 2) (by omega), w2] at w6
    have w7 := B.xor (j := 7) (d := 2) (a := (A 2)) (b := ((S.L + 1 : Nat) : Int)) (by omega) (by simp [opF3, exR])
    rw [o2, B.at_ (j := 1) (by omega), w1] at w7
    have w8 := B.xor (j := 8) (d := 2) (a := ((S.L + 7 : Nat) : Int)) (b := ((S.L + 2 : Nat) : Int)) (by omega) (by simp [opF3, exR])
    rw [B.at_ (j := 7) (by omega), w7, B.at_ (j := 2) (by omega), w2] at w8
    rw [nat3_0, nat3_1, nat3_2]; exact ⟨w4, w6, w8⟩
theorem fr_vl {S : Ms} {sm : Bool} {A : Nat → Int} (hs : S.skip = 0) (hd : S.dry = false) (hn : S.n = 2 ∨ S.n = 3) (hA : Gw S A) (h : (frS S sm A).e = 0) :
  vlN (frS S sm A).v (frS S sm A).L (frR S sm A) = vlN S.v S.L A ∧ Gw (frS S sm A) (frR S sm A) := by
 obtain ⟨q, hq, h2, h3, h4⟩ := fr_words hs hd hn hA h
 have at_ : ∀ i, i < 3 → i < S.sh → wordAt (frS S sm A).v (frS S sm A).L (frR S sm A i) = (frS S sm A).v (q i) := fun i hi hj => by
  obtain ⟨e, l⟩ := (hq i hi).1 hj
  rw [e]; exact wordAt_nat l
 have gw : Gw (frS S sm A) (frR S sm A) := ⟨fun i hi => by
   by_cases e : i < S.sh
   ·
    obtain ⟨e1, l⟩ := (hq i hi).1 e
    rw [e1]; omega
   · rw [(hq i hi).2 (by omega)]; omega, fun i hi hj => by
   have e2 : (frS S sm A).sh = S.sh := by unfold Ms.sh; rw [(frS_ext S sm A).n]
   rw [e2] at hi
   rw [(hq i hj).2 hi]; omega⟩
 refine ⟨?_, gw⟩
 rw [vl_three, vl_three]
 rcases hn with e | e
 ·
  have hsh : S.sh = 2 := by unfold Ms.sh; omega
  obtain ⟨a, b⟩ := h2 e
  rw [at_ 0 (by omega) (by omega), at_ 1 (by omega) (by omega), (hq 2 (by omega)).2 (by omega), a, b, wordAt_neg (by omega : (-1 : Int) < 0), wordAt_neg (hA.no 2 (by omega) (by omega))]
  generalize wordAt S.v S.L (A 0) = x
  generalize wordAt S.v S.L (A 1) = y
  generalize S.tw S.used = r
  refine Nat.eq_of_testBit_eq fun j => ?_
  simp only [Nat.testBit_xor]
  cases x.testBit j <;> cases y.testBit j <;> cases r.testBit j <;> rfl
 ·
  have hsh : S.sh = 3 := by unfold Ms.sh; omega
  rw [at_ 0 (by omega) (by omega), at_ 1 (by omega) (by omega), at_ 2 (by omega) (by omega)]
  cases sm with
  | true =>
   obtain ⟨a, b, c⟩ := h4 e rfl
   rw [a, b, c]
   generalize wordAt S.v S.L (A 0) = x
   generalize wordAt S.v S.L (A 1) = y
   generalize wordAt S.v S.L (A 2) = z
   generalize S.tw S.used = r
   generalize S.tw (S.used + 1) = s
   refine Nat.eq_of_testBit_eq fun j => ?_
   simp only [Nat.testBit_xor]
   cases x.testBit j <;> cases y.testBit j <;> cases z.testBit j <;> cases r.testBit j <;> cases s.testBit j <;> rfl
  | false =>
   obtain ⟨a, b, c⟩ := h3 e rfl
   rw [a, b, c]
   generalize wordAt S.v S.L (A 0) = x
   generalize wordAt S.v S.L (A 1) = y
   generalize wordAt S.v S.L (A 2) = z
   generalize S.tw S.used = r
   generalize S.tw (S.used + 1) = s
   generalize S.tw (S.used + 2) = t
   refine Nat.eq_of_testBit_eq fun j => ?_
   simp only [Nat.testBit_xor]
   cases x.testBit j <;> cases y.testBit j <;> cases z.testBit j <;> cases r.testBit j <;> cases s.testBit j <;> cases t.testBit j <;> rfl

def tch (c i k : Nat) : Bool := decide (k < c) && decide (i + k ≠ 2)
abbrev rnd6 : Op6 := ⟨1, -1, -1, -1, -1, 0⟩
abbrev xr6 (i : Nat) (r z : Int) : Op6 := ⟨5, (i : Int), r, z, -1, 0⟩
section
variable (dS : Ms → Op6 → Ms) (dR : Ms → Op6 → Int)
def drG (S : Ms) : Nat → Ms × (Nat → Int)
 | 0 => (S, fun _ => 0)
 | j + 1 => (dS (drG S j).1 rnd6, updI (drG S j).2 j (dR (drG S j).1 rnd6))
def cvG (c i : Nat) (mk : Nat → Int) (S : Ms) (r : Int) : Nat → Ms × Int
 | 0 => (S, r)
 | k + 1 => if tch c i k = true then (dS (cvG c i mk S r k).1 (xr6 i (cvG c i mk S r k).2 (mk k)), dR (cvG c i mk S r k).1 (xr6 i (cvG c i mk S r k).2 (mk k))) else cvG c i mk S r k
def nwG (c : Nat) (mk A : Nat → Int) (S : Ms) : Nat → Ms × (Nat → Int)
 | 0 => (S, none3)
 | i + 1 => ((cvG dS dR c i mk (nwG c mk A S i).1 (A i) 3).1, updI (nwG c mk A S i).2 i (cvG dS dR c i mk (nwG c mk A S i).1 (A i) 3).2)
def sqG (S : Ms) (op : Nat → (Nat → Int) → Op6) : Nat → Ms × (Nat → Int)
 | 0 => (S, none3)
 | m + 1 => (dS (sqG S op m).1 (op m (sqG S op m).2), updI (sqG S op m).2 m (dR (sqG S op m).1 (op m (sqG S op m).2)))
def sqgR (S : Ms) (op : Nat → (Nat → Int) → Op6) (m : Nat) : Int := dR (sqG dS dR S op m).1 (op m (sqG dS dR S op m).2)
def anG (n c : Nat) (A : Nat → Int) (S : Ms) : Ms × (Nat → Int) := nwG dS dR c (drG dS dR S c).2 A (drG dS dR S c).1 n
theorem an2 (A : Nat → Int) (S : Ms) : (anG dS dR 2 1 A S).1 = (sqG dS dR S (opF2 A) 3).1 ∧ (anG dS dR 2 1 A S).2 0 = sqgR dS dR S (opF2 A) 1 ∧ (anG dS dR 2 1 A S).2 1 = sqgR dS dR S (opF2 A) 2 ∧ (anG dS dR 2 1 A S).2 2 = -1 := ⟨rfl, rfl, rfl, rfl⟩
theorem an3s (A : Nat → Int) (S : Ms) : (anG dS dR 3 2 A S).1 = (sqG dS dR S (opG3 A) 6).1 ∧ (anG dS dR 3 2 A S).2 0 = sqgR dS dR S (opG3 A) 3 ∧ (anG dS dR 3 2 A S).2 1 = sqgR dS dR S (opG3 A) 4 ∧ (anG dS dR 3 2 A S).2 2 = sqgR dS dR S (opG3 A) 5 := ⟨rfl, rfl, rfl, rfl⟩
theorem an3f (A : Nat → Int) (S : Ms) : (anG dS dR 3 3 A S).1 = (sqG dS dR S (opF3 A) 9).1 ∧ (anG dS dR 3 3 A S).2 0 = sqgR dS dR S (opF3 A) 4 ∧ (anG dS dR 3 3 A S).2 1 = sqgR dS dR S (opF3 A) 6 ∧ (anG dS dR 3 3 A S).2 2 = sqgR dS dR S (opF3 A) 8 := ⟨rfl, rfl, rfl, rfl⟩
end
def dS0 (S : Ms) (o : Op6) : Ms := S.doS o 0
def dR0 (S : Ms) (o : Op6) : Int := S.doR o
theorem sq_G (S : Ms) (op : Nat → (Nat → Int) → Op6) : ∀ m, sqG dS0 dR0 S op m = sq S op m
 | 0 => rfl
 | m + 1 => by
  have ih := sq_G S op m
  unfold sqG sq
  rw [ih]
  rfl
theorem sqr_G (S : Ms) (op : Nat → (Nat → Int) → Op6) (m : Nat) : sqgR dS0 dR0 S op m = sqr S op m := by
 unfold sqgR sqr sqO sqS sqR
 rw [sq_G]
 rfl
def anS (n c : Nat) (A : Nat → Int) (S : Ms) : Ms := (anG dS0 dR0 n c A (S.beginS 2)).1.endS
def anR (n c : Nat) (A : Nat → Int) (S : Ms) : Nat → Int := (anG dS0 dR0 n c A (S.beginS 2)).2
def frC (n : Int) (simple : Bool) : Nat := if n = 3 then (if simple = true then 2 else 3) else 1
theorem an_fr {S : Ms} {sm : Bool} {A : Nat → Int} (hn : S.n = 2 ∨ S.n = 3) : anS S.sh (frC S.n sm) A S = frS S sm A ∧ ∀ i, i < 3 → anR S.sh (frC S.n sm) A S i = frR S sm A i := by
 unfold frS frR frO frM frC anS anR blkS sqS
 rcases hn with e | e
 ·
  have hsh : S.sh = 2 := by unfold Ms.sh; omega
  have h3 : ¬ S.n = 3 := by omega
  rw [hsh, if_neg h3, if_neg h3, if_neg h3, if_neg h3]
  obtain ⟨a, b, c, d⟩ := an2 dS0 dR0 A (S.beginS 2)
  rw [a, sq_G]
  refine ⟨rfl, fun i hi => ?_⟩
  rcases (by omega : i = 0 ∨ i = 1 ∨ i = 2) with rfl | rfl | rfl
  · rw [b, sqr_G, reg3_0]
  · rw [c, sqr_G, reg3_1]
  · rw [d, reg3_2]
 ·
  have hsh : S.sh = 3 := by unfold Ms.sh; omega
  rw [hsh, if_pos e, if_pos e, if_pos e, if_pos e]
  cases sm with
  | true =>
   rw [if_pos rfl, if_pos rfl, if_pos rfl, if_pos rfl]
   obtain ⟨a, b, c, d⟩ := an3s dS0 dR0 A (S.beginS 2)
   rw [a, sq_G]
   refine ⟨rfl, fun i hi => ?_⟩
   rcases (by omega : i = 0 ∨ i = 1 ∨ i = 2) with rfl | rfl | rfl
   · rw [b, sqr_G, reg3_0]
   · rw [c, sqr_G, reg3_1]
   · rw [d, sqr_G, reg3_2]
  | false =>
   rw [if_neg (by decide), if_neg (by decide), if_neg (by decide), if_neg (by decide)]
   obtain ⟨a, b, c, d⟩ := an3f dS0 dR0 A (S.beginS 2)
   rw [a, sq_G]
   refine ⟨rfl, fun i hi => ?_⟩
   rcases (by omega : i = 0 ∨ i = 1 ∨ i = 2) with rfl | rfl | rfl
   · rw [b, sqr_G, reg3_0]
   · rw [c, sqr_G, reg3_1]
   · rw [d, sqr_G, reg3_2]
theorem xr6_wf {i : Nat} {r z : Int} (hi : i ≤ 1000) (hr : I64 r) (hz : I64 z) : opwf (xr6 i r z) := xw5 (by omega) hr hz
theorem zero_wb : Wb (fun _ => 0) := fun _ => i64c 0 (by decide) (by decide)
theorem dr_bq {k : Nat} {S : Ms} (h : Bq k S) : ∀ {j}, k + j ≤ 1000000 → Bq (k + j) (drG dS0 dR0 S j).1 ∧ Wb (drG dS0 dR0 S j).2
 | 0, _ => ⟨h, zero_wb⟩
 | j + 1, hk => by
  obtain ⟨h1, h2⟩ := dr_bq h (j := j) (by omega)
  exact ⟨h1.does rw1 (by decide), h2.upd (doR_bd h1 (by omega) _)⟩
theorem cv_bq {k c i : Nat} {S : Ms} {mk : Nat → Int} {r : Int} (h : Bq k S) (hi : i ≤ 1000) (hm : Wb mk) (hr : I64 r) : ∀ {j}, k + j ≤ 1000000 → Bq (k + j) (cvG dS0 dR0 c i mk S r j).1 ∧ I64 (cvG dS0 dR0 c i mk S r j).2
 | 0, _ => ⟨h, hr⟩
 | j + 1, hk => by
  obtain ⟨h1, h2⟩ := cv_bq (c := c) h hi hm hr (j := j) (by omega)
  unfold cvG
  split
  · exact ⟨h1.does (xr6_wf hi h2 (hm j)) (by decide), doR_bd h1 (by omega) _⟩
  · exact ⟨h1.mono (by omega), h2⟩
theorem nw_bq {k c : Nat} {S : Ms} {mk A : Nat → Int} (h : Bq k S) (hm : Wb mk) (hA : Wb A) : ∀ {i}, i ≤ 1000 → k + 3 * i ≤ 1000000 → Bq (k + 3 * i) (nwG dS0 dR0 c mk A S i).1 ∧ Wb (nwG dS0 dR0 c mk A S i).2
 | 0, _, _ => ⟨h, none3_wb⟩
 | i + 1, hi, hk => by
  obtain ⟨h1, h2⟩ := nw_bq (c := c) h hm hA (i := i) (by omega) (by omega)
  obtain ⟨g1, g2⟩ := cv_bq (c := c) (i := i) h1 (by omega) hm (hA i) (j := 3) (by omega)
  exact ⟨g1.mono (by omega), h2.upd g2⟩
theorem cv_yes {c i k : Nat} (mk : Nat → Int) (S : Ms) (r : Int) (h : tch c i k = true) : (cvG dS0 dR0 c i mk S r (k + 1)).1 = (cvG dS0 dR0 c i mk S r k).1.doS (xr6 i (cvG dS0 dR0 c i mk S r k).2 (mk k)) 0 ∧ (cvG dS0 dR0 c i mk S r (k + 1)).2 = (cvG dS0 dR0 c i mk S r k).1.doR (xr6 i (cvG dS0 dR0 c i mk S r k).2 (mk k)) := by
 have e : cvG dS0 dR0 c i mk S r (k + 1) = _ := if_pos h
 rw [e]
 exact ⟨rfl, rfl⟩
theorem cv_no {c i k : Nat} (mk : Nat → Int) (S : Ms) (r : Int) (h : tch c i k = false) : cvG dS0 dR0 c i mk S r (k + 1) = cvG dS0 dR0 c i mk S r k := if_neg (by rw [h]; decide)
end Go.Proofs.YthkijncnndoafaaGreatDoor
