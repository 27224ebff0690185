import Derived.Test.YthopdlcmmafcaaaProg
import Derived.Test.YthopdlcmmafcaaaTrf
import Derived.Test.YthopdlcmmafcaaaRwg
/- Trace: TraceTells, over the program's calls' contracts. -/
namespace Go.Proofs.Ythopdlcmmafcaaa
open Go.RowKit
set_option maxRecDepth 100000

theorem eqI13 {f g : Nat → Nat} {b : Bool} (h : (∀ i, i < 13 → f i = g i) ↔ b = true) (w : World) : (Op.equalIn 10000 28 (.agg (ia 13 f)) (.agg (ia 13 g))).run Try.prog w = .ok b w := by
  have h' := run_eq_ia (P := Try.prog) w 9998 28 3 13 f g Try.underlying28 Try.underlying3 (by kernel_rfl)
  rw [h']
  congr 1
  cases b
  · simp only [Bool.false_eq_true, iff_false] at h; exact decide_eq_false h
  · exact decide_eq_true (h.2 rfl)
theorem guardI13 : Try.prog.eqGuardType Try.prog.depth 28 = false := by kernel_rfl
theorem exec_eqI13 {w : World} {o : Oper} {a : Act} (x y : Operand) (ho : o.op = .binOp .eql 28 x y 28) {f g : Nat → Nat} {q : Bool} (hx : a.eval x = .agg (ia 13 f)) (hy : a.eval y = .agg (ia 13 g)) (h : (∀ i, i < 13 → f i = g i) ↔ q = true) :
    (execOp a.eval o).run Try.prog w = .ok (.value (.bool q)) w := by
  have heq := fun w => eqI13 h w
  have hguard := guardI13
  unfold execOp
  rw [ho]
  simp only [hx, hy]
  generalize ia 13 f = A at *
  generalize ia 13 g = B at *
  go_simp
/-- What the law holds: its trace, and the document's tally. -/
structure Tl (N : Int) (v0 v1 : Value) (b : Nat) (T : Nat → Nat) (w wr : World) : Prop where
  box : wr.heap[w.heap.size]? = some (.cells #[.int .i64 N, v0, v1] 25 (0, 0))
  tal : Ai wr b 13 28 T
  low : Below w.heap.size w wr
theorem Tl.self {N : Int} {v0 v1 : Value} {b : Nat} {T : Nat → Nat} {w wr w1 : World} (h : Tl N v0 v1 b T w wr) (hb : Below wr.heap.size wr w1) : Tl N v0 v1 b T w w1 :=
  ⟨(hb.block _ (Array.getElem?_eq_some_iff.1 h.box).1).trans h.box, h.tal.self hb, h.low.trans (hb.mono h.low.size)⟩
theorem Tl.drew {N : Int} {v0 v1 : Value} {b : Nat} {T : Nat → Nat} {w wr : World} (h : Tl N v0 v1 b T w wr) : Tl N v0 v1 b T w wr.drew := ⟨h.box, h.tal.drew, h.low.drew⟩
theorem tl_start {N : Int} {v0 v1 : Value} {T : Nat → Nat} {W w2 : World} {c : Array Value} (h : w2.heap[W.heap.size]? = some (.cells #[.int .i64 N, v0, v1] 25 (0, 0))) (hb : Below W.heap.size W w2) : Tl N v0 v1 w2.heap.size T W ((w2.alloc (.cells c 28)).setRow w2.heap.size (ia 13 T)) := by
  have hl := (Array.getElem?_eq_some_iff.1 h).1
  refine ⟨?_, setRow_heap _ _ _ _ _ _ (heap_alloc_new w2 (.cells c 28)), ((hb.alloc hb.size _).trans ⟨rfl, rfl, rfl, by simp [World.setRow], fun k hk => setRow_other _ _ k _ (by have := hb.size; omega)⟩)⟩
  rw [setRow_other _ _ _ _ (by omega), heap_alloc_old _ _ hl]
  exact h
set_option maxHeartbeats 12800000 in
theorem ttells_core (N : Int) (v0 v1 : Value) (L M : Nat) (f : Nat → Op6) (g : Nat → Sp3) (W : World) (h : ROp W v0 L f) (h' : RSp W v1 M g)
    (HCk : ∀ w, Below W.heap.size W w → Calls Try.prog 7 #[trV N v0 v1] w fun e w' => e = .returned (.int .i64 (if trB N L M f g then 0 else 4)) ∧ Below w.heap.size w w')
    (HTy : ∀ w, Below W.heap.size W w → Calls Try.prog 8 #[trV N v0 v1] w fun e w' => e = .returned (.agg (ia 13 (tal f L))) ∧ Below w.heap.size w w')
    (HDr : ∀ w, Below W.heap.size W w → Calls Try.prog 9 #[trV N v0 v1] w fun e w' => e = .returned (.int .i64 (tal f L 1 : Nat)) ∧ Below w.heap.size w w')
    (HWd : ∀ w, Below W.heap.size W w → Calls Try.prog 10 #[trV N v0 v1] w fun e w' => e = .returned (.int .i64 (tal f L 2 : Nat)) ∧ Below w.heap.size w w')
    (HOp : ∀ w, Below W.heap.size W w → Calls Try.prog 12 #[trV N v0 v1] w fun e w' => ∃ u, e = .returned u ∧ Own .i64 w.heap.size 3 w' u (opL f L) ∧ Below w.heap.size w w')
    (HAw : ∀ w, Below W.heap.size W w → Calls Try.prog 14 #[] w fun e w' => e = .returned (.bool true) ∧ Below w.heap.size w w') :
    Calls Try.prog 3 #[trV N v0 v1] W fun e w' => e = .returned (.bool true) ∧ Below W.heap.size W w' := by
  have KCk := hid HCk
  have KTy := hid HTy
  have KDr := hid HDr
  have KWd := hid HWd
  have KOp := hid HOp
  have KAw := hid HAw
  have KRg := hid (fun w hb => reftrace_any N v0 v1 L M f g w (h.self hb) (h'.self hb))
  have KRt := hid (fun w hb => reftally_any N v0 v1 L f w (h.self hb))
  have KRo := hid (fun w hb => refopens_any N v0 v1 L f w (h.self hb))
  have hlen : (opL f L).length * 8 ≤ 140737488351232 := by have := opL_len f L; have := h.lim; omega
  have hwf : ∀ z ∈ opL f L, (Lit.int .i64 z).wf = true := fun z hz => by
    have h1 := opL_mem f L z hz
    have h2 := h.lim
    simp [Lit.wf, IntKind.min, IntKind.max, IntKind.signed, IntKind.bits]
    omega
  have KRi := hid (fun (u u' : Value) (w1 w2 w3 : World) (B1 B2 : Nat) (h1 : Own .i64 B1 3 w1 u (opL f L)) (hb : Below w1.heap.size w1 w3) (h2 : Own .i64 B2 3 w3 u' (opL f L)) => refints_any u u' (opL f L) (opL f L) w3 ((h1.rd hlen hwf).self hb) (h2.rd hlen hwf))
  obtain ⟨a0, cap0, rfl, _⟩ := id h.at_
  obtain ⟨a1, cap1, rfl, _⟩ := id h'.at_
  generalize tal f L = T at *
  generalize opL f L = ops at *
  clear h h' HCk HTy HDr HWd HOp HAw hlen hwf
  have HX0 : Hid ((W.alloc (.cells #[.int .i64 N, .slice a0 L cap0, .slice a1 M cap1] 25)).heap[W.heap.size]? = some (.cells #[.int .i64 N, .slice a0 L cap0, .slice a1 M cap1] 25 (0, 0)) ∧ Below W.heap.size W (W.alloc (.cells #[.int .i64 N, .slice a0 L cap0, .slice a1 M cap1] 25))) := hid ⟨heap_alloc_new W _, (Below.refl _ _).alloc (Nat.le_refl _) _⟩
  generalize trB N L M f g = q at *
  cases q
  · simp only [reduceIte, Bool.false_eq_true] at KCk
    go_enter Try.func3, Try.ntmps3
    go_wp2_with (first
      | (go_at_call 5; (with_reducible refine (KRg.out _ HX0.out.2).mono ?_); rintro e w1 ⟨rfl, hb⟩; have HX1 := hid (And.intro ((hb.block _ (by simp)).trans HX0.out.1) (HX0.out.2.trans (hb.mono HX0.out.2.size))); clear hb)
      | (go_at_call 6; (with_reducible refine (KRt.out _ HX1.out.2).mono ?_); rintro e w2 ⟨rfl, hb⟩; have HX2 := hid (And.intro ((hb.block _ (Array.getElem?_eq_some_iff.1 HX1.out.1).1).trans HX1.out.1) (HX1.out.2.trans (hb.mono HX1.out.2.size))); clear hb)
      | (refine wpList_load_row rfl 25 _ rfl W.heap.size rfl 25 #[.int .i64 N, .slice a0 L cap0, .slice a1 M cap1] (0, 0) _ HX1.out.1 Try.underlying25 rfl (by kernel_rfl) ?_)
      | (refine step_store_row rfl 28 _ _ rfl w2.heap.size 28 _ (ia 13 T) rfl rfl (heap_alloc_new w2 _) (by kernel_rfl) (by rw [ia_size]; rfl) (ia_one 13 T) ?_; have X3 := hid (tl_start (N := N) (v0 := .slice a0 L cap0) (v1 := .slice a1 M cap1) (T := T) (c := #[.int .i64 0, .int .i64 0, .int .i64 0, .int .i64 0, .int .i64 0, .int .i64 0, .int .i64 0, .int .i64 0, .int .i64 0, .int .i64 0, .int .i64 0, .int .i64 0, .int .i64 0]) HX2.out.1 HX2.out.2); generalize (w2.alloc (.cells #[.int .i64 0, .int .i64 0, .int .i64 0, .int .i64 0, .int .i64 0, .int .i64 0, .int .i64 0, .int .i64 0, .int .i64 0, .int .i64 0, .int .i64 0, .int .i64 0, .int .i64 0] 28)).setRow w2.heap.size (ia 13 T) = w3 at *; generalize w2.heap.size = b at *; clear HX2 HX1 HX0))
    have X4 := hid X3.out.drew
    refine wp_region_noPanic ?_
    refine wp_region_held_drew (S := fun w' => w'.heap[W.heap.size]? = some (.cells #[.int .i64 N, .slice a0 L cap0, .slice a1 M cap1] 25 (0, 0)) ∧ Ai w' b 13 28 T) (by kernel_rfl) (⟨X3.out.drew.box, X3.out.drew.tal⟩) (fun h0 => ?_)
    generalize w3.drew = w4 at *
    refine wpAnyH_take (i := 0) (v := trV N (.slice a0 L cap0) (.slice a1 M cap1)) rfl (by kernel_rfl) (by kernel_rfl) (by kernel_rfl) (fun _ _ _ h => h) (yields_load_row (by rfl) 25 (.tmp 1) rfl W.heap.size 25 #[.int .i64 N, .slice a0 L cap0, .slice a1 M cap1] _ rfl (fun w h => h.1) Try.underlying25 rfl (by kernel_rfl)) h0 ?_
    try simp only [Act.put, lay_out]
    refine wpAnyH_take (i := 2) (v := .int .i64 4) rfl (by kernel_rfl) (by kernel_rfl) (by kernel_rfl) (fun _ _ _ h => h) (.inl ⟨by rfl, fun w hw => by clear hw; go_simp⟩) h0 ?_
    try simp only [Act.put, lay_out]
    refine wpAnyH_ready (rs := [1]) (by kernel_rfl) (by simp) (AllReadyH.cons rfl (fun K hK => ?_) AllReadyH.nil)
    rw [if_pos (by rfl)]
    go_simp
    go_at_call 7
    (with_reducible refine (KCk.out _ X4.out.low).mono ?_); rintro e w5 ⟨rfl, hb⟩
    have X5 := hid (X4.out.self hb)
    clear hb
    refine hK.out _ _ (⟨X5.out.box, X5.out.tal⟩) (fun h1x => ?_)
    clear hK K
    try simp only [Act.put, lay_out]
    refine wpAnyH_take (i := 3) (v := .bool true) rfl (by kernel_rfl) (by kernel_rfl) (by kernel_rfl) (fun _ _ _ h => h) (.inl ⟨by rfl, fun w hw => by clear hw; go_simp⟩) h1x ?_
    try simp only [Act.put, lay_out]
    refine wpAnyH_take (i := 4) (v := .bool true) rfl (by kernel_rfl) (by kernel_rfl) (by kernel_rfl) (fun _ _ _ h => h) (.inl ⟨by rfl, fun w hw => by clear hw; go_simp⟩) h1x ?_
    try simp only [Act.put, lay_out]
    refine wpAnyH_take (i := 5) (v := trV N (.slice a0 L cap0) (.slice a1 M cap1)) rfl (by kernel_rfl) (by kernel_rfl) (by kernel_rfl) (fun _ _ _ h => h) (yields_load_row (by rfl) 25 (.tmp 1) rfl W.heap.size 25 #[.int .i64 N, .slice a0 L cap0, .slice a1 M cap1] _ rfl (fun w h => h.1) Try.underlying25 rfl (by kernel_rfl)) h1x ?_
    try simp only [Act.put, lay_out]
    refine wpAnyH_take (i := 7) (v := .agg (ia 13 T)) rfl (by kernel_rfl) (by kernel_rfl) (by kernel_rfl) (fun _ _ _ h => h) (yields_load_row (by rfl) 28 (.tmp 4) rfl b 28 (ia 13 T) _ rfl (fun w h => h.2) Try.underlying28 rfl (by kernel_rfl)) h1x ?_
    try simp only [Act.put, lay_out]
    refine wpAnyH_ready (rs := [6]) (by kernel_rfl) (by simp) (AllReadyH.cons rfl (fun K hK => ?_) AllReadyH.nil)
    rw [if_pos (by rfl)]
    go_simp
    go_at_call 8
    (with_reducible refine (KTy.out _ X5.out.low).mono ?_); rintro e w6 ⟨rfl, hb⟩
    have X6 := hid (X5.out.self hb)
    clear hb
    refine hK.out _ _ (⟨X6.out.box, X6.out.tal⟩) (fun h2x => ?_)
    clear hK K
    try simp only [Act.put, lay_out]
    refine wpAnyH_take (i := 8) (v := .bool true) rfl (by kernel_rfl) (by kernel_rfl) (by kernel_rfl) (fun _ _ _ h => h) (.inl ⟨by rfl, fun w _ => exec_eqI13 _ _ rfl rfl rfl (by simp)⟩) h2x ?_
    try simp only [Act.put, lay_out]
    refine wpAnyH_take (i := 9) (v := .bool true) rfl (by kernel_rfl) (by kernel_rfl) (by kernel_rfl) (fun _ _ _ h => h) (.inl ⟨by rfl, fun w hw => by clear hw; go_simp⟩) h2x ?_
    try simp only [Act.put, lay_out]
    refine wpAnyH_take (i := 10) (v := .bool true) rfl (by kernel_rfl) (by kernel_rfl) (by kernel_rfl) (fun _ _ _ h => h) (.inl ⟨by rfl, fun w hw => by clear hw; go_simp⟩) h2x ?_
    try simp only [Act.put, lay_out]
    refine wpAnyH_take (i := 11) (v := trV N (.slice a0 L cap0) (.slice a1 M cap1)) rfl (by kernel_rfl) (by kernel_rfl) (by kernel_rfl) (fun _ _ _ h => h) (yields_load_row (by rfl) 25 (.tmp 1) rfl W.heap.size 25 #[.int .i64 N, .slice a0 L cap0, .slice a1 M cap1] _ rfl (fun w h => h.1) Try.underlying25 rfl (by kernel_rfl)) h2x ?_
    try simp only [Act.put, lay_out]
    refine wpAnyH_take (i := 13) (v := .pointer (some ⟨b, 1, none⟩)) rfl (by kernel_rfl) (by kernel_rfl) (by kernel_rfl) (fun _ _ _ h => h) (.inl ⟨by rfl, fun w hw => by clear hw; go_simp⟩) h2x ?_
    try simp only [Act.put, lay_out]
    refine wpAnyH_take (i := 14) (v := .int .i64 (T 1 : Nat)) rfl (by kernel_rfl) (by kernel_rfl) (by kernel_rfl) (fun _ _ _ h => h) (.inl ⟨by rfl, fun w hw => by have kk := Ai.cell hw.2 (by decide : 1 < 13); clear hw; go_simp⟩) h2x ?_
    try simp only [Act.put, lay_out]
    refine wpAnyH_ready (rs := [12]) (by kernel_rfl) (by simp) (AllReadyH.cons rfl (fun K hK => ?_) AllReadyH.nil)
    rw [if_pos (by rfl)]
    go_simp
    go_at_call 9
    (with_reducible refine (KDr.out _ X6.out.low).mono ?_); rintro e w7 ⟨rfl, hb⟩
    have X7 := hid (X6.out.self hb)
    clear hb
    refine hK.out _ _ (⟨X7.out.box, X7.out.tal⟩) (fun h3x => ?_)
    clear hK K
    try simp only [Act.put, lay_out]
    refine wpAnyH_take (i := 15) (v := .bool true) rfl (by kernel_rfl) (by kernel_rfl) (by kernel_rfl) (fun _ _ _ h => h) (.inl ⟨by rfl, fun w hw => by clear hw; go_simp⟩) h3x ?_
    try simp only [Act.put, lay_out]
    refine wpAnyH_take (i := 16) (v := .bool true) rfl (by kernel_rfl) (by kernel_rfl) (by kernel_rfl) (fun _ _ _ h => h) (.inl ⟨by rfl, fun w hw => by clear hw; go_simp⟩) h3x ?_
    try simp only [Act.put, lay_out]
    refine wpAnyH_take (i := 17) (v := .bool true) rfl (by kernel_rfl) (by kernel_rfl) (by kernel_rfl) (fun _ _ _ h => h) (.inl ⟨by rfl, fun w hw => by clear hw; go_simp⟩) h3x ?_
    try simp only [Act.put, lay_out]
    refine wpAnyH_take (i := 18) (v := trV N (.slice a0 L cap0) (.slice a1 M cap1)) rfl (by kernel_rfl) (by kernel_rfl) (by kernel_rfl) (fun _ _ _ h => h) (yields_load_row (by rfl) 25 (.tmp 1) rfl W.heap.size 25 #[.int .i64 N, .slice a0 L cap0, .slice a1 M cap1] _ rfl (fun w h => h.1) Try.underlying25 rfl (by kernel_rfl)) h3x ?_
    try simp only [Act.put, lay_out]
    refine wpAnyH_take (i := 20) (v := .pointer (some ⟨b, 2, none⟩)) rfl (by kernel_rfl) (by kernel_rfl) (by kernel_rfl) (fun _ _ _ h => h) (.inl ⟨by rfl, fun w hw => by clear hw; go_simp⟩) h3x ?_
    try simp only [Act.put, lay_out]
    refine wpAnyH_take (i := 21) (v := .int .i64 (T 2 : Nat)) rfl (by kernel_rfl) (by kernel_rfl) (by kernel_rfl) (fun _ _ _ h => h) (.inl ⟨by rfl, fun w hw => by have kk := Ai.cell hw.2 (by decide : 2 < 13); clear hw; go_simp⟩) h3x ?_
    try simp only [Act.put, lay_out]
    refine wpAnyH_ready (rs := [19]) (by kernel_rfl) (by simp) (AllReadyH.cons rfl (fun K hK => ?_) AllReadyH.nil)
    rw [if_pos (by rfl)]
    go_simp
    go_at_call 10
    (with_reducible refine (KWd.out _ X7.out.low).mono ?_); rintro e w8 ⟨rfl, hb⟩
    have X8 := hid (X7.out.self hb)
    clear hb
    refine hK.out _ _ (⟨X8.out.box, X8.out.tal⟩) (fun h4x => ?_)
    clear hK K
    try simp only [Act.put, lay_out]
    refine wpAnyH_take (i := 22) (v := .bool true) rfl (by kernel_rfl) (by kernel_rfl) (by kernel_rfl) (fun _ _ _ h => h) (.inl ⟨by rfl, fun w hw => by clear hw; go_simp⟩) h4x ?_
    try simp only [Act.put, lay_out]
    refine wpAnyH_take (i := 23) (v := .bool true) rfl (by kernel_rfl) (by kernel_rfl) (by kernel_rfl) (fun _ _ _ h => h) (.inl ⟨by rfl, fun w hw => by clear hw; go_simp⟩) h4x ?_
    try simp only [Act.put, lay_out]
    refine wpAnyH_take (i := 24) (v := .bool true) rfl (by kernel_rfl) (by kernel_rfl) (by kernel_rfl) (fun _ _ _ h => h) (.inl ⟨by rfl, fun w hw => by clear hw; go_simp⟩) h4x ?_
    try simp only [Act.put, lay_out]
    refine wpAnyH_take (i := 25) (v := trV N (.slice a0 L cap0) (.slice a1 M cap1)) rfl (by kernel_rfl) (by kernel_rfl) (by kernel_rfl) (fun _ _ _ h => h) (yields_load_row (by rfl) 25 (.tmp 1) rfl W.heap.size 25 #[.int .i64 N, .slice a0 L cap0, .slice a1 M cap1] _ rfl (fun w h => h.1) Try.underlying25 rfl (by kernel_rfl)) h4x ?_
    try simp only [Act.put, lay_out]
    refine wpAnyH_take (i := 27) (v := trV N (.slice a0 L cap0) (.slice a1 M cap1)) rfl (by kernel_rfl) (by kernel_rfl) (by kernel_rfl) (fun _ _ _ h => h) (yields_load_row (by rfl) 25 (.tmp 1) rfl W.heap.size 25 #[.int .i64 N, .slice a0 L cap0, .slice a1 M cap1] _ rfl (fun w h => h.1) Try.underlying25 rfl (by kernel_rfl)) h4x ?_
    try simp only [Act.put, lay_out]
    refine wpAnyH_ready (rs := [26]) (by kernel_rfl) (by simp) (AllReadyH.cons rfl (fun K hK => ?_) AllReadyH.nil)
    rw [if_pos (by rfl)]
    go_simp
    go_at_call 12
    (with_reducible refine (KOp.out _ X8.out.low).mono ?_); rintro e w9 ⟨u, rfl, ho, hb⟩
    have HU := hid ho
    clear ho
    have X9 := hid (X8.out.self hb)
    clear hb
    refine hK.out _ _ (⟨X9.out.box, X9.out.tal⟩) (fun h5x => ?_)
    clear hK K
    try simp only [Act.put, lay_out]
    refine wpAnyH_ready (rs := [28]) (by kernel_rfl) (by simp) (AllReadyH.cons rfl (fun K hK => ?_) AllReadyH.nil)
    rw [if_pos (by rfl)]
    go_simp
    go_at_call 13
    (with_reducible refine (KRo.out _ X9.out.low).mono ?_); rintro e w10 ⟨u2, rfl, ho, hb⟩
    have HU2 := hid ho
    have HU3 := hid hb
    clear ho
    have X10 := hid (X9.out.self hb)
    clear hb
    refine hK.out _ _ (⟨X10.out.box, X10.out.tal⟩) (fun h6x => ?_)
    clear hK K
    try simp only [Act.put, lay_out]
    refine wpAnyH_ready (rs := [29]) (by kernel_rfl) (by simp) (AllReadyH.cons rfl (fun K hK => ?_) AllReadyH.nil)
    rw [if_pos (by rfl)]
    go_simp
    go_at_call 11
    (with_reducible refine (KRi.out u u2 w9 w10 w10 _ _ HU.out HU3.out HU2.out).mono ?_); rintro e w11 ⟨rfl, hb⟩
    have X11 := hid (X10.out.self hb)
    clear hb
    refine hK.out _ _ (⟨X11.out.box, X11.out.tal⟩) (fun h7x => ?_)
    clear hK K
    try simp only [Act.put, lay_out]
    refine wpAnyH_take (i := 30) (v := .bool true) rfl (by kernel_rfl) (by kernel_rfl) (by kernel_rfl) (fun _ _ _ h => h) (.inl ⟨by rfl, fun w hw => by clear hw; go_simp⟩) h7x ?_
    try simp only [Act.put, lay_out]
    refine wpAnyH_take (i := 31) (v := .bool true) rfl (by kernel_rfl) (by kernel_rfl) (by kernel_rfl) (fun _ _ _ h => h) (.inl ⟨by rfl, fun w hw => by clear hw; go_simp⟩) h7x ?_
    try simp only [Act.put, lay_out]
    refine wpAnyH_ready (rs := [32]) (by kernel_rfl) (by simp) (AllReadyH.cons rfl (fun K hK => ?_) AllReadyH.nil)
    rw [if_pos (by rfl)]
    go_simp
    go_at_call 14
    (with_reducible refine (KAw.out _ X11.out.low).mono ?_); rintro e w12 ⟨rfl, hb⟩
    have X12 := hid (X11.out.self hb)
    clear hb
    refine hK.out _ _ (⟨X12.out.box, X12.out.tal⟩) (fun h8x => ?_)
    clear hK K
    try simp only [Act.put, lay_out]
    refine wpAnyH_take (i := 33) (v := .bool true) rfl (by kernel_rfl) (by kernel_rfl) (by kernel_rfl) (fun _ _ _ h => h) (.inl ⟨by rfl, fun w hw => by clear hw; go_simp⟩) h8x ?_
    try simp only [Act.put, lay_out]
    refine wpAnyH_take (i := 34) (v := .bool true) rfl (by kernel_rfl) (by kernel_rfl) (by kernel_rfl) (fun _ _ _ h => h) (.inl ⟨by rfl, fun w hw => by clear hw; go_simp⟩) h8x ?_
    try simp only [Act.put, lay_out]
    refine wpAnyH_done (by kernel_rfl) ?_ _
    refine NoPanic.normal ?_
    clear h0 h1x h2x h3x h4x h5x h6x h7x h8x
    try simp only [Act.put, lay_out]
    go_wp2
    go_ret
    exact ⟨rfl, X12.out.low⟩
  · simp only [reduceIte] at KCk
    go_enter Try.func3, Try.ntmps3
    go_wp2_with (first
      | (go_at_call 5; (with_reducible refine (KRg.out _ HX0.out.2).mono ?_); rintro e w1 ⟨rfl, hb⟩; have HX1 := hid (And.intro ((hb.block _ (by simp)).trans HX0.out.1) (HX0.out.2.trans (hb.mono HX0.out.2.size))); clear hb)
      | (go_at_call 6; (with_reducible refine (KRt.out _ HX1.out.2).mono ?_); rintro e w2 ⟨rfl, hb⟩; have HX2 := hid (And.intro ((hb.block _ (Array.getElem?_eq_some_iff.1 HX1.out.1).1).trans HX1.out.1) (HX1.out.2.trans (hb.mono HX1.out.2.size))); clear hb)
      | (refine wpList_load_row rfl 25 _ rfl W.heap.size rfl 25 #[.int .i64 N, .slice a0 L cap0, .slice a1 M cap1] (0, 0) _ HX1.out.1 Try.underlying25 rfl (by kernel_rfl) ?_)
      | (refine step_store_row rfl 28 _ _ rfl w2.heap.size 28 _ (ia 13 T) rfl rfl (heap_alloc_new w2 _) (by kernel_rfl) (by rw [ia_size]; rfl) (ia_one 13 T) ?_; have X3 := hid (tl_start (N := N) (v0 := .slice a0 L cap0) (v1 := .slice a1 M cap1) (T := T) (c := #[.int .i64 0, .int .i64 0, .int .i64 0, .int .i64 0, .int .i64 0, .int .i64 0, .int .i64 0, .int .i64 0, .int .i64 0, .int .i64 0, .int .i64 0, .int .i64 0, .int .i64 0]) HX2.out.1 HX2.out.2); generalize (w2.alloc (.cells #[.int .i64 0, .int .i64 0, .int .i64 0, .int .i64 0, .int .i64 0, .int .i64 0, .int .i64 0, .int .i64 0, .int .i64 0, .int .i64 0, .int .i64 0, .int .i64 0, .int .i64 0] 28)).setRow w2.heap.size (ia 13 T) = w3 at *; generalize w2.heap.size = b at *; clear HX2 HX1 HX0))
    have X4 := hid X3.out.drew
    refine wp_region_noPanic ?_
    refine wp_region_held_drew (S := fun w' => w'.heap[W.heap.size]? = some (.cells #[.int .i64 N, .slice a0 L cap0, .slice a1 M cap1] 25 (0, 0)) ∧ Ai w' b 13 28 T) (by kernel_rfl) (⟨X3.out.drew.box, X3.out.drew.tal⟩) (fun h0 => ?_)
    generalize w3.drew = w4 at *
    refine wpAnyH_take (i := 0) (v := trV N (.slice a0 L cap0) (.slice a1 M cap1)) rfl (by kernel_rfl) (by kernel_rfl) (by kernel_rfl) (fun _ _ _ h => h) (yields_load_row (by rfl) 25 (.tmp 1) rfl W.heap.size 25 #[.int .i64 N, .slice a0 L cap0, .slice a1 M cap1] _ rfl (fun w h => h.1) Try.underlying25 rfl (by kernel_rfl)) h0 ?_
    try simp only [Act.put, lay_out]
    refine wpAnyH_take (i := 2) (v := .int .i64 0) rfl (by kernel_rfl) (by kernel_rfl) (by kernel_rfl) (fun _ _ _ h => h) (.inl ⟨by rfl, fun w hw => by clear hw; go_simp⟩) h0 ?_
    try simp only [Act.put, lay_out]
    refine wpAnyH_ready (rs := [1]) (by kernel_rfl) (by simp) (AllReadyH.cons rfl (fun K hK => ?_) AllReadyH.nil)
    rw [if_pos (by rfl)]
    go_simp
    go_at_call 7
    (with_reducible refine (KCk.out _ X4.out.low).mono ?_); rintro e w5 ⟨rfl, hb⟩
    have X5 := hid (X4.out.self hb)
    clear hb
    refine hK.out _ _ (⟨X5.out.box, X5.out.tal⟩) (fun h1x => ?_)
    clear hK K
    try simp only [Act.put, lay_out]
    refine wpAnyH_take (i := 3) (v := .bool true) rfl (by kernel_rfl) (by kernel_rfl) (by kernel_rfl) (fun _ _ _ h => h) (.inl ⟨by rfl, fun w hw => by clear hw; go_simp⟩) h1x ?_
    try simp only [Act.put, lay_out]
    refine wpAnyH_take (i := 4) (v := .bool true) rfl (by kernel_rfl) (by kernel_rfl) (by kernel_rfl) (fun _ _ _ h => h) (.inl ⟨by rfl, fun w hw => by clear hw; go_simp⟩) h1x ?_
    try simp only [Act.put, lay_out]
    refine wpAnyH_take (i := 5) (v := trV N (.slice a0 L cap0) (.slice a1 M cap1)) rfl (by kernel_rfl) (by kernel_rfl) (by kernel_rfl) (fun _ _ _ h => h) (yields_load_row (by rfl) 25 (.tmp 1) rfl W.heap.size 25 #[.int .i64 N, .slice a0 L cap0, .slice a1 M cap1] _ rfl (fun w h => h.1) Try.underlying25 rfl (by kernel_rfl)) h1x ?_
    try simp only [Act.put, lay_out]
    refine wpAnyH_take (i := 7) (v := .agg (ia 13 T)) rfl (by kernel_rfl) (by kernel_rfl) (by kernel_rfl) (fun _ _ _ h => h) (yields_load_row (by rfl) 28 (.tmp 4) rfl b 28 (ia 13 T) _ rfl (fun w h => h.2) Try.underlying28 rfl (by kernel_rfl)) h1x ?_
    try simp only [Act.put, lay_out]
    refine wpAnyH_ready (rs := [6]) (by kernel_rfl) (by simp) (AllReadyH.cons rfl (fun K hK => ?_) AllReadyH.nil)
    rw [if_pos (by rfl)]
    go_simp
    go_at_call 8
    (with_reducible refine (KTy.out _ X5.out.low).mono ?_); rintro e w6 ⟨rfl, hb⟩
    have X6 := hid (X5.out.self hb)
    clear hb
    refine hK.out _ _ (⟨X6.out.box, X6.out.tal⟩) (fun h2x => ?_)
    clear hK K
    try simp only [Act.put, lay_out]
    refine wpAnyH_take (i := 8) (v := .bool true) rfl (by kernel_rfl) (by kernel_rfl) (by kernel_rfl) (fun _ _ _ h => h) (.inl ⟨by rfl, fun w _ => exec_eqI13 _ _ rfl rfl rfl (by simp)⟩) h2x ?_
    try simp only [Act.put, lay_out]
    refine wpAnyH_take (i := 9) (v := .bool true) rfl (by kernel_rfl) (by kernel_rfl) (by kernel_rfl) (fun _ _ _ h => h) (.inl ⟨by rfl, fun w hw => by clear hw; go_simp⟩) h2x ?_
    try simp only [Act.put, lay_out]
    refine wpAnyH_take (i := 10) (v := .bool true) rfl (by kernel_rfl) (by kernel_rfl) (by kernel_rfl) (fun _ _ _ h => h) (.inl ⟨by rfl, fun w hw => by clear hw; go_simp⟩) h2x ?_
    try simp only [Act.put, lay_out]
    refine wpAnyH_take (i := 11) (v := trV N (.slice a0 L cap0) (.slice a1 M cap1)) rfl (by kernel_rfl) (by kernel_rfl) (by kernel_rfl) (fun _ _ _ h => h) (yields_load_row (by rfl) 25 (.tmp 1) rfl W.heap.size 25 #[.int .i64 N, .slice a0 L cap0, .slice a1 M cap1] _ rfl (fun w h => h.1) Try.underlying25 rfl (by kernel_rfl)) h2x ?_
    try simp only [Act.put, lay_out]
    refine wpAnyH_take (i := 13) (v := .pointer (some ⟨b, 1, none⟩)) rfl (by kernel_rfl) (by kernel_rfl) (by kernel_rfl) (fun _ _ _ h => h) (.inl ⟨by rfl, fun w hw => by clear hw; go_simp⟩) h2x ?_
    try simp only [Act.put, lay_out]
    refine wpAnyH_take (i := 14) (v := .int .i64 (T 1 : Nat)) rfl (by kernel_rfl) (by kernel_rfl) (by kernel_rfl) (fun _ _ _ h => h) (.inl ⟨by rfl, fun w hw => by have kk := Ai.cell hw.2 (by decide : 1 < 13); clear hw; go_simp⟩) h2x ?_
    try simp only [Act.put, lay_out]
    refine wpAnyH_ready (rs := [12]) (by kernel_rfl) (by simp) (AllReadyH.cons rfl (fun K hK => ?_) AllReadyH.nil)
    rw [if_pos (by rfl)]
    go_simp
    go_at_call 9
    (with_reducible refine (KDr.out _ X6.out.low).mono ?_); rintro e w7 ⟨rfl, hb⟩
    have X7 := hid (X6.out.self hb)
    clear hb
    refine hK.out _ _ (⟨X7.out.box, X7.out.tal⟩) (fun h3x => ?_)
    clear hK K
    try simp only [Act.put, lay_out]
    refine wpAnyH_take (i := 15) (v := .bool true) rfl (by kernel_rfl) (by kernel_rfl) (by kernel_rfl) (fun _ _ _ h => h) (.inl ⟨by rfl, fun w hw => by clear hw; go_simp⟩) h3x ?_
    try simp only [Act.put, lay_out]
    refine wpAnyH_take (i := 16) (v := .bool true) rfl (by kernel_rfl) (by kernel_rfl) (by kernel_rfl) (fun _ _ _ h => h) (.inl ⟨by rfl, fun w hw => by clear hw; go_simp⟩) h3x ?_
    try simp only [Act.put, lay_out]
    refine wpAnyH_take (i := 17) (v := .bool true) rfl (by kernel_rfl) (by kernel_rfl) (by kernel_rfl) (fun _ _ _ h => h) (.inl ⟨by rfl, fun w hw => by clear hw; go_simp⟩) h3x ?_
    try simp only [Act.put, lay_out]
    refine wpAnyH_take (i := 18) (v := trV N (.slice a0 L cap0) (.slice a1 M cap1)) rfl (by kernel_rfl) (by kernel_rfl) (by kernel_rfl) (fun _ _ _ h => h) (yields_load_row (by rfl) 25 (.tmp 1) rfl W.heap.size 25 #[.int .i64 N, .slice a0 L cap0, .slice a1 M cap1] _ rfl (fun w h => h.1) Try.underlying25 rfl (by kernel_rfl)) h3x ?_
    try simp only [Act.put, lay_out]
    refine wpAnyH_take (i := 20) (v := .pointer (some ⟨b, 2, none⟩)) rfl (by kernel_rfl) (by kernel_rfl) (by kernel_rfl) (fun _ _ _ h => h) (.inl ⟨by rfl, fun w hw => by clear hw; go_simp⟩) h3x ?_
    try simp only [Act.put, lay_out]
    refine wpAnyH_take (i := 21) (v := .int .i64 (T 2 : Nat)) rfl (by kernel_rfl) (by kernel_rfl) (by kernel_rfl) (fun _ _ _ h => h) (.inl ⟨by rfl, fun w hw => by have kk := Ai.cell hw.2 (by decide : 2 < 13); clear hw; go_simp⟩) h3x ?_
    try simp only [Act.put, lay_out]
    refine wpAnyH_ready (rs := [19]) (by kernel_rfl) (by simp) (AllReadyH.cons rfl (fun K hK => ?_) AllReadyH.nil)
    rw [if_pos (by rfl)]
    go_simp
    go_at_call 10
    (with_reducible refine (KWd.out _ X7.out.low).mono ?_); rintro e w8 ⟨rfl, hb⟩
    have X8 := hid (X7.out.self hb)
    clear hb
    refine hK.out _ _ (⟨X8.out.box, X8.out.tal⟩) (fun h4x => ?_)
    clear hK K
    try simp only [Act.put, lay_out]
    refine wpAnyH_take (i := 22) (v := .bool true) rfl (by kernel_rfl) (by kernel_rfl) (by kernel_rfl) (fun _ _ _ h => h) (.inl ⟨by rfl, fun w hw => by clear hw; go_simp⟩) h4x ?_
    try simp only [Act.put, lay_out]
    refine wpAnyH_take (i := 23) (v := .bool true) rfl (by kernel_rfl) (by kernel_rfl) (by kernel_rfl) (fun _ _ _ h => h) (.inl ⟨by rfl, fun w hw => by clear hw; go_simp⟩) h4x ?_
    try simp only [Act.put, lay_out]
    refine wpAnyH_take (i := 24) (v := .bool true) rfl (by kernel_rfl) (by kernel_rfl) (by kernel_rfl) (fun _ _ _ h => h) (.inl ⟨by rfl, fun w hw => by clear hw; go_simp⟩) h4x ?_
    try simp only [Act.put, lay_out]
    refine wpAnyH_take (i := 25) (v := trV N (.slice a0 L cap0) (.slice a1 M cap1)) rfl (by kernel_rfl) (by kernel_rfl) (by kernel_rfl) (fun _ _ _ h => h) (yields_load_row (by rfl) 25 (.tmp 1) rfl W.heap.size 25 #[.int .i64 N, .slice a0 L cap0, .slice a1 M cap1] _ rfl (fun w h => h.1) Try.underlying25 rfl (by kernel_rfl)) h4x ?_
    try simp only [Act.put, lay_out]
    refine wpAnyH_take (i := 27) (v := trV N (.slice a0 L cap0) (.slice a1 M cap1)) rfl (by kernel_rfl) (by kernel_rfl) (by kernel_rfl) (fun _ _ _ h => h) (yields_load_row (by rfl) 25 (.tmp 1) rfl W.heap.size 25 #[.int .i64 N, .slice a0 L cap0, .slice a1 M cap1] _ rfl (fun w h => h.1) Try.underlying25 rfl (by kernel_rfl)) h4x ?_
    try simp only [Act.put, lay_out]
    refine wpAnyH_ready (rs := [26]) (by kernel_rfl) (by simp) (AllReadyH.cons rfl (fun K hK => ?_) AllReadyH.nil)
    rw [if_pos (by rfl)]
    go_simp
    go_at_call 12
    (with_reducible refine (KOp.out _ X8.out.low).mono ?_); rintro e w9 ⟨u, rfl, ho, hb⟩
    have HU := hid ho
    clear ho
    have X9 := hid (X8.out.self hb)
    clear hb
    refine hK.out _ _ (⟨X9.out.box, X9.out.tal⟩) (fun h5x => ?_)
    clear hK K
    try simp only [Act.put, lay_out]
    refine wpAnyH_ready (rs := [28]) (by kernel_rfl) (by simp) (AllReadyH.cons rfl (fun K hK => ?_) AllReadyH.nil)
    rw [if_pos (by rfl)]
    go_simp
    go_at_call 13
    (with_reducible refine (KRo.out _ X9.out.low).mono ?_); rintro e w10 ⟨u2, rfl, ho, hb⟩
    have HU2 := hid ho
    have HU3 := hid hb
    clear ho
    have X10 := hid (X9.out.self hb)
    clear hb
    refine hK.out _ _ (⟨X10.out.box, X10.out.tal⟩) (fun h6x => ?_)
    clear hK K
    try simp only [Act.put, lay_out]
    refine wpAnyH_ready (rs := [29]) (by kernel_rfl) (by simp) (AllReadyH.cons rfl (fun K hK => ?_) AllReadyH.nil)
    rw [if_pos (by rfl)]
    go_simp
    go_at_call 11
    (with_reducible refine (KRi.out u u2 w9 w10 w10 _ _ HU.out HU3.out HU2.out).mono ?_); rintro e w11 ⟨rfl, hb⟩
    have X11 := hid (X10.out.self hb)
    clear hb
    refine hK.out _ _ (⟨X11.out.box, X11.out.tal⟩) (fun h7x => ?_)
    clear hK K
    try simp only [Act.put, lay_out]
    refine wpAnyH_take (i := 30) (v := .bool true) rfl (by kernel_rfl) (by kernel_rfl) (by kernel_rfl) (fun _ _ _ h => h) (.inl ⟨by rfl, fun w hw => by clear hw; go_simp⟩) h7x ?_
    try simp only [Act.put, lay_out]
    refine wpAnyH_take (i := 31) (v := .bool true) rfl (by kernel_rfl) (by kernel_rfl) (by kernel_rfl) (fun _ _ _ h => h) (.inl ⟨by rfl, fun w hw => by clear hw; go_simp⟩) h7x ?_
    try simp only [Act.put, lay_out]
    refine wpAnyH_ready (rs := [32]) (by kernel_rfl) (by simp) (AllReadyH.cons rfl (fun K hK => ?_) AllReadyH.nil)
    rw [if_pos (by rfl)]
    go_simp
    go_at_call 14
    (with_reducible refine (KAw.out _ X11.out.low).mono ?_); rintro e w12 ⟨rfl, hb⟩
    have X12 := hid (X11.out.self hb)
    clear hb
    refine hK.out _ _ (⟨X12.out.box, X12.out.tal⟩) (fun h8x => ?_)
    clear hK K
    try simp only [Act.put, lay_out]
    refine wpAnyH_take (i := 33) (v := .bool true) rfl (by kernel_rfl) (by kernel_rfl) (by kernel_rfl) (fun _ _ _ h => h) (.inl ⟨by rfl, fun w hw => by clear hw; go_simp⟩) h8x ?_
    try simp only [Act.put, lay_out]
    refine wpAnyH_take (i := 34) (v := .bool true) rfl (by kernel_rfl) (by kernel_rfl) (by kernel_rfl) (fun _ _ _ h => h) (.inl ⟨by rfl, fun w hw => by clear hw; go_simp⟩) h8x ?_
    try simp only [Act.put, lay_out]
    refine wpAnyH_done (by kernel_rfl) ?_ _
    refine NoPanic.normal ?_
    clear h0 h1x h2x h3x h4x h5x h6x h7x h8x
    try simp only [Act.put, lay_out]
    go_wp2
    go_ret
    exact ⟨rfl, X12.out.low⟩
end Go.Proofs.Ythopdlcmmafcaaa
