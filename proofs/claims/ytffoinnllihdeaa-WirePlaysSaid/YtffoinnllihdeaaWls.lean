import Derived.Test.YtffoinnllihdeaaProg
import Derived.Test.YtffoinnllihdeaaWda
import Derived.Test.YtffoinnllihdeaaTrs
import Derived.Test.YtffoinnllihdeaaRwg
import Derived.Laws.StructEq
import Derived.Deep.CutRange
import Derived.Deep.CutBlock
/- Wire: traces held against each other, by the document; only such as are alike. -/
namespace Go.Proofs.Ytffoinnllihdeaa
open Go.RowKit
set_option maxRecDepth 100000
theorem fields86 : Try.prog.underlying 70 = some (.struct (Try.prog.fieldsOf 70)) := by kernel_rfl
theorem fields43 : Try.prog.underlying 43 = some (.struct (Try.prog.fieldsOf 43)) := by kernel_rfl
theorem ite_ok {b : Bool} {c : Prop} [Decidable c] {w : World} (h : b = decide c) : (if c then Result.ok true w else Result.ok false w : Result Bool) = Result.ok b w := by
  subst h
  by_cases e : c
  · rw [if_pos e, decide_eq_true e]
  · rw [if_neg e, decide_eq_false e]
theorem eqSp (x y : Sp3) (w : World) : (Op.equalIn 10000 70 (.agg (spCs x)) (.agg (spCs y))).run Try.prog w = .ok (smS x y) w := by
  rw [run_equalIn_struct w 9999 70 _ _ fields86 (by kernel_rfl)]
  simp only [Program.fieldsOf, Try.underlying70]
  go_simp
  unfold smS
  by_cases h1 : x.K = y.K
  · by_cases h2 : x.F = y.F
    · by_cases h3 : x.T = y.T
      · simp [h1, h2, h3]
      · simp [h1, h2, h3]
    · simp [h1, h2]
  · simp [h1]
theorem eqOp (x y : Op6) (w : World) : (Op.equalIn 10000 43 (.agg (opCs x)) (.agg (opCs y))).run Try.prog w = .ok (decide (x.K = y.K ∧ x.D = y.D ∧ x.A = y.A ∧ x.B = y.B ∧ x.E = y.E ∧ x.C = y.C)) w := by
  rw [run_equalIn_struct w 9999 43 _ _ fields43 (by kernel_rfl)]
  simp only [Program.fieldsOf, Try.underlying43]
  go_simp
  by_cases h1 : x.K = y.K
  · by_cases h2 : x.D = y.D
    · by_cases h3 : x.A = y.A
      · by_cases h4 : x.B = y.B
        · by_cases h5 : x.E = y.E
          · by_cases h6 : x.C = y.C
            · simp [h1, h2, h3, h4, h5, h6]
            · simp [h1, h2, h3, h4, h5, h6]; omega
          · simp [h1, h2, h3, h4, h5]
        · simp [h1, h2, h3, h4]
      · simp [h1, h2, h3]
    · simp [h1, h2]
  · simp [h1]
theorem guardSp : Try.prog.eqGuardType Try.prog.depth 70 = false := by kernel_rfl
theorem guardOp : Try.prog.eqGuardType Try.prog.depth 43 = false := by kernel_rfl
theorem exec_neSp {w : World} {o : Oper} {a : Act} (u v : Operand) (ho : o.op = .binOp .neq 70 u v 70) (x y : Sp3) (hx : a.eval u = .agg (spCs x)) (hy : a.eval v = .agg (spCs y)) :
    (execOp a.eval o).run Try.prog w = .ok (.value (.bool (!(smS x y)))) w := by
  have heq := fun w => eqSp x y w
  have hguard := guardSp
  unfold execOp
  rw [ho]
  simp only [hx, hy]
  generalize spCs x = A at *
  generalize spCs y = B at *
  generalize smS x y = q at *
  go_simp
theorem exec_neOp {w : World} {o : Oper} {a : Act} (u v : Operand) (ho : o.op = .binOp .neq 43 u v 43) (x y : Op6) (hx : a.eval u = .agg (opCs x)) (hy : a.eval v = .agg (opCs y)) :
    (execOp a.eval o).run Try.prog w = .ok (.value (.bool (!(decide (x.K = y.K ∧ x.D = y.D ∧ x.A = y.A ∧ x.B = y.B ∧ x.E = y.E ∧ x.C = y.C))))) w := by
  have heq := fun w => eqOp x y w
  have hguard := guardOp
  unfold execOp
  rw [ho]
  simp only [hx, hy]
  generalize opCs x = A at *
  generalize opCs y = B at *
  generalize decide (x.K = y.K ∧ x.D = y.D ∧ x.A = y.A ∧ x.B = y.B ∧ x.E = y.E ∧ x.C = y.C) = q at *
  go_simp
theorem step_neOp {w : World} {ops : Array Oper} {rest : List Oper} {o : Oper} {a : Act} {Q : Exit → Act → World → Prop} (hw : o.guard = none) (u v : Operand) (ho : o.op = .binOp .neq 43 u v 43) (x y : Op6) (q : Bool)
    (hx : a.eval u = .agg (opCs x)) (hy : a.eval v = .agg (opCs y)) (hq : (!(decide (x.K = y.K ∧ x.D = y.D ∧ x.A = y.A ∧ x.B = y.B ∧ x.E = y.E ∧ x.C = y.C))) = q) (k : wpList Try.prog ops Q rest (a.put o.dst (.bool q)) w) : wpList Try.prog ops Q (o :: rest) a w :=
  wpList_plain hw fun _ hK => by
    unfold Oper.wp
    rw [exec_neOp u v ho x y hx hy, hq]
    exact hK _ _ k

theorem wsp_range {w : World} {b n : Nat} {s : Sp3} (h : Sc w b n s) : w.rangeAt b n [.int .i64 s.K, .int .i64 s.F, .int .i64 s.T] := fun j v hv => by
  match j, hv with
  | 0, hv => injection hv with hv; subst hv; exact h.k
  | 1, hv => injection hv with hv; subst hv; exact h.f
  | 2, hv => injection hv with hv; subst hv; exact h.t
theorem wop_range {w : World} {b n : Nat} {o : Op6} (h : Oc w b n o) : w.rangeAt b n [.int .i64 o.K, .int .i64 o.D, .int .i64 o.A, .int .i64 o.B, .int .i64 o.E, .int .u64 (o.C : Int)] := fun j v hv => by
  match j, hv with
  | 0, hv => injection hv with hv; subst hv; exact h.k
  | 1, hv => injection hv with hv; subst hv; exact h.d
  | 2, hv => injection hv with hv; subst hv; exact h.a
  | 3, hv => injection hv with hv; subst hv; exact h.b
  | 4, hv => injection hv with hv; subst hv; exact h.e
  | 5, hv => injection hv with hv; subst hv; exact h.c
theorem below_set {B b : Nat} {w0 w : World} (h : Below B w0 w) (hb : B ≤ b) (i : Nat) (v : Value) : Below B w0 (w.setCell ⟨b, i, none⟩ v) :=
  ⟨h.os, h.tape, h.output, by have := h.size; simp [World.setCell]; omega, fun k hk => (heap_setCell_other w ⟨b, i, none⟩ k v (by show k ≠ b; omega)).trans (h.block k hk)⟩
theorem winfosp : (Try.prog.info? 70).map (·.size) = some [Value.int .i64 0, .int .i64 0, .int .i64 0].length := by kernel_rfl
theorem winfoop : (Try.prog.info? 43).map (·.size) = some [Value.int .i64 0, .int .i64 0, .int .i64 0, .int .i64 0, .int .i64 0, .int .u64 0].length := by kernel_rfl
/-- Two traces in their boxes. -/
structure Tbw (A B : Array Value) (w wr : World) : Prop where
  one : wr.heap[w.heap.size]? = some (.cells A 57 (0, 0))
  two : wr.heap[w.heap.size + 1]? = some (.cells B 57 (0, 0))
  low : Below w.heap.size w wr
theorem Tbw.start (A B : Array Value) (w : World) : Tbw A B w ((w.alloc (.cells A 57)).alloc (.cells B 57)) := by
  refine ⟨?_, ?_, ((Below.refl _ w).alloc (Nat.le_refl _) _).alloc (by simp) _⟩
  · rw [heap_alloc_old _ _ (by simp)]; exact heap_alloc_new w _
  · have := heap_alloc_new (w.alloc (.cells A 57)) (.cells B 57)
    rw [show (w.alloc (.cells A 57)).heap.size = w.heap.size + 1 by simp] at this
    exact this
theorem Tbw.self {A B : Array Value} {w wr w1 : World} (h : Tbw A B w wr) (hb : Below wr.heap.size wr w1) : Tbw A B w w1 :=
  ⟨(hb.block _ (Array.getElem?_eq_some_iff.1 h.one).1).trans h.one, (hb.block _ (Array.getElem?_eq_some_iff.1 h.two).1).trans h.two, h.low.trans (hb.mono h.low.size)⟩
theorem tbx3 {w : World} {p : Nat} {n : Int} {v0 v1 : Value} (h : w.heap[p]? = some (.cells #[.int .i64 n, v0, v1] 57 (0, 0))) : w.cell? ⟨p, 0, none⟩ = some (.int .i64 n) ∧ w.cell? ⟨p, 1, none⟩ = some v0 ∧ w.cell? ⟨p, 2, none⟩ = some v1 :=
  ⟨by rw [cell_of_row w _ 0 _ _ _ h]; rfl, by rw [cell_of_row w _ 1 _ _ _ h]; rfl, by rw [cell_of_row w _ 2 _ _ _ h]; rfl⟩
theorem wrop_ops {w : World} {a : Option Addr} {L cap : Nat} {f : Nat → Op6} (h : ROp w (.slice a L cap) L f) : ∃ b off, (0 < L → a = some ⟨b, off, none⟩) ∧ (0 < L → b < w.heap.size) ∧ ∀ i, i < L → Oc w b (off + i * 6) (f i) := by
  obtain ⟨a', cap', e, h1, h2, h3⟩ := h.at_
  injection e with e1 e2 e3
  subst e1 e3
  by_cases h0 : 0 < L
  · obtain ⟨b, off, e1, e2, e3⟩ := h3 h0
    exact ⟨b, off, fun _ => e1, fun _ => e2, e3⟩
  · exact ⟨0, 0, fun h => absurd h h0, fun h => absurd h h0, fun i hi => by omega⟩
theorem wrsp_sps {w : World} {a : Option Addr} {L cap : Nat} {g : Nat → Sp3} (h : RSp w (.slice a L cap) L g) : ∃ b off, (0 < L → a = some ⟨b, off, none⟩) ∧ (0 < L → b < w.heap.size) ∧ ∀ i, i < L → Sc w b (off + i * 3) (g i) := by
  obtain ⟨a', cap', e, h1, h2, h3⟩ := h.at_
  injection e with e1 e2 e3
  subst e1 e3
  by_cases h0 : 0 < L
  · obtain ⟨b, off, e1, e2, e3⟩ := h3 h0
    exact ⟨b, off, fun _ => e1, fun _ => e2, e3⟩
  · exact ⟨0, 0, fun h => absurd h h0, fun h => absurd h h0, fun i hi => by omega⟩
set_option maxHeartbeats 12800000 in
theorem refsame_eq (N : Int) (v0 v1 v0' v1' : Value) (L M : Nat) (f : Nat → Op6) (g : Nat → Sp3) (w : World) (h : ROp w v0 L f) (h1 : RSp w v1 M g) (h' : ROp w v0' L f) (h1' : RSp w v1' M g) :
    Calls Try.prog 41 #[.agg #[.int .i64 N, v0, v1], .agg #[.int .i64 N, v0', v1']] w fun e w' => e = .returned (.bool true) ∧ Below w.heap.size w w' := by
  obtain ⟨a, cap, rfl, _⟩ := id h.at_
  obtain ⟨a', cap', rfl, _⟩ := id h'.at_
  obtain ⟨a2, cap2, rfl, _⟩ := id h1.at_
  obtain ⟨a2', cap2', rfl, _⟩ := id h1'.at_
  have hlim := h.lim
  have hlim1 := h1.lim
  have HX := hid (Tbw.start #[.int .i64 N, .slice a L cap, .slice a2 M cap2] #[.int .i64 N, .slice a' L cap', .slice a2' M cap2'] w)
  obtain ⟨w1, hw1⟩ : ∃ w1, (w.alloc (.cells #[.int .i64 N, .slice a L cap, .slice a2 M cap2] 57)).alloc (.cells #[.int .i64 N, .slice a' L cap', .slice a2' M cap2'] 57) = w1 := ⟨_, rfl⟩
  rw [hw1] at HX
  have HW1 := hid hw1
  have HH := hid (h.self HX.out.low)
  have HH' := hid (h'.self HX.out.low)
  have HG := hid (h1.self HX.out.low)
  have HG' := hid (h1'.self HX.out.low)
  clear h h1 h' h1' hw1
  go_enter Try.func41, Try.ntmps41
  go_upto_region 1 with fail
  rw [HW1.out]
  obtain ⟨x0, x1, x2⟩ := tbx3 HX.out.one
  obtain ⟨z0, z1, z2⟩ := tbx3 HX.out.two
  go_wp2
  clear x0 x1 x2 z0 z1 z2
  go_loopw [5] (fun i wr => ∃ j : Nat, j ≤ M ∧ i = .int .i64 j ∧ Below w1.heap.size w1 wr) (fun i _ => M - (intOf i).toNat)
  case atStart => exact ⟨0, by omega, rfl, Below.refl _ _⟩
  case round =>
    obtain ⟨j, hj, rfl, hI⟩ := hrel
    have HI := hid hI
    clear hI
    obtain ⟨x0, x1, x2⟩ := tbx3 (HX.out.self HI.out).one
    obtain ⟨z0, z1, z2⟩ := tbx3 (HX.out.self HI.out).two
    by_cases hlt : j < M
    · obtain ⟨b, off, ha, hb, hs⟩ := wrsp_sps HG.out
      obtain ⟨b', off', ha', hb', hs'⟩ := wrsp_sps HG'.out
      have HS : Hid (∀ w', Below w1.heap.size w1 w' → ∀ i, i < M → Sc w' b (off + i * 3) (g i)) := hid (fun w' hw i hi => (hs i hi).self hw)
      have HS' : Hid (∀ w', Below w1.heap.size w1 w' → ∀ i, i < M → Sc w' b' (off' + i * 3) (g i)) := hid (fun w' hw i hi => (hs' i hi).self hw)
      have hae := ha (by omega)
      have hae' := ha' (by omega)
      subst hae hae'
      clear hs hs' ha ha' hb hb'
      have j1 : (0 : Int) ≤ (j : Int) := by omega
      have j2 : (j : Int) < (M : Int) := by omega
      go_wp2_with fail
      refine wp_region_noPanic ?_
      refine wp_region_held_drew (S := fun w' => Below w1.heap.size w1 w') (by kernel_rfl) (HI.out.drew) (fun h0 => ?_)
      have HI2 := hid HI.out.drew
      generalize wr.drew = y1 at *
      refine wpAnyH_take (i := 0) (v := .pointer (some ⟨w.heap.size, 2, none⟩)) rfl (by kernel_rfl) (by kernel_rfl) (by kernel_rfl) (fun _ _ _ h => h) (.inl ⟨by rfl, fun w hw => by clear hw; go_simp⟩) h0 ?_
      try simp only [Act.put, lay_out]
      refine wpAnyH_take (i := 1) (v := .slice (some ⟨b, off, none⟩) M cap2) rfl (by kernel_rfl) (by kernel_rfl) (by kernel_rfl) (fun _ _ _ h => h) (.inl ⟨by rfl, fun w' hw => by have hc := (tbx3 ((HX.out.self hw).one)).2.2; clear hw; go_simp⟩) h0 ?_
      try simp only [Act.put, lay_out]
      refine wpAnyH_take (i := 2) (v := .int .i64 (j : Int)) rfl (by kernel_rfl) (by kernel_rfl) (by kernel_rfl) (fun _ _ _ h => h) (.inl ⟨by rfl, fun w hw => by clear hw; go_simp⟩) h0 ?_
      try simp only [Act.put, lay_out]
      refine wpAnyH_take (i := 3) (v := .pointer (some ⟨b, off + j * 3, none⟩)) rfl (by kernel_rfl) (by kernel_rfl) (by kernel_rfl) (fun _ _ _ h => h) (.inl ⟨by rfl, fun w hw => by clear hw; go_simp⟩) h0 ?_
      try simp only [Act.put, lay_out]
      refine wpAnyH_take (i := 4) (v := .agg (spCs (g j))) rfl (by kernel_rfl) (by kernel_rfl) (by kernel_rfl) (fun _ _ _ h => h) (yieldsIf_load_mid (by rfl) 70 _ rfl b (off + j * 3) rfl [.int .i64 (g j).K, .int .i64 (g j).F, .int .i64 (g j).T] _ (fun w' hw => wsp_range (HS.out w' hw j hlt)) Try.underlying70 rfl winfosp) h0 ?_
      try simp only [Act.put, lay_out]
      refine wpAnyH_take (i := 5) (v := .pointer (some ⟨w.heap.size + 1, 2, none⟩)) rfl (by kernel_rfl) (by kernel_rfl) (by kernel_rfl) (fun _ _ _ h => h) (.inl ⟨by rfl, fun w hw => by clear hw; go_simp⟩) h0 ?_
      try simp only [Act.put, lay_out]
      refine wpAnyH_take (i := 6) (v := .slice (some ⟨b', off', none⟩) M cap2') rfl (by kernel_rfl) (by kernel_rfl) (by kernel_rfl) (fun _ _ _ h => h) (.inl ⟨by rfl, fun w' hw => by have hc := (tbx3 ((HX.out.self hw).two)).2.2; clear hw; go_simp⟩) h0 ?_
      try simp only [Act.put, lay_out]
      refine wpAnyH_take (i := 7) (v := .int .i64 (j : Int)) rfl (by kernel_rfl) (by kernel_rfl) (by kernel_rfl) (fun _ _ _ h => h) (.inl ⟨by rfl, fun w hw => by clear hw; go_simp⟩) h0 ?_
      try simp only [Act.put, lay_out]
      refine wpAnyH_take (i := 8) (v := .pointer (some ⟨b', off' + j * 3, none⟩)) rfl (by kernel_rfl) (by kernel_rfl) (by kernel_rfl) (fun _ _ _ h => h) (.inl ⟨by rfl, fun w hw => by clear hw; go_simp⟩) h0 ?_
      try simp only [Act.put, lay_out]
      refine wpAnyH_take (i := 9) (v := .agg (spCs (g j))) rfl (by kernel_rfl) (by kernel_rfl) (by kernel_rfl) (fun _ _ _ h => h) (yieldsIf_load_mid (by rfl) 70 _ rfl b' (off' + j * 3) rfl [.int .i64 (g j).K, .int .i64 (g j).F, .int .i64 (g j).T] _ (fun w' hw => wsp_range (HS'.out w' hw j hlt)) Try.underlying70 rfl winfosp) h0 ?_
      try simp only [Act.put, lay_out]
      refine wpAnyH_take (i := 10) (v := .bool false) rfl (by kernel_rfl) (by kernel_rfl) (by kernel_rfl) (fun _ _ _ h => h) (.inl ⟨by rfl, fun w' _ => by rw [exec_neSp _ _ rfl (g j) (g j) rfl rfl, smS_refl]; rfl⟩) h0 ?_
      try simp only [Act.put, lay_out]
      refine wpAnyH_done (by kernel_rfl) ?_ _
      refine NoPanic.normal ?_
      clear h0
      try simp only [Act.put, lay_out]
      go_wp2
      go_roundw
      case rel => exact ⟨j + 1, by omega, by go_num, HI2.out⟩
      case measure => simp [intOf]; omega
    · obtain rfl : j = M := by omega
      clear hlt hj
      go_wp2
      clear x0 x1 x2 z0 z1 z2
      go_loopw [6] (fun i wr => ∃ k : Nat, k ≤ L ∧ i = .int .i64 k ∧ Below w1.heap.size w1 wr) (fun i _ => L - (intOf i).toNat)
      case atStart => exact ⟨0, by omega, rfl, HI.out⟩
      case round =>
        clear HI
        obtain ⟨j, hj, rfl, hI⟩ := hrel
        have HI := hid hI
        clear hI
        obtain ⟨x0, x1, x2⟩ := tbx3 (HX.out.self HI.out).one
        obtain ⟨z0, z1, z2⟩ := tbx3 (HX.out.self HI.out).two
        by_cases hlt : j < L
        · obtain ⟨b, off, ha, hb, hs⟩ := wrop_ops HH.out
          obtain ⟨b', off', ha', hb', hs'⟩ := wrop_ops HH'.out
          have HO : Hid (∀ w', Below w1.heap.size w1 w' → ∀ i, i < L → Oc w' b (off + i * 6) (f i)) := hid (fun w' hw i hi => (hs i hi).self hw)
          have HO' : Hid (∀ w', Below w1.heap.size w1 w' → ∀ i, i < L → Oc w' b' (off' + i * 6) (f i)) := hid (fun w' hw i hi => (hs' i hi).self hw)
          have hae := ha (by omega)
          have hae' := ha' (by omega)
          subst hae hae'
          clear hs hs' ha ha' hb hb'
          have j1 : (0 : Int) ≤ (j : Int) := by omega
          have j2 : (j : Int) < (L : Int) := by omega
          clear x0 x1 x2 z0 z1 z2
          obtain ⟨x0, x1, x2⟩ := tbx3 (HX.out.self HI.out).one
          go_upto_region 11 with fail
          go_cut [7, 8] from 57 to 66 (fun p q wx => ∃ b7 b8, p = .pointer (some ⟨b7, 0, none⟩) ∧ q = .pointer (some ⟨b8, 0, none⟩) ∧ b7 ≠ b8 ∧ w1.heap.size ≤ b7 ∧ wx.heap[b7]? = some (.cells (opCs (f j)) 43 (0, 0)) ∧ wx.heap[b8]? = some (.cells (opCs (f j)) 43 (0, 0)) ∧ Below w1.heap.size w1 wx)
          case first =>
            refine wp_region_noPanic ?_
            refine wp_region_held_drew (S := fun w' => Below w1.heap.size w1 w') (by kernel_rfl) (HI.out.drew) (fun h0 => ?_)
            have HI2 := hid HI.out.drew
            generalize wr.drew = y1 at *
            refine wpAnyH_take (i := 0) (v := .pointer (some ⟨w.heap.size, 1, none⟩)) rfl (by kernel_rfl) (by kernel_rfl) (by kernel_rfl) (fun _ _ _ h => h) (.inl ⟨by rfl, fun w hw => by clear hw; go_simp⟩) h0 ?_
            try simp only [Act.put, lay_out]
            refine wpAnyH_take (i := 1) (v := .slice (some ⟨b, off, none⟩) L cap) rfl (by kernel_rfl) (by kernel_rfl) (by kernel_rfl) (fun _ _ _ h => h) (.inl ⟨by rfl, fun w' hw => by have hc := (tbx3 ((HX.out.self hw).one)).2.1; clear hw; go_simp⟩) h0 ?_
            try simp only [Act.put, lay_out]
            refine wpAnyH_take (i := 2) (v := .int .i64 (j : Int)) rfl (by kernel_rfl) (by kernel_rfl) (by kernel_rfl) (fun _ _ _ h => h) (.inl ⟨by rfl, fun w hw => by clear hw; go_simp⟩) h0 ?_
            try simp only [Act.put, lay_out]
            refine wpAnyH_take (i := 3) (v := .pointer (some ⟨b, off + j * 6, none⟩)) rfl (by kernel_rfl) (by kernel_rfl) (by kernel_rfl) (fun _ _ _ h => h) (.inl ⟨by rfl, fun w hw => by clear hw; go_simp⟩) h0 ?_
            try simp only [Act.put, lay_out]
            refine wpAnyH_take (i := 4) (v := .agg (opCs (f j))) rfl (by kernel_rfl) (by kernel_rfl) (by kernel_rfl) (fun _ _ _ h => h) (yieldsIf_load_mid (by rfl) 43 _ rfl b (off + j * 6) rfl [.int .i64 (f j).K, .int .i64 (f j).D, .int .i64 (f j).A, .int .i64 (f j).B, .int .i64 (f j).E, .int .u64 ((f j).C : Int)] _ (fun w' hw => wop_range (HO.out w' hw j hlt)) Try.underlying43 rfl winfoop) h0 ?_
            try simp only [Act.put, lay_out]
            refine wpAnyH_take (i := 5) (v := .pointer (some ⟨w.heap.size + 1, 1, none⟩)) rfl (by kernel_rfl) (by kernel_rfl) (by kernel_rfl) (fun _ _ _ h => h) (.inl ⟨by rfl, fun w hw => by clear hw; go_simp⟩) h0 ?_
            try simp only [Act.put, lay_out]
            refine wpAnyH_take (i := 6) (v := .slice (some ⟨b', off', none⟩) L cap') rfl (by kernel_rfl) (by kernel_rfl) (by kernel_rfl) (fun _ _ _ h => h) (.inl ⟨by rfl, fun w' hw => by have hc := (tbx3 ((HX.out.self hw).two)).2.1; clear hw; go_simp⟩) h0 ?_
            try simp only [Act.put, lay_out]
            refine wpAnyH_take (i := 7) (v := .int .i64 (j : Int)) rfl (by kernel_rfl) (by kernel_rfl) (by kernel_rfl) (fun _ _ _ h => h) (.inl ⟨by rfl, fun w hw => by clear hw; go_simp⟩) h0 ?_
            try simp only [Act.put, lay_out]
            refine wpAnyH_take (i := 8) (v := .pointer (some ⟨b', off' + j * 6, none⟩)) rfl (by kernel_rfl) (by kernel_rfl) (by kernel_rfl) (fun _ _ _ h => h) (.inl ⟨by rfl, fun w hw => by clear hw; go_simp⟩) h0 ?_
            try simp only [Act.put, lay_out]
            refine wpAnyH_take (i := 9) (v := .agg (opCs (f j))) rfl (by kernel_rfl) (by kernel_rfl) (by kernel_rfl) (fun _ _ _ h => h) (yieldsIf_load_mid (by rfl) 43 _ rfl b' (off' + j * 6) rfl [.int .i64 (f j).K, .int .i64 (f j).D, .int .i64 (f j).A, .int .i64 (f j).B, .int .i64 (f j).E, .int .u64 ((f j).C : Int)] _ (fun w' hw => wop_range (HO'.out w' hw j hlt)) Try.underlying43 rfl winfoop) h0 ?_
            try simp only [Act.put, lay_out]
            refine wpAnyH_ready (rs := [10, 11]) (by kernel_rfl) (by simp) (AllReadyH.cons rfl (fun K hK => ?_) (AllReadyH.cons rfl (fun K hK => ?_) AllReadyH.nil))
            · rw [if_pos (by rfl)]
              go_simp
              have BW1 := hid (HI2.out.alloc HI2.out.size (.cells #[.int .i64 0, .int .i64 0, .int .i64 0, .int .i64 0, .int .i64 0, .int .u64 0] 43))
              have FA2 := hid (show (y1.alloc (.cells #[.int .i64 0, .int .i64 0, .int .i64 0, .int .i64 0, .int .i64 0, .int .u64 0] 43)).heap[y1.heap.size]? = some (.cells #[.int .i64 0, .int .i64 0, .int .i64 0, .int .i64 0, .int .i64 0, .int .u64 0] 43) from by have := heap_alloc_new y1 (.cells #[.int .i64 0, .int .i64 0, .int .i64 0, .int .i64 0, .int .i64 0, .int .u64 0] 43); simpa using this)
              refine hK.out _ _ (BW1.out) (fun h1x => ?_)
              clear hK K
              try simp only [Act.put, lay_out]
              refine wpAnyH_ready (rs := [11]) (by kernel_rfl) (by simp) (AllReadyH.cons rfl (fun K hK => ?_) AllReadyH.nil)
              rw [if_pos (by rfl)]
              go_simp
              have BW3 := hid (BW1.out.alloc BW1.out.size (.cells #[.int .i64 0, .int .i64 0, .int .i64 0, .int .i64 0, .int .i64 0, .int .u64 0] 43))
              have FA4 := hid ((heap_alloc_old (y1.alloc (.cells #[.int .i64 0, .int .i64 0, .int .i64 0, .int .i64 0, .int .i64 0, .int .u64 0] 43)) (.cells #[.int .i64 0, .int .i64 0, .int .i64 0, .int .i64 0, .int .i64 0, .int .u64 0] 43) (Array.getElem?_eq_some_iff.1 FA2.out).1).trans FA2.out)
              have FA5 := hid (show ((y1.alloc (.cells #[.int .i64 0, .int .i64 0, .int .i64 0, .int .i64 0, .int .i64 0, .int .u64 0] 43)).alloc (.cells #[.int .i64 0, .int .i64 0, .int .i64 0, .int .i64 0, .int .i64 0, .int .u64 0] 43)).heap[(y1.heap.size + 1)]? = some (.cells #[.int .i64 0, .int .i64 0, .int .i64 0, .int .i64 0, .int .i64 0, .int .u64 0] 43) from by have := heap_alloc_new (y1.alloc (.cells #[.int .i64 0, .int .i64 0, .int .i64 0, .int .i64 0, .int .i64 0, .int .u64 0] 43)) (.cells #[.int .i64 0, .int .i64 0, .int .i64 0, .int .i64 0, .int .i64 0, .int .u64 0] 43); simpa using this)
              refine hK.out _ _ (BW3.out) (fun h2x => ?_)
              clear hK K
              try simp only [Act.put, lay_out]
              refine wpAnyH_ready (rs := [12]) (by kernel_rfl) (by simp) (AllReadyH.cons rfl (fun K hK => ?_) AllReadyH.nil)
              rw [if_pos (by rfl)]
              refine wp_store_row 43 _ _ rfl y1.heap.size (opCs (f j)) rfl rfl 43 _ FA4.out (by kernel_rfl) rfl (by kernel_rfl) ?_
              have BW6 := hid (below_setRow BW3.out (b := y1.heap.size) (by have := HI2.out.size; simp; try omega) (opCs (f j)))
              have FA7 := hid (setRow_heap ((y1.alloc (.cells #[.int .i64 0, .int .i64 0, .int .i64 0, .int .i64 0, .int .i64 0, .int .u64 0] 43)).alloc (.cells #[.int .i64 0, .int .i64 0, .int .i64 0, .int .i64 0, .int .i64 0, .int .u64 0] 43)) y1.heap.size _ (opCs (f j)) 43 _ FA4.out)
              have FA8 := hid ((setRow_other ((y1.alloc (.cells #[.int .i64 0, .int .i64 0, .int .i64 0, .int .i64 0, .int .i64 0, .int .u64 0] 43)).alloc (.cells #[.int .i64 0, .int .i64 0, .int .i64 0, .int .i64 0, .int .i64 0, .int .u64 0] 43)) y1.heap.size (y1.heap.size + 1) (opCs (f j)) (by simp)).trans FA5.out)
              refine hK.out _ _ (BW6.out) (fun h3x => ?_)
              clear hK K
              try simp only [Act.put, lay_out]
              refine wpAnyH_ready (rs := [13]) (by kernel_rfl) (by simp) (AllReadyH.cons rfl (fun K hK => ?_) AllReadyH.nil)
              rw [if_pos (by rfl)]
              refine wp_store_row 43 _ _ rfl (y1.heap.size + 1) (opCs (f j)) rfl rfl 43 _ FA8.out (by kernel_rfl) rfl (by kernel_rfl) ?_
              have BW9 := hid (below_setRow BW6.out (b := (y1.heap.size + 1)) (by have := HI2.out.size; simp; try omega) (opCs (f j)))
              have FA10 := hid ((setRow_other (((y1.alloc (.cells #[.int .i64 0, .int .i64 0, .int .i64 0, .int .i64 0, .int .i64 0, .int .u64 0] 43)).alloc (.cells #[.int .i64 0, .int .i64 0, .int .i64 0, .int .i64 0, .int .i64 0, .int .u64 0] 43)).setRow y1.heap.size (opCs (f j))) (y1.heap.size + 1) y1.heap.size (opCs (f j)) (by simp)).trans FA7.out)
              have FA11 := hid (setRow_heap (((y1.alloc (.cells #[.int .i64 0, .int .i64 0, .int .i64 0, .int .i64 0, .int .i64 0, .int .u64 0] 43)).alloc (.cells #[.int .i64 0, .int .i64 0, .int .i64 0, .int .i64 0, .int .i64 0, .int .u64 0] 43)).setRow y1.heap.size (opCs (f j))) (y1.heap.size + 1) _ (opCs (f j)) 43 _ FA8.out)
              refine hK.out _ _ (BW9.out) (fun h4x => ?_)
              clear hK K
              try simp only [Act.put, lay_out]
              refine wpAnyH_done (by kernel_rfl) ?_ _
              refine NoPanic.normal ?_
              clear h0 h1x h2x h3x h4x
              try simp only [Act.put, lay_out]
              go_wp2_with fail
              go_meet
              exact ⟨_, _, rfl, rfl, by simp, by have := HI2.out.size; omega, FA10.out, FA11.out, BW9.out⟩
            · rw [if_pos (by rfl)]
              go_simp
              have BW12 := hid (HI2.out.alloc HI2.out.size (.cells #[.int .i64 0, .int .i64 0, .int .i64 0, .int .i64 0, .int .i64 0, .int .u64 0] 43))
              have FA13 := hid (show (y1.alloc (.cells #[.int .i64 0, .int .i64 0, .int .i64 0, .int .i64 0, .int .i64 0, .int .u64 0] 43)).heap[y1.heap.size]? = some (.cells #[.int .i64 0, .int .i64 0, .int .i64 0, .int .i64 0, .int .i64 0, .int .u64 0] 43) from by have := heap_alloc_new y1 (.cells #[.int .i64 0, .int .i64 0, .int .i64 0, .int .i64 0, .int .i64 0, .int .u64 0] 43); simpa using this)
              refine hK.out _ _ (BW12.out) (fun h1x => ?_)
              clear hK K
              try simp only [Act.put, lay_out]
              refine wpAnyH_ready (rs := [10]) (by kernel_rfl) (by simp) (AllReadyH.cons rfl (fun K hK => ?_) AllReadyH.nil)
              rw [if_pos (by rfl)]
              go_simp
              have BW14 := hid (BW12.out.alloc BW12.out.size (.cells #[.int .i64 0, .int .i64 0, .int .i64 0, .int .i64 0, .int .i64 0, .int .u64 0] 43))
              have FA15 := hid ((heap_alloc_old (y1.alloc (.cells #[.int .i64 0, .int .i64 0, .int .i64 0, .int .i64 0, .int .i64 0, .int .u64 0] 43)) (.cells #[.int .i64 0, .int .i64 0, .int .i64 0, .int .i64 0, .int .i64 0, .int .u64 0] 43) (Array.getElem?_eq_some_iff.1 FA13.out).1).trans FA13.out)
              have FA16 := hid (show ((y1.alloc (.cells #[.int .i64 0, .int .i64 0, .int .i64 0, .int .i64 0, .int .i64 0, .int .u64 0] 43)).alloc (.cells #[.int .i64 0, .int .i64 0, .int .i64 0, .int .i64 0, .int .i64 0, .int .u64 0] 43)).heap[(y1.heap.size + 1)]? = some (.cells #[.int .i64 0, .int .i64 0, .int .i64 0, .int .i64 0, .int .i64 0, .int .u64 0] 43) from by have := heap_alloc_new (y1.alloc (.cells #[.int .i64 0, .int .i64 0, .int .i64 0, .int .i64 0, .int .i64 0, .int .u64 0] 43)) (.cells #[.int .i64 0, .int .i64 0, .int .i64 0, .int .i64 0, .int .i64 0, .int .u64 0] 43); simpa using this)
              refine hK.out _ _ (BW14.out) (fun h2x => ?_)
              clear hK K
              try simp only [Act.put, lay_out]
              refine wpAnyH_ready (rs := [12]) (by kernel_rfl) (by simp) (AllReadyH.cons rfl (fun K hK => ?_) AllReadyH.nil)
              rw [if_pos (by rfl)]
              refine wp_store_row 43 _ _ rfl (y1.heap.size + 1) (opCs (f j)) rfl rfl 43 _ FA16.out (by kernel_rfl) rfl (by kernel_rfl) ?_
              have BW17 := hid (below_setRow BW14.out (b := (y1.heap.size + 1)) (by have := HI2.out.size; simp; try omega) (opCs (f j)))
              have FA18 := hid ((setRow_other ((y1.alloc (.cells #[.int .i64 0, .int .i64 0, .int .i64 0, .int .i64 0, .int .i64 0, .int .u64 0] 43)).alloc (.cells #[.int .i64 0, .int .i64 0, .int .i64 0, .int .i64 0, .int .i64 0, .int .u64 0] 43)) (y1.heap.size + 1) y1.heap.size (opCs (f j)) (by simp)).trans FA15.out)
              have FA19 := hid (setRow_heap ((y1.alloc (.cells #[.int .i64 0, .int .i64 0, .int .i64 0, .int .i64 0, .int .i64 0, .int .u64 0] 43)).alloc (.cells #[.int .i64 0, .int .i64 0, .int .i64 0, .int .i64 0, .int .i64 0, .int .u64 0] 43)) (y1.heap.size + 1) _ (opCs (f j)) 43 _ FA16.out)
              refine hK.out _ _ (BW17.out) (fun h3x => ?_)
              clear hK K
              try simp only [Act.put, lay_out]
              refine wpAnyH_ready (rs := [13]) (by kernel_rfl) (by simp) (AllReadyH.cons rfl (fun K hK => ?_) AllReadyH.nil)
              rw [if_pos (by rfl)]
              refine wp_store_row 43 _ _ rfl y1.heap.size (opCs (f j)) rfl rfl 43 _ FA18.out (by kernel_rfl) rfl (by kernel_rfl) ?_
              have BW20 := hid (below_setRow BW17.out (b := y1.heap.size) (by have := HI2.out.size; simp; try omega) (opCs (f j)))
              have FA21 := hid (setRow_heap (((y1.alloc (.cells #[.int .i64 0, .int .i64 0, .int .i64 0, .int .i64 0, .int .i64 0, .int .u64 0] 43)).alloc (.cells #[.int .i64 0, .int .i64 0, .int .i64 0, .int .i64 0, .int .i64 0, .int .u64 0] 43)).setRow (y1.heap.size + 1) (opCs (f j))) y1.heap.size _ (opCs (f j)) 43 _ FA18.out)
              have FA22 := hid ((setRow_other (((y1.alloc (.cells #[.int .i64 0, .int .i64 0, .int .i64 0, .int .i64 0, .int .i64 0, .int .u64 0] 43)).alloc (.cells #[.int .i64 0, .int .i64 0, .int .i64 0, .int .i64 0, .int .i64 0, .int .u64 0] 43)).setRow (y1.heap.size + 1) (opCs (f j))) y1.heap.size (y1.heap.size + 1) (opCs (f j)) (by simp)).trans FA19.out)
              refine hK.out _ _ (BW20.out) (fun h4x => ?_)
              clear hK K
              try simp only [Act.put, lay_out]
              refine wpAnyH_done (by kernel_rfl) ?_ _
              refine NoPanic.normal ?_
              clear h0 h1x h2x h3x h4x
              try simp only [Act.put, lay_out]
              go_wp2_with fail
              go_meet
              exact ⟨_, _, rfl, rfl, by simp, by have := HI2.out.size; omega, FA22.out, FA21.out, BW20.out⟩
          case rest =>
            obtain ⟨b7, b8, rfl, rfl, hne, hlo, h7, h8, hlow⟩ := hcut
            have HLO := hid hlo
            have HI3 := hid hlow
            have HN1 := hid hne
            have p0 := cell_of_row wc b7 0 _ _ _ h7
            have p1 := cell_of_row wc b7 1 _ _ _ h7
            have p2 := cell_of_row wc b7 2 _ _ _ h7
            have p3 := cell_of_row wc b7 3 _ _ _ h7
            have p4 := cell_of_row wc b7 4 _ _ _ h7
            have p5 := cell_of_row wc b7 5 _ _ _ h7
            have q0 := cell_of_row wc b8 0 _ _ _ h8
            have q1 := cell_of_row wc b8 1 _ _ _ h8
            have q2 := cell_of_row wc b8 2 _ _ _ h8
            have q3 := cell_of_row wc b8 3 _ _ _ h8
            have q4 := cell_of_row wc b8 4 _ _ _ h8
            have q5 := cell_of_row wc b8 5 _ _ _ h8
            have fz := frozen_of_row wc b7 5 _ _ h7
            clear hlow hlo h7 h8 HI x0 x1 x2
            generalize f j = o at *
            obtain ⟨K, D, A, B, E, C⟩ := o
            simp only [opCs] at p0 p1 p2 p3 p4 p5 q0 q1 q2 q3 q4 q5
            by_cases h4 : K = 4
            · subst h4
              have HI4 := hid (below_set HI3.out HLO.out 5 (.int .u64 (C : Int)))
              go_wp2
              go_roundw
              case rel => exact ⟨j + 1, by omega, by go_num, HI4.out⟩
              case measure => simp [intOf]; omega
            · have e4 : (K == 4) = false := by simp [h4]
              go_wp2
              go_roundw
              case rel => exact ⟨j + 1, by omega, by go_num, HI3.out⟩
              case measure => simp [intOf]; omega
        · obtain rfl : j = L := by omega
          go_wp2
          go_ret
          exact ⟨rfl, HX.out.low.trans (HI.out.mono HX.out.low.size)⟩
end Go.Proofs.Ytffoinnllihdeaa
