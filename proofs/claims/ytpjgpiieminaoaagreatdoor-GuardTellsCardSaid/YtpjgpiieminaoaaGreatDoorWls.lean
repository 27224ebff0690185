import Derived.Test.YtpjgpiieminaoaaGreatDoorProg
import Derived.Test.YtpjgpiieminaoaaGreatDoorWda
import Derived.Test.YtpjgpiieminaoaaGreatDoorAcw
import Derived.Laws.StructEq
import Derived.Deep.CutRange
import Derived.Deep.CutBlock
import Derived.Test.YtpjgpiieminaoaaGreatDoorGen
import Derived.Laws.Rows
import Derived.Laws.Tables
import Derived.ChangeKeysEq
import Derived.Deep.WholeRow
import Derived.Test.YtpjgpiieminaoaaGreatDoorTrb
import Derived.Test.YtpjgpiieminaoaaGreatDoorOrw
/- Wire: traces held against each other, by the document; only such as are alike. -/
namespace Go.Proofs.YtpjgpiieminaoaaGreatDoor
open Go.RowKit
set_option maxRecDepth 100000
theorem fields86 : Tryz.prog.underlying 102 = some (.struct (Tryz.prog.fieldsOf 102)) := by kernel_rfl
theorem eqSp (x y : Sp3) (w : World) : (Op.equalIn 10000 102 (.agg (spCs x)) (.agg (spCs y))).run Tryz.prog w = .ok (smS x y) w := by
  rw [run_equalIn_struct w 9999 102 _ _ fields86 (by kernel_rfl)]
  simp only [Program.fieldsOf, Tryz.underlying102]
  go_simp
  unfold smS
  by_cases h1 : x.K = y.K
  · by_cases h2 : x.F = y.F
    · by_cases h3 : x.T = y.T
      · simp [h1, h2, h3]
      · simp [h1, h2, h3]
    · simp [h1, h2]
  · simp [h1]
theorem guardSp : Tryz.prog.eqGuardType Tryz.prog.depth 102 = false := by kernel_rfl
theorem exec_neSp {w : World} {o : Oper} {a : Act} (u v : Operand) (ho : o.op = .binOp .neq 102 u v 102) (x y : Sp3) (hx : a.eval u = .agg (spCs x)) (hy : a.eval v = .agg (spCs y)) :
    (execOp a.eval o).run Tryz.prog w = .ok (.value (.bool (!(smS x y)))) w := by
  have heq := fun w => eqSp x y w
  have hguard := guardSp
  unfold execOp
  rw [ho]
  simp only [hx, hy]
  generalize spCs x = A at *
  generalize spCs y = B at *
  generalize smS x y = q at *
  go_simp
theorem wsp_range {w : World} {b n : Nat} {s : Sp3} (h : Sc w b n s) : w.rangeAt b n [.int .i64 s.K, .int .i64 s.F, .int .i64 s.T] := fun j v hv => by
  match j, hv with
  | 0, hv => injection hv with hv; subst hv; exact h.k
  | 1, hv => injection hv with hv; subst hv; exact h.f
  | 2, hv => injection hv with hv; subst hv; exact h.t
theorem wop_range {w : World} {b n : Nat} {o : Op6} (h : Oc w b n o) : w.rangeAt b n [.int .i64 o.K, .int .i64 o.D, .int .i64 o.A, .int .i64 o.B, .int .i64 o.E, .int .u64 (o.C : Int)] := fun j v hv => by
  match j, hv with
  | 0, hv => injection hv with hv; subst hv; exact h.k
  | 1, hv => injection hv with hv; subst hv; exact h.d
  | 2, hv => injection hv with hv; subst hv; exact h.a
  | 3, hv => injection hv with hv; subst hv; exact h.b
  | 4, hv => injection hv with hv; subst hv; exact h.e
  | 5, hv => injection hv with hv; subst hv; exact h.c
theorem below_set {B b : Nat} {w0 w : World} (h : Below B w0 w) (hb : B ≤ b) (i : Nat) (v : Value) : Below B w0 (w.setCell ⟨b, i, none⟩ v) :=
  ⟨h.os, h.tape, h.output, by have := h.size; simp [World.setCell]; omega, fun k hk => (heap_setCell_other w ⟨b, i, none⟩ k v (by show k ≠ b; omega)).trans (h.block k hk)⟩
theorem winfosp : (Tryz.prog.info? 102).map (·.size) = some [Value.int .i64 0, .int .i64 0, .int .i64 0].length := by kernel_rfl
theorem winfoop : (Tryz.prog.info? 66).map (·.size) = some [Value.int .i64 0, .int .i64 0, .int .i64 0, .int .i64 0, .int .i64 0, .int .u64 0].length := by kernel_rfl
/-- Two traces in their boxes. -/
structure Tbw (A B : Array Value) (w wr : World) : Prop where
  one : wr.heap[w.heap.size]? = some (.cells A 90 (0, 0))
  two : wr.heap[w.heap.size + 1]? = some (.cells B 90 (0, 0))
  low : Below w.heap.size w wr
theorem Tbw.start (A B : Array Value) (w : World) : Tbw A B w ((w.alloc (.cells A 90)).alloc (.cells B 90)) := by
  refine ⟨?_, ?_, ((Below.refl _ w).alloc (Nat.le_refl _) _).alloc (by simp) _⟩
  · rw [heap_alloc_old _ _ (by simp)]; exact heap_alloc_new w _
  · have := heap_alloc_new (w.alloc (.cells A 90)) (.cells B 90)
    rw [show (w.alloc (.cells A 90)).heap.size = w.heap.size + 1 by simp] at this
    exact this
theorem Tbw.self {A B : Array Value} {w wr w1 : World} (h : Tbw A B w wr) (hb : Below wr.heap.size wr w1) : Tbw A B w w1 :=
  ⟨(hb.block _ (Array.getElem?_eq_some_iff.1 h.one).1).trans h.one, (hb.block _ (Array.getElem?_eq_some_iff.1 h.two).1).trans h.two, h.low.trans (hb.mono h.low.size)⟩
theorem tbx3 {w : World} {p : Nat} {n : Int} {v0 v1 : Value} (h : w.heap[p]? = some (.cells #[.int .i64 n, v0, v1] 90 (0, 0))) : w.cell? ⟨p, 0, none⟩ = some (.int .i64 n) ∧ w.cell? ⟨p, 1, none⟩ = some v0 ∧ w.cell? ⟨p, 2, none⟩ = some v1 :=
  ⟨by rw [cell_of_row w _ 0 _ _ _ h]; rfl, by rw [cell_of_row w _ 1 _ _ _ h]; rfl, by rw [cell_of_row w _ 2 _ _ _ h]; rfl⟩
theorem wrop_ops {w : World} {a : Option Addr} {L cap : Nat} {f : Nat → Op6} (h : ROp w (.slice a L cap) L f) : ∃ b off, (0 < L → a = some ⟨b, off, none⟩) ∧ (0 < L → b < w.heap.size) ∧ ∀ i, i < L → Oc w b (off + i * 6) (f i) := by
  obtain ⟨a', cap', e, h1, h2, h3⟩ := h.at_
  injection e with e1 e2 e3
  subst e1 e3
  by_cases h0 : 0 < L
  · obtain ⟨b, off, e1, e2, e3⟩ := h3 h0
    exact ⟨b, off, fun _ => e1, fun _ => e2, e3⟩
  · exact ⟨0, 0, fun h => absurd h h0, fun h => absurd h h0, fun i hi => by omega⟩
theorem wrsp_sps {w : World} {a : Option Addr} {L cap : Nat} {g : Nat → Sp3} (h : RSp w (.slice a L cap) L g) : ∃ b off, (0 < L → a = some ⟨b, off, none⟩) ∧ (0 < L → b < w.heap.size) ∧ ∀ i, i < L → Sc w b (off + i * 3) (g i) := by
  obtain ⟨a', cap', e, h1, h2, h3⟩ := h.at_
  injection e with e1 e2 e3
  subst e1 e3
  by_cases h0 : 0 < L
  · obtain ⟨b, off, e1, e2, e3⟩ := h3 h0
    exact ⟨b, off, fun _ => e1, fun _ => e2, e3⟩
  · exact ⟨0, 0, fun h => absurd h h0, fun h => absurd h h0, fun i hi => by omega⟩
set_option maxHeartbeats 12800000 in
theorem refsame_eq (N : Int) (v0 v1 v0' v1' : Value) (L M : Nat) (f : Nat → Op6) (g : Nat → Sp3) (w : World) (h : ROp w v0 L f) (h1 : RSp w v1 M g) (h' : ROp w v0' L f) (h1' : RSp w v1' M g) :
    Calls Tryz.prog 44 #[.agg #[.int .i64 N, v0, v1], .agg #[.int .i64 N, v0', v1']] w fun e w' => e = .returned (.bool true) ∧ Below w.heap.size w w' := by
  obtain ⟨a, cap, rfl, _⟩ := id h.at_
  obtain ⟨a', cap', rfl, _⟩ := id h'.at_
  obtain ⟨a2, cap2, rfl, _⟩ := id h1.at_
  obtain ⟨a2', cap2', rfl, _⟩ := id h1'.at_
  have hlim := h.lim
  have hlim1 := h1.lim
  have HX := hid (Tbw.start #[.int .i64 N, .slice a L cap, .slice a2 M cap2] #[.int .i64 N, .slice a' L cap', .slice a2' M cap2'] w)
  obtain ⟨w1, hw1⟩ : ∃ w1, (w.alloc (.cells #[.int .i64 N, .slice a L cap, .slice a2 M cap2] 90)).alloc (.cells #[.int .i64 N, .slice a' L cap', .slice a2' M cap2'] 90) = w1 := ⟨_, rfl⟩
  rw [hw1] at HX
  have HW1 := hid hw1
  have HH := hid (h.self HX.out.low)
  have HH' := hid (h'.self HX.out.low)
  have HG := hid (h1.self HX.out.low)
  have HG' := hid (h1'.self HX.out.low)
  clear h h1 h' h1' hw1
  go_enter Tryz.func44, Tryz.ntmps44
  go_upto_region 1 with fail
  rw [HW1.out]
  obtain ⟨x0, x1, x2⟩ := tbx3 HX.out.one
  obtain ⟨z0, z1, z2⟩ := tbx3 HX.out.two
  go_wp2
  clear x0 x1 x2 z0 z1 z2
  go_loopw [5] (fun i wr => ∃ j : Nat, j ≤ M ∧ i = .int .i64 j ∧ Below w1.heap.size w1 wr) (fun i _ => M - (intOf i).toNat)
  case atStart => exact ⟨0, by omega, rfl, Below.refl _ _⟩
  case round =>
    obtain ⟨j, hj, rfl, hI⟩ := hrel
    have HI := hid hI
    clear hI
    obtain ⟨x0, x1, x2⟩ := tbx3 (HX.out.self HI.out).one
    obtain ⟨z0, z1, z2⟩ := tbx3 (HX.out.self HI.out).two
    by_cases hlt : j < M
    · obtain ⟨b, off, ha, hb, hs⟩ := wrsp_sps HG.out
      obtain ⟨b', off', ha', hb', hs'⟩ := wrsp_sps HG'.out
      have HS : Hid (∀ w', Below w1.heap.size w1 w' → ∀ i, i < M → Sc w' b (off + i * 3) (g i)) := hid (fun w' hw i hi => (hs i hi).self hw)
      have HS' : Hid (∀ w', Below w1.heap.size w1 w' → ∀ i, i < M → Sc w' b' (off' + i * 3) (g i)) := hid (fun w' hw i hi => (hs' i hi).self hw)
      have hae := ha (by omega)
      have hae' := ha' (by omega)
      subst hae hae'
      clear hs hs' ha ha' hb hb'
      have j1 : (0 : Int) ≤ (j : Int) := by omega
      have j2 : (j : Int) < (M : Int) := by omega
      go_wp2_with fail
      refine wp_region_noPanic ?_
      refine wp_region_held_drew (S := fun w' => Below w1.heap.size w1 w') (by kernel_rfl) (HI.out.drew) (fun h0 => ?_)
      have HI2 := hid HI.out.drew
      generalize wr.drew = y1 at *
      refine wpAnyH_take (i := 0) (v := .pointer (some ⟨w.heap.size, 2, none⟩)) rfl (by kernel_rfl) (by kernel_rfl) (by kernel_rfl) (fun _ _ _ h => h) (.inl ⟨by rfl, fun w hw => by clear hw; go_simp⟩) h0 ?_
      try simp only [Act.put, lay_out]
      refine wpAnyH_take (i := 1) (v := .slice (some ⟨b, off, none⟩) M cap2) rfl (by kernel_rfl) (by kernel_rfl) (by kernel_rfl) (fun _ _ _ h => h) (.inl ⟨by rfl, fun w' hw => by have hc := (tbx3 ((HX.out.self hw).one)).2.2; clear hw; go_simp⟩) h0 ?_
      try simp only [Act.put, lay_out]
      refine wpAnyH_take (i := 2) (v := .int .i64 (j : Int)) rfl (by kernel_rfl) (by kernel_rfl) (by kernel_rfl) (fun _ _ _ h => h) (.inl ⟨by rfl, fun w hw => by clear hw; go_simp⟩) h0 ?_
      try simp only [Act.put, lay_out]
      refine wpAnyH_take (i := 3) (v := .pointer (some ⟨b, off + j * 3, none⟩)) rfl (by kernel_rfl) (by kernel_rfl) (by kernel_rfl) (fun _ _ _ h => h) (.inl ⟨by rfl, fun w hw => by clear hw; go_simp⟩) h0 ?_
      try simp only [Act.put, lay_out]
      refine wpAnyH_take (i := 4) (v := .agg (spCs (g j))) rfl (by kernel_rfl) (by kernel_rfl) (by kernel_rfl) (fun _ _ _ h => h) (yieldsIf_load_mid (by rfl) 102 _ rfl b (off + j * 3) rfl [.int .i64 (g j).K, .int .i64 (g j).F, .int .i64 (g j).T] _ (fun w' hw => wsp_range (HS.out w' hw j hlt)) Tryz.underlying102 rfl winfosp) h0 ?_
      try simp only [Act.put, lay_out]
      refine wpAnyH_take (i := 5) (v := .pointer (some ⟨w.heap.size + 1, 2, none⟩)) rfl (by kernel_rfl) (by kernel_rfl) (by kernel_rfl) (fun _ _ _ h => h) (.inl ⟨by rfl, fun w hw => by clear hw; go_simp⟩) h0 ?_
      try simp only [Act.put, lay_out]
      refine wpAnyH_take (i := 6) (v := .slice (some ⟨b', off', none⟩) M cap2') rfl (by kernel_rfl) (by kernel_rfl) (by kernel_rfl) (fun _ _ _ h => h) (.inl ⟨by rfl, fun w' hw => by have hc := (tbx3 ((HX.out.self hw).two)).2.2; clear hw; go_simp⟩) h0 ?_
      try simp only [Act.put, lay_out]
      refine wpAnyH_take (i := 7) (v := .int .i64 (j : Int)) rfl (by kernel_rfl) (by kernel_rfl) (by kernel_rfl) (fun _ _ _ h => h) (.inl ⟨by rfl, fun w hw => by clear hw; go_simp⟩) h0 ?_
      try simp only [Act.put, lay_out]
      refine wpAnyH_take (i := 8) (v := .pointer (some ⟨b', off' + j * 3, none⟩)) rfl (by kernel_rfl) (by kernel_rfl) (by kernel_rfl) (fun _ _ _ h => h) (.inl ⟨by rfl, fun w hw => by clear hw; go_simp⟩) h0 ?_
      try simp only [Act.put, lay_out]
      refine wpAnyH_take (i := 9) (v := .agg (spCs (g j))) rfl (by kernel_rfl) (by kernel_rfl) (by kernel_rfl) (fun _ _ _ h => h) (yieldsIf_load_mid (by rfl) 102 _ rfl b' (off' + j * 3) rfl [.int .i64 (g j).K, .int .i64 (g j).F, .int .i64 (g j).T] _ (fun w' hw => wsp_range (HS'.out w' hw j hlt)) Tryz.underlying102 rfl winfosp) h0 ?_
      try simp only [Act.put, lay_out]
      refine wpAnyH_take (i := 10) (v := .bool false) rfl (by kernel_rfl) (by kernel_rfl) (by kernel_rfl) (fun _ _ _ h => h) (.inl ⟨by rfl, fun w' _ => by rw [exec_neSp _ _ rfl (g j) (g j) rfl rfl, smS_refl]; rfl⟩) h0 ?_
      try simp only [Act.put, lay_out]
      refine wpAnyH_done (by kernel_rfl) ?_ _
      refine NoPanic.normal ?_
      clear h0
      try simp only [Act.put, lay_out]
      go_wp2
      go_roundw
      case rel => exact ⟨j + 1, by omega, by go_num, HI2.out⟩
      case measure => simp [intOf]; omega
    · obtain rfl : j = M := by omega
      clear hlt hj
      go_wp2
      clear x0 x1 x2 z0 z1 z2
      go_loopw [6] (fun i wr => ∃ k : Nat, k ≤ L ∧ i = .int .i64 k ∧ Below w1.heap.size w1 wr) (fun i _ => L - (intOf i).toNat)
      case atStart => exact ⟨0, by omega, rfl, HI.out⟩
      case round =>
        clear HI
        obtain ⟨j, hj, rfl, hI⟩ := hrel
        have HI := hid hI
        clear hI
        obtain ⟨x0, x1, x2⟩ := tbx3 (HX.out.self HI.out).one
        obtain ⟨z0, z1, z2⟩ := tbx3 (HX.out.self HI.out).two
        by_cases hlt : j < L
        · obtain ⟨b, off, ha, hb, hs⟩ := wrop_ops HH.out
          obtain ⟨b', off', ha', hb', hs'⟩ := wrop_ops HH'.out
          have HO : Hid (∀ w', Below w1.heap.size w1 w' → ∀ i, i < L → Oc w' b (off + i * 6) (f i)) := hid (fun w' hw i hi => (hs i hi).self hw)
          have HO' : Hid (∀ w', Below w1.heap.size w1 w' → ∀ i, i < L → Oc w' b' (off' + i * 6) (f i)) := hid (fun w' hw i hi => (hs' i hi).self hw)
          have hae := ha (by omega)
          have hae' := ha' (by omega)
          subst hae hae'
          clear hs hs' ha ha' hb hb'
          have j1 : (0 : Int) ≤ (j : Int) := by omega
          have j2 : (j : Int) < (L : Int) := by omega
          clear x0 x1 x2 z0 z1 z2
          obtain ⟨x0, x1, x2⟩ := tbx3 (HX.out.self HI.out).one
          go_upto_region 11 with fail
          go_cut [7, 8] from 57 to 66 (fun p q wx => ∃ b7 b8, p = .pointer (some ⟨b7, 0, none⟩) ∧ q = .pointer (some ⟨b8, 0, none⟩) ∧ b7 ≠ b8 ∧ w1.heap.size ≤ b7 ∧ wx.heap[b7]? = some (.cells (opCs (f j)) 66 (0, 0)) ∧ wx.heap[b8]? = some (.cells (opCs (f j)) 66 (0, 0)) ∧ Below w1.heap.size w1 wx)
          case first =>
            refine wp_region_noPanic ?_
            refine wp_region_held_drew (S := fun w' => Below w1.heap.size w1 w') (by kernel_rfl) (HI.out.drew) (fun h0 => ?_)
            have HI2 := hid HI.out.drew
            generalize wr.drew = y1 at *
            refine wpAnyH_take (i := 0) (v := .pointer (some ⟨w.heap.size, 1, none⟩)) rfl (by kernel_rfl) (by kernel_rfl) (by kernel_rfl) (fun _ _ _ h => h) (.inl ⟨by rfl, fun w hw => by clear hw; go_simp⟩) h0 ?_
            try simp only [Act.put, lay_out]
            refine wpAnyH_take (i := 1) (v := .slice (some ⟨b, off, none⟩) L cap) rfl (by kernel_rfl) (by kernel_rfl) (by kernel_rfl) (fun _ _ _ h => h) (.inl ⟨by rfl, fun w' hw => by have hc := (tbx3 ((HX.out.self hw).one)).2.1; clear hw; go_simp⟩) h0 ?_
            try simp only [Act.put, lay_out]
            refine wpAnyH_take (i := 2) (v := .int .i64 (j : Int)) rfl (by kernel_rfl) (by kernel_rfl) (by kernel_rfl) (fun _ _ _ h => h) (.inl ⟨by rfl, fun w hw => by clear hw; go_simp⟩) h0 ?_
            try simp only [Act.put, lay_out]
            refine wpAnyH_take (i := 3) (v := .pointer (some ⟨b, off + j * 6, none⟩)) rfl (by kernel_rfl) (by kernel_rfl) (by kernel_rfl) (fun _ _ _ h => h) (.inl ⟨by rfl, fun w hw => by clear hw; go_simp⟩) h0 ?_
            try simp only [Act.put, lay_out]
            refine wpAnyH_take (i := 4) (v := .agg (opCs (f j))) rfl (by kernel_rfl) (by kernel_rfl) (by kernel_rfl) (fun _ _ _ h => h) (yieldsIf_load_mid (by rfl) 66 _ rfl b (off + j * 6) rfl [.int .i64 (f j).K, .int .i64 (f j).D, .int .i64 (f j).A, .int .i64 (f j).B, .int .i64 (f j).E, .int .u64 ((f j).C : Int)] _ (fun w' hw => wop_range (HO.out w' hw j hlt)) Tryz.underlying66 rfl winfoop) h0 ?_
            try simp only [Act.put, lay_out]
            refine wpAnyH_take (i := 5) (v := .pointer (some ⟨w.heap.size + 1, 1, none⟩)) rfl (by kernel_rfl) (by kernel_rfl) (by kernel_rfl) (fun _ _ _ h => h) (.inl ⟨by rfl, fun w hw => by clear hw; go_simp⟩) h0 ?_
            try simp only [Act.put, lay_out]
            refine wpAnyH_take (i := 6) (v := .slice (some ⟨b', off', none⟩) L cap') rfl (by kernel_rfl) (by kernel_rfl) (by kernel_rfl) (fun _ _ _ h => h) (.inl ⟨by rfl, fun w' hw => by have hc := (tbx3 ((HX.out.self hw).two)).2.1; clear hw; go_simp⟩) h0 ?_
            try simp only [Act.put, lay_out]
            refine wpAnyH_take (i := 7) (v := .int .i64 (j : Int)) rfl (by kernel_rfl) (by kernel_rfl) (by kernel_rfl) (fun _ _ _ h => h) (.inl ⟨by rfl, fun w hw => by clear hw; go_simp⟩) h0 ?_
            try simp only [Act.put, lay_out]
            refine wpAnyH_take (i := 8) (v := .pointer (some ⟨b', off' + j * 6, none⟩)) rfl (by kernel_rfl) (by kernel_rfl) (by kernel_rfl) (fun _ _ _ h => h) (.inl ⟨by rfl, fun w hw => by clear hw; go_simp⟩) h0 ?_
            try simp only [Act.put, lay_out]
            refine wpAnyH_take (i := 9) (v := .agg (opCs (f j))) rfl (by kernel_rfl) (by kernel_rfl) (by kernel_rfl) (fun _ _ _ h => h) (yieldsIf_load_mid (by rfl) 66 _ rfl b' (off' + j * 6) rfl [.int .i64 (f j).K, .int .i64 (f j).D, .int .i64 (f j).A, .int .i64 (f j).B, .int .i64 (f j).E, .int .u64 ((f j).C : Int)] _ (fun w' hw => wop_range (HO'.out w' hw j hlt)) Tryz.underlying66 rfl winfoop) h0 ?_
            try simp only [Act.put, lay_out]
            refine wpAnyH_ready (rs := [10, 11]) (by kernel_rfl) (by simp) (AllReadyH.cons rfl (fun K hK => ?_) (AllReadyH.cons rfl (fun K hK => ?_) AllReadyH.nil))
            · rw [if_pos (by rfl)]
              go_simp
              have BW1 := hid (HI2.out.alloc HI2.out.size (.cells #[.int .i64 0, .int .i64 0, .int .i64 0, .int .i64 0, .int .i64 0, .int .u64 0] 66))
              have FA2 := hid (show (y1.alloc (.cells #[.int .i64 0, .int .i64 0, .int .i64 0, .int .i64 0, .int .i64 0, .int .u64 0] 66)).heap[y1.heap.size]? = some (.cells #[.int .i64 0, .int .i64 0, .int .i64 0, .int .i64 0, .int .i64 0, .int .u64 0] 66) from by have := heap_alloc_new y1 (.cells #[.int .i64 0, .int .i64 0, .int .i64 0, .int .i64 0, .int .i64 0, .int .u64 0] 66); simpa using this)
              refine hK.out _ _ (BW1.out) (fun h1x => ?_)
              clear hK K
              try simp only [Act.put, lay_out]
              refine wpAnyH_ready (rs := [11]) (by kernel_rfl) (by simp) (AllReadyH.cons rfl (fun K hK => ?_) AllReadyH.nil)
              rw [if_pos (by rfl)]
              go_simp
              have BW3 := hid (BW1.out.alloc BW1.out.size (.cells #[.int .i64 0, .int .i64 0, .int .i64 0, .int .i64 0, .int .i64 0, .int .u64 0] 66))
              have FA4 := hid ((heap_alloc_old (y1.alloc (.cells #[.int .i64 0, .int .i64 0, .int .i64 0, .int .i64 0, .int .i64 0, .int .u64 0] 66)) (.cells #[.int .i64 0, .int .i64 0, .int .i64 0, .int .i64 0, .int .i64 0, .int .u64 0] 66) (Array.getElem?_eq_some_iff.1 FA2.out).1).trans FA2.out)
              have FA5 := hid (show ((y1.alloc (.cells #[.int .i64 0, .int .i64 0, .int .i64 0, .int .i64 0, .int .i64 0, .int .u64 0] 66)).alloc (.cells #[.int .i64 0, .int .i64 0, .int .i64 0, .int .i64 0, .int .i64 0, .int .u64 0] 66)).heap[(y1.heap.size + 1)]? = some (.cells #[.int .i64 0, .int .i64 0, .int .i64 0, .int .i64 0, .int .i64 0, .int .u64 0] 66) from by have := heap_alloc_new (y1.alloc (.cells #[.int .i64 0, .int .i64 0, .int .i64 0, .int .i64 0, .int .i64 0, .int .u64 0] 66)) (.cells #[.int .i64 0, .int .i64 0, .int .i64 0, .int .i64 0, .int .i64 0, .int .u64 0] 66); simpa using this)
              refine hK.out _ _ (BW3.out) (fun h2x => ?_)
              clear hK K
              try simp only [Act.put, lay_out]
              refine wpAnyH_ready (rs := [12]) (by kernel_rfl) (by simp) (AllReadyH.cons rfl (fun K hK => ?_) AllReadyH.nil)
              rw [if_pos (by rfl)]
              refine wp_store_row 66 _ _ rfl y1.heap.size (opCs (f j)) rfl rfl 66 _ FA4.out (by kernel_rfl) rfl (by kernel_rfl) ?_
              have BW6 := hid (below_setRow BW3.out (b := y1.heap.size) (by have := HI2.out.size; simp; try omega) (opCs (f j)))
              have FA7 := hid (setRow_heap ((y1.alloc (.cells #[.int .i64 0, .int .i64 0, .int .i64 0, .int .i64 0, .int .i64 0, .int .u64 0] 66)).alloc (.cells #[.int .i64 0, .int .i64 0, .int .i64 0, .int .i64 0, .int .i64 0, .int .u64 0] 66)) y1.heap.size _ (opCs (f j)) 66 _ FA4.out)
              have FA8 := hid ((setRow_other ((y1.alloc (.cells #[.int .i64 0, .int .i64 0, .int .i64 0, .int .i64 0, .int .i64 0, .int .u64 0] 66)).alloc (.cells #[.int .i64 0, .int .i64 0, .int .i64 0, .int .i64 0, .int .i64 0, .int .u64 0] 66)) y1.heap.size (y1.heap.size + 1) (opCs (f j)) (by simp)).trans FA5.out)
              refine hK.out _ _ (BW6.out) (fun h3x => ?_)
              clear hK K
              try simp only [Act.put, lay_out]
              refine wpAnyH_ready (rs := [13]) (by kernel_rfl) (by simp) (AllReadyH.cons rfl (fun K hK => ?_) AllReadyH.nil)
              rw [if_pos (by rfl)]
              refine wp_store_row 66 _ _ rfl (y1.heap.size + 1) (opCs (f j)) rfl rfl 66 _ FA8.out (by kernel_rfl) rfl (by kernel_rfl) ?_
              have BW9 := hid (below_setRow BW6.out (b := (y1.heap.size + 1)) (by have := HI2.out.size; simp; try omega) (opCs (f j)))
              have FA10 := hid ((setRow_other (((y1.alloc (.cells #[.int .i64 0, .int .i64 0, .int .i64 0, .int .i64 0, .int .i64 0, .int .u64 0] 66)).alloc (.cells #[.int .i64 0, .int .i64 0, .int .i64 0, .int .i64 0, .int .i64 0, .int .u64 0] 66)).setRow y1.heap.size (opCs (f j))) (y1.heap.size + 1) y1.heap.size (opCs (f j)) (by simp)).trans FA7.out)
              have FA11 := hid (setRow_heap (((y1.alloc (.cells #[.int .i64 0, .int .i64 0, .int .i64 0, .int .i64 0, .int .i64 0, .int .u64 0] 66)).alloc (.cells #[.int .i64 0, .int .i64 0, .int .i64 0, .int .i64 0, .int .i64 0, .int .u64 0] 66)).setRow y1.heap.size (opCs (f j))) (y1.heap.size + 1) _ (opCs (f j)) 66 _ FA8.out)
              refine hK.out _ _ (BW9.out) (fun h4x => ?_)
              clear hK K
              try simp only [Act.put, lay_out]
              refine wpAnyH_done (by kernel_rfl) ?_ _
              refine NoPanic.normal ?_
              clear h0 h1x h2x h3x h4x
              try simp only [Act.put, lay_out]
              go_wp2_with fail
              go_meet
              exact ⟨_, _, rfl, rfl, by simp, by have := HI2.out.size; omega, FA10.out, FA11.out, BW9.out⟩
            · rw [if_pos (by rfl)]
              go_simp
              have BW12 := hid (HI2.out.alloc HI2.out.size (.cells #[.int .i64 0, .int .i64 0, .int .i64 0, .int .i64 0, .int .i64 0, .int .u64 0] 66))
              have FA13 := hid (show (y1.alloc (.cells #[.int .i64 0, .int .i64 0, .int .i64 0, .int .i64 0, .int .i64 0, .int .u64 0] 66)).heap[y1.heap.size]? = some (.cells #[.int .i64 0, .int .i64 0, .int .i64 0, .int .i64 0, .int .i64 0, .int .u64 0] 66) from by have := heap_alloc_new y1 (.cells #[.int .i64 0, .int .i64 0, .int .i64 0, .int .i64 0, .int .i64 0, .int .u64 0] 66); simpa using this)
              refine hK.out _ _ (BW12.out) (fun h1x => ?_)
              clear hK K
              try simp only [Act.put, lay_out]
              refine wpAnyH_ready (rs := [10]) (by kernel_rfl) (by simp) (AllReadyH.cons rfl (fun K hK => ?_) AllReadyH.nil)
              rw [if_pos (by rfl)]
              go_simp
              have BW14 := hid (BW12.out.alloc BW12.out.size (.cells #[.int .i64 0, .int .i64 0, .int .i64 0, .int .i64 0, .int .i64 0, .int .u64 0] 66))
              have FA15 := hid ((heap_alloc_old (y1.alloc (.cells #[.int .i64 0, .int .i64 0, .int .i64 0, .int .i64 0, .int .i64 0, .int .u64 0] 66)) (.cells #[.int .i64 0, .int .i64 0, .int .i64 0, .int .i64 0, .int .i64 0, .int .u64 0] 66) (Array.getElem?_eq_some_iff.1 FA13.out).1).trans FA13.out)
              have FA16 := hid (show ((y1.alloc (.cells #[.int .i64 0, .int .i64 0, .int .i64 0, .int .i64 0, .int .i64 0, .int .u64 0] 66)).alloc (.cells #[.int .i64 0, .int .i64 0, .int .i64 0, .int .i64 0, .int .i64 0, .int .u64 0] 66)).heap[(y1.heap.size + 1)]? = some (.cells #[.int .i64 0, .int .i64 0, .int .i64 0, .int .i64 0, .int .i64 0, .int .u64 0] 66) from by have := heap_alloc_new (y1.alloc (.cells #[.int .i64 0, .int .i64 0, .int .i64 0, .int .i64 0, .int .i64 0, .int .u64 0] 66)) (.cells #[.int .i64 0, .int .i64 0, .int .i64 0, .int .i64 0, .int .i64 0, .int .u64 0] 66); simpa using this)
              refine hK.out _ _ (BW14.out) (fun h2x => ?_)
              clear hK K
              try simp only [Act.put, lay_out]
              refine wpAnyH_ready (rs := [12]) (by kernel_rfl) (by simp) (AllReadyH.cons rfl (fun K hK => ?_) AllReadyH.nil)
              rw [if_pos (by rfl)]
              refine wp_store_row 66 _ _ rfl (y1.heap.size + 1) (opCs (f j)) rfl rfl 66 _ FA16.out (by kernel_rfl) rfl (by kernel_rfl) ?_
              have BW17 := hid (below_setRow BW14.out (b := (y1.heap.size + 1)) (by have := HI2.out.size; simp; try omega) (opCs (f j)))
              have FA18 := hid ((setRow_other ((y1.alloc (.cells #[.int .i64 0, .int .i64 0, .int .i64 0, .int .i64 0, .int .i64 0, .int .u64 0] 66)).alloc (.cells #[.int .i64 0, .int .i64 0, .int .i64 0, .int .i64 0, .int .i64 0, .int .u64 0] 66)) (y1.heap.size + 1) y1.heap.size (opCs (f j)) (by simp)).trans FA15.out)
              have FA19 := hid (setRow_heap ((y1.alloc (.cells #[.int .i64 0, .int .i64 0, .int .i64 0, .int .i64 0, .int .i64 0, .int .u64 0] 66)).alloc (.cells #[.int .i64 0, .int .i64 0, .int .i64 0, .int .i64 0, .int .i64 0, .int .u64 0] 66)) (y1.heap.size + 1) _ (opCs (f j)) 66 _ FA16.out)
              refine hK.out _ _ (BW17.out) (fun h3x => ?_)
              clear hK K
              try simp only [Act.put, lay_out]
              refine wpAnyH_ready (rs := [13]) (by kernel_rfl) (by simp) (AllReadyH.cons rfl (fun K hK => ?_) AllReadyH.nil)
              rw [if_pos (by rfl)]
              refine wp_store_row 66 _ _ rfl y1.heap.size (opCs (f j)) rfl rfl 66 _ FA18.out (by kernel_rfl) rfl (by kernel_rfl) ?_
              have BW20 := hid (below_setRow BW17.out (b := y1.heap.size) (by have := HI2.out.size; simp; try omega) (opCs (f j)))
              have FA21 := hid (setRow_heap (((y1.alloc (.cells #[.int .i64 0, .int .i64 0, .int .i64 0, .int .i64 0, .int .i64 0, .int .u64 0] 66)).alloc (.cells #[.int .i64 0, .int .i64 0, .int .i64 0, .int .i64 0, .int .i64 0, .int .u64 0] 66)).setRow (y1.heap.size + 1) (opCs (f j))) y1.heap.size _ (opCs (f j)) 66 _ FA18.out)
              have FA22 := hid ((setRow_other (((y1.alloc (.cells #[.int .i64 0, .int .i64 0, .int .i64 0, .int .i64 0, .int .i64 0, .int .u64 0] 66)).alloc (.cells #[.int .i64 0, .int .i64 0, .int .i64 0, .int .i64 0, .int .i64 0, .int .u64 0] 66)).setRow (y1.heap.size + 1) (opCs (f j))) y1.heap.size (y1.heap.size + 1) (opCs (f j)) (by simp)).trans FA19.out)
              refine hK.out _ _ (BW20.out) (fun h4x => ?_)
              clear hK K
              try simp only [Act.put, lay_out]
              refine wpAnyH_done (by kernel_rfl) ?_ _
              refine NoPanic.normal ?_
              clear h0 h1x h2x h3x h4x
              try simp only [Act.put, lay_out]
              go_wp2_with fail
              go_meet
              exact ⟨_, _, rfl, rfl, by simp, by have := HI2.out.size; omega, FA22.out, FA21.out, BW20.out⟩
          case rest =>
            obtain ⟨b7, b8, rfl, rfl, hne, hlo, h7, h8, hlow⟩ := hcut
            have HLO := hid hlo
            have HI3 := hid hlow
            have HN1 := hid hne
            have p0 := cell_of_row wc b7 0 _ _ _ h7
            have p1 := cell_of_row wc b7 1 _ _ _ h7
            have p2 := cell_of_row wc b7 2 _ _ _ h7
            have p3 := cell_of_row wc b7 3 _ _ _ h7
            have p4 := cell_of_row wc b7 4 _ _ _ h7
            have p5 := cell_of_row wc b7 5 _ _ _ h7
            have q0 := cell_of_row wc b8 0 _ _ _ h8
            have q1 := cell_of_row wc b8 1 _ _ _ h8
            have q2 := cell_of_row wc b8 2 _ _ _ h8
            have q3 := cell_of_row wc b8 3 _ _ _ h8
            have q4 := cell_of_row wc b8 4 _ _ _ h8
            have q5 := cell_of_row wc b8 5 _ _ _ h8
            have fz := frozen_of_row wc b7 5 _ _ h7
            clear hlow hlo h7 h8 HI x0 x1 x2
            generalize f j = o at *
            obtain ⟨K, D, A, B, E, C⟩ := o
            simp only [opCs] at p0 p1 p2 p3 p4 p5 q0 q1 q2 q3 q4 q5
            by_cases h4 : K = 4
            · subst h4
              have HI4 := hid (below_set HI3.out HLO.out 5 (.int .u64 (C : Int)))
              go_wp2
              go_roundw
              case rel => exact ⟨j + 1, by omega, by go_num, HI4.out⟩
              case measure => simp [intOf]; omega
            · have e4 : (K == 4) = false := by simp [h4]
              go_wp2
              go_roundw
              case rel => exact ⟨j + 1, by omega, by go_num, HI3.out⟩
              case measure => simp [intOf]; omega
        · obtain rfl : j = L := by omega
          go_wp2
          go_ret
          exact ⟨rfl, HX.out.low.trans (HI.out.mono HX.out.low.size)⟩
end Go.Proofs.YtpjgpiieminaoaaGreatDoor

/- Wire: is a machine as the document's is? -/
namespace Go.Proofs.YtpjgpiieminaoaaGreatDoor
open Go.RowKit
set_option maxRecDepth 100000
theorem orw_rd {w : World} {B : Nat} {v : Value} {f : Nat → Nat} {L : Nat} (h : Orw w B 22 1 v L (fun i => [.int .u64 (f i : Int)])) (hL : L ≤ 1000000) (hf : ∀ i, i < L → f i < 2 ^ 64) : Rd .u64 w v (wdL f L) := by
  obtain ⟨a, cap, rfl, h1, h2, h3, h4⟩ := h.slice
  refine ⟨a, cap, by rw [wdL_len], by rw [wdL_len]; show L * 8 ≤ _; omega, fun z hz => ?_, fun h0 => ?_⟩
  · unfold wdL at hz
    obtain ⟨i, hi, rfl⟩ := List.mem_map.1 hz
    exact WalkArith.wf_u64 (by have := hf i (List.mem_range.1 hi); omega)
  · rw [wdL_len] at h0 ⊢
    obtain ⟨g, rfl⟩ := h4 h0
    refine ⟨g, 0, rfl, (Orw.lt h g rfl).2, fun j hj => ?_⟩
    have := Orw.cell h (fun _ => rfl) hj (by decide : 0 < 1) (u := .int .u64 (f j : Int)) rfl
    rw [wdL_nth f hj]
    simpa using this
theorem orw_rop {w : World} {B : Nat} {v : Value} {f : Nat → Op6} {L : Nat} (h : Orw w B 66 6 v L (fun i => (opCs (f i)).toList)) (hL : L ≤ 1000000) (hf : ∀ i, i < L → opwf (f i)) : ROp w v L f := by
  obtain ⟨a, cap, rfl, h1, h2, h3, h4⟩ := h.slice
  refine ⟨by omega, hf, a, cap, rfl, h1, h2, fun h0 => ?_⟩
  obtain ⟨g, rfl⟩ := h4 h0
  refine ⟨g, 0, rfl, (Orw.lt h g rfl).2, fun i hi => ?_⟩
  have hc : ∀ j u, j < 6 → (opCs (f i)).toList[j]? = some u → w.cell? ⟨g, 0 + i * 6 + j, none⟩ = some u := fun j u hj hu => by
    rw [Nat.zero_add]; exact Orw.cell h (fun _ => rfl) hi hj hu
  exact ⟨hc 0 _ (by decide) rfl, hc 1 _ (by decide) rfl, hc 2 _ (by decide) rfl, hc 3 _ (by decide) rfl, hc 4 _ (by decide) rfl, hc 5 _ (by decide) rfl⟩
theorem orw_rsp {w : World} {B : Nat} {v : Value} {f : Nat → Sp3} {L : Nat} (h : Orw w B 102 3 v L (fun i => (spCs (f i)).toList)) (hL : L ≤ 1000000) (hf : ∀ i, i < L → spwf (f i)) : RSp w v L f := by
  obtain ⟨a, cap, rfl, h1, h2, h3, h4⟩ := h.slice
  refine ⟨by omega, hf, a, cap, rfl, h1, h2, fun h0 => ?_⟩
  obtain ⟨g, rfl⟩ := h4 h0
  refine ⟨g, 0, rfl, (Orw.lt h g rfl).2, fun i hi => ?_⟩
  have hc : ∀ j u, j < 3 → (spCs (f i)).toList[j]? = some u → w.cell? ⟨g, 0 + i * 3 + j, none⟩ = some u := fun j u hj hu => by
    rw [Nat.zero_add]; exact Orw.cell h (fun _ => rfl) hi hj hu
  exact ⟨hc 0 _ (by decide) rfl, hc 1 _ (by decide) rfl, hc 2 _ (by decide) rfl⟩
section
variable {Pm : World → Nat → Ms → (Nat → Prop) → Prop} (hM : Mach Pm) {lo : Nat} {X : Nat → Prop} {W w : World} {p b k : Nat} {S S2 : Ms}
include hM
theorem zn (h : Bz Pm lo X W w p b S S2) (hq : Bq k S) (hk : k ≤ 1000000) : Calls Tryz.prog 60 #[.pointer (some ⟨p, 0, none⟩)] w fun e w' => e = .returned (.int .i64 S.n) ∧ Below w.heap.size w w' := by
  obtain ⟨F, G, ov, bv, vv, tv, h1, h2, h3, h4, h5, h6, h7⟩ := h
  exact hM.n p k S F w h1 hq hk
theorem zerr (h : Bz Pm lo X W w p b S S2) (hq : Bq k S) (hk : k ≤ 1000000) : Calls Tryz.prog 43 #[.pointer (some ⟨p, 0, none⟩)] w fun e w' => e = .returned (.int .i64 (S.e : Nat)) ∧ Below w.heap.size w w' := by
  obtain ⟨F, G, ov, bv, vv, tv, h1, h2, h3, h4, h5, h6, h7⟩ := h
  exact hM.err p k S F w h1 hq hk
theorem ztrace (h : Bz Pm lo X W w p b S S2) (hq : Bq k S) (hk : k ≤ 1000000) : Calls Tryz.prog 45 #[.pointer (some ⟨p, 0, none⟩)] w fun e w' => ∃ v0 v1, e = .returned (.agg #[.int .i64 S.n, v0, v1]) ∧ ROp w' v0 (S.keep S.L) S.f ∧ RSp w' v1 (S.keep S.M) S.g ∧ Below w.heap.size w w' := by
  obtain ⟨F, G, ov, bv, vv, tv, h1, h2, h3, h4, h5, h6, h7⟩ := h
  exact hM.trace p k S F w h1 hq hk
theorem zvalues (h : Bz Pm lo X W w p b S S2) (hq : Bq k S) (hk : k ≤ 1000000) : Calls Tryz.prog 42 #[.pointer (some ⟨p, 0, none⟩)] w fun e w' => ∃ v, e = .returned v ∧ Rd .u64 w' v (wdL S.v (S.keep S.L)) ∧ Below w.heap.size w w' := by
  obtain ⟨F, G, ov, bv, vv, tv, h1, h2, h3, h4, h5, h6, h7⟩ := h
  exact hM.values p k S F w h1 hq hk
omit hM
theorem ytrace (h : Bz Pm lo X W w p b S2 S) (hq : Bq k S) (hk : k ≤ 100000) : Calls Tryz.prog 46 #[.pointer (some ⟨b, 0, none⟩)] w fun e w' => ∃ v0 v1, e = .returned (.agg #[.int .i64 S.n, v0, v1]) ∧ ROp w' v0 S.L S.f ∧ RSp w' v1 S.M S.g ∧ Below w.heap.size w w' := by
  obtain ⟨F, G, ov, bv, vv, tv, h1, h2, h3, h4, h5, h6, h7⟩ := h
  have hl := hq.len
  unfold Ms.len at hl
  exact (dtrace_any ⟨lo, G⟩ b S ov bv vv tv w h2).mono fun e w' hr => ⟨ov, bv, hr.1, (orw_rop h2.ops (by omega) hq.ops).self hr.2, (orw_rsp h2.bls (by have := hq.M; omega) hq.sps).self hr.2, hr.2⟩
theorem Bz.vv (h : Bz Pm lo X W w p b S2 S) (hq : Bq k S) (hk : k ≤ 100000) : ∃ a cap, w.cell? ⟨b, 10, none⟩ = some (.slice a S.L cap) ∧ Rd .u64 w (.slice a S.L cap) (wdL S.v S.L) := by
  obtain ⟨F, G, ov, bv, vv, tv, h1, h2, h3, h4, h5, h6, h7⟩ := h
  have hl := hq.len
  unfold Ms.len at hl
  obtain ⟨a, cap, rfl, _⟩ := h2.vals
  exact ⟨a, cap, h2.c_vv, orw_rd h2.val (by omega) hq.v⟩
theorem Bz.c0 (h : Bz Pm lo X W w p b S2 S) : w.cell? ⟨b, 0, none⟩ = some (.int .i64 S.n) ∧ w.cell? ⟨b, 3, none⟩ = some (.int .i64 (S.draws : Int)) ∧ w.cell? ⟨b, 7, none⟩ = some (.int .i64 (S.e : Int)) ∧ w.cell? ⟨b, 14, none⟩ = some (.bool S.dry) := by
  obtain ⟨F, G, ov, bv, vv, tv, h1, h2, h3, h4, h5, h6, h7⟩ := h
  exact ⟨h2.c_n, h2.c_draws, h2.c_e, h2.c_dry⟩
end
end Go.Proofs.YtpjgpiieminaoaaGreatDoor

/- General: words as shares, as numbers: registers that are made share by share. No program is named. -/
namespace Go.Proofs.YtpjgpiieminaoaaGreatDoor

def updI (W : Nat → Int) (j : Nat) (z : Int) : Nat → Int := fun i => if i = j then z else W i
theorem updI_at (W : Nat → Int) (j : Nat) (z : Int) : updI W j z j = z := by simp [updI]
theorem updI_no (W : Nat → Int) {j i : Nat} (z : Int) (h : i ≠ j) : updI W j z i = W i := by simp [updI, h]
/-- A number that an int holds. -/
def I64 (z : Int) : Prop := -9223372036854775808 ≤ z ∧ z ≤ 9223372036854775807
def Wb (W : Nat → Int) : Prop := ∀ i, I64 (W i)
theorem I64.m1 : I64 (-1) := by unfold I64; omega
theorem Wb.upd {W : Nat → Int} (h : Wb W) {j : Nat} {z : Int} (hz : I64 z) : Wb (updI W j z) := fun i => by
  by_cases e : i = j
  · subst e; rw [updI_at]; exact hz
  · rw [updI_no _ _ e]; exact h i
theorem doR_bd {k : Nat} {S : Ms} (h : Bq k S) (hk : k ≤ 1000000) (o : Op6) : I64 (S.doR o) := by
  have := h.len
  unfold Ms.doR I64
  split <;> omega
/-- The machine behind m ops, op (lo) .. op (lo + m - 1), without outside words. -/
def eaS (S : Ms) (op : Nat → Op6) (lo : Nat) : Nat → Ms
  | 0 => S
  | m + 1 => (eaS S op lo m).doS (op (lo + m)) 0
/-- The registers that they make. -/
def eaR (S : Ms) (op : Nat → Op6) (lo : Nat) (W : Nat → Int) : Nat → Nat → Int
  | 0 => W
  | m + 1 => updI (eaR S op lo W m) (lo + m) ((eaS S op lo m).doR (op (lo + m)))
theorem eaS_bq {k : Nat} {S : Ms} (h : Bq k S) {op : Nat → Op6} (lo : Nat) : ∀ m, (∀ j, j < m → opwf (op (lo + j))) → Bq (k + m) (eaS S op lo m)
  | 0, _ => h
  | m + 1, ho => (eaS_bq h lo m (fun j hj => ho j (by omega))).does (ho m (by omega)) (by decide)
theorem eaS_n (S : Ms) (op : Nat → Op6) (lo : Nat) : ∀ m, (eaS S op lo m).n = S.n
  | 0 => rfl
  | m + 1 => by rw [eaS, doS_n, eaS_n S op lo m]
theorem eaR_wb {k : Nat} {S : Ms} (h : Bq k S) {op : Nat → Op6} (lo : Nat) {W : Nat → Int} (hW : Wb W) : ∀ m, (∀ j, j < m → opwf (op (lo + j))) → k + m ≤ 1000000 → Wb (eaR S op lo W m)
  | 0, _, _ => hW
  | m + 1, ho, hk => (eaR_wb h lo hW m (fun j hj => ho j (by omega)) (by omega)).upd (doR_bd (eaS_bq h lo m (fun j hj => ho j (by omega))) (by omega) _)
/-- How many shares. -/
def Ms.sh (S : Ms) : Nat := S.n.toNat
def none3 : Nat → Int := fun _ => -1
theorem none3_wb : Wb none3 := fun _ => I64.m1
/-! ### the gadgets of words -/
def opCst (K : Int) (c : Nat) (i : Nat) : Op6 := if i = 0 then ⟨K, 0, -1, -1, -1, c⟩ else ⟨3, (i : Int), -1, -1, -1, 0⟩
def opOne (K : Int) (A : Nat → Int) (c : Nat) (i : Nat) : Op6 := ⟨K, (i : Int), A i, -1, -1, c⟩
def cstS (S : Ms) (K : Int) (c : Nat) : Ms := eaS S (opCst K c) 0 S.sh
def cstR (S : Ms) (K : Int) (c : Nat) : Nat → Int := eaR S (opCst K c) 0 none3 S.sh
def oneS (S : Ms) (K : Int) (A : Nat → Int) (c : Nat) : Ms := eaS S (opOne K A c) 0 S.sh
def oneR (S : Ms) (K : Int) (A : Nat → Int) (c : Nat) : Nat → Int := eaR S (opOne K A c) 0 none3 S.sh
def opAd1 (K : Int) (c : Nat) : Op6 := ⟨K, 0, -1, -1, -1, c⟩
theorem i64c (z : Int) (h : 0 ≤ z) (h2 : z ≤ 1000) : -9223372036854775808 ≤ z ∧ z ≤ 9223372036854775807 := by omega
theorem opCst_wf {K : Int} (hK : I64 K) {c i : Nat} (hc : c < 2 ^ 64) (hi : i ≤ 100) : opwf (opCst K c i) := by
  unfold opCst
  split
  · exact ⟨hK, i64c 0 (by decide) (by decide), I64.m1, I64.m1, I64.m1, by show c < _; omega⟩
  · exact ⟨i64c 3 (by decide) (by decide), by show _ ≤ (i : Int) ∧ (i : Int) ≤ _; omega, I64.m1, I64.m1, I64.m1, by show 0 < _; omega⟩
theorem opOne_wf {K : Int} (hK : I64 K) {A : Nat → Int} (hA : Wb A) {c i : Nat} (hc : c < 2 ^ 64) (hi : i ≤ 100) : opwf (opOne K A c i) := ⟨hK, by show _ ≤ (i : Int) ∧ (i : Int) ≤ _; omega, hA i, I64.m1, I64.m1, by show c < _; omega⟩
theorem opAd1_wf {K : Int} (hK : I64 K) {c : Nat} (hc : c < 2 ^ 64) : opwf (opAd1 K c) := ⟨hK, i64c 0 (by decide) (by decide), I64.m1, I64.m1, I64.m1, by show c < _; omega⟩
end Go.Proofs.YtpjgpiieminaoaaGreatDoor

/- Share: words, by the document: boxes beside two machines. -/
namespace Go.Proofs.YtpjgpiieminaoaaGreatDoor
open Go.RowKit
set_option maxRecDepth 100000
abbrev wdV (W : Nat → Int) : Array Value := #[.int .i64 (W 0), .int .i64 (W 1), .int .i64 (W 2)]
theorem wdV_upd (W : Nat → Int) (j : Nat) (z : Int) (hj : j < 3) : (wdV W).setIfInBounds j (.int .i64 z) = wdV (updI W j z) := by
  rcases (by omega : j = 0 ∨ j = 1 ∨ j = 2) with rfl | rfl | rfl <;> simp [wdV, updI]
theorem wdV_at (W : Nat → Int) (j : Nat) (hj : j < 3) : (wdV W)[j]? = some (.int .i64 (W j)) := by
  rcases (by omega : j = 0 ∨ j = 1 ∨ j = 2) with rfl | rfl | rfl <;> rfl
/-- Both machines, and boxes of words (new since w0) beside them; X0: what is left alone. -/
structure Gz (Pm : World → Nat → Ms → (Nat → Prop) → Prop) (lo : Nat) (X0 : Nat → Prop) (W w0 wx : World) (p b : Nat) (S1 S2 : Ms) (bs : List (Nat × Array Value)) : Prop where
  z : Bz Pm lo (fun k => X0 k ∨ ∃ q ∈ bs, q.1 = k) W wx p b S1 S2
  bx : ∀ q ∈ bs, w0.heap.size ≤ q.1 ∧ wx.heap[q.1]? = some (.cells q.2 37 (0, 0))
  st : ∀ k, X0 k → k < w0.heap.size ∧ wx.heap[k]? = w0.heap[k]?
  lo : lo ≤ w0.heap.size
section
variable {Pm : World → Nat → Ms → (Nat → Prop) → Prop} {lo : Nat} {X0 : Nat → Prop} {W w0 wx wy : World} {p b : Nat} {S1 S2 S1' S2' : Ms} {bs : List (Nat × Array Value)}
theorem Gz.start (h : Bz Pm lo X0 W w0 p b S1 S2) : Gz Pm lo X0 W w0 w0 p b S1 S2 [] := by
  have hX : ∀ k, X0 k → k < w0.heap.size := by
    obtain ⟨F, G, ov, bv, vv, tv, h1, h2, h3, h4, h5, h6, h7⟩ := h
    exact fun k hk => (h4 k hk).1
  refine ⟨h.less (fun k hk => ?_), fun q hq => (List.not_mem_nil hq).elim, fun k hk => ⟨hX k hk, rfl⟩, h.los⟩
  rcases hk with e | ⟨q, hq, _⟩
  · exact e
  · exact (List.not_mem_nil hq).elim
theorem Gz.self (hM : Mach Pm) (h : Gz Pm lo X0 W w0 wx p b S1 S2 bs) (hb : Below wx.heap.size wx wy) : Gz Pm lo X0 W w0 wy p b S1 S2 bs :=
  ⟨h.z.self hM hb, fun q hq => ⟨(h.bx q hq).1, (hb.block _ (Array.getElem?_eq_some_iff.1 (h.bx q hq).2).1).trans (h.bx q hq).2⟩, fun k hk => ⟨(h.st k hk).1, (hb.block k (by
    obtain ⟨F, G, ov, bv, vv, tv, h1, h2, h3, h4, h5, h6, h7⟩ := h.z
    exact (h4 k (.inl hk)).1)).trans (h.st k hk).2⟩, h.lo⟩
/-- One box more. -/
theorem Gz.box (hM : Mach Pm) (h : Gz Pm lo X0 W w0 wx p b S1 S2 bs) (hs : w0.heap.size ≤ wx.heap.size) (cs : Array Value) : Gz Pm lo X0 W w0 (wx.alloc (.cells cs 37)) p b S1 S2 ((wx.heap.size, cs) :: bs) := by
  have hb := (Below.refl wx.heap.size wx).alloc (Nat.le_refl _) (.cells cs 37)
  have h' := h.self hM hb
  refine ⟨(h.z.more hM hb).less (fun k hk => ?_), fun q hq => ?_, h'.st, h.lo⟩
  · rcases hk with e | ⟨q, hq, rfl⟩
    · exact .inl (.inl e)
    · rcases List.mem_cons.1 hq with rfl | hq
      · exact .inr ⟨Nat.le_refl _, by simp⟩
      · exact .inl (.inr ⟨q, hq, rfl⟩)
  · rcases List.mem_cons.1 hq with rfl | hq
    · exact ⟨hs, heap_alloc_new _ _⟩
    · exact h'.bx q hq
/-- A machine goes on. -/
theorem Gz.on {p' : Nat} (h : Gz Pm lo X0 W w0 wx p b S1 S2 bs) (hz : Bz Pm lo (fun k => X0 k ∨ ∃ q ∈ bs, q.1 = k) W wy p' b S1' S2') (hs : ∀ k, (X0 k ∨ ∃ q ∈ bs, q.1 = k) → wy.heap[k]? = wx.heap[k]?) : Gz Pm lo X0 W w0 wy p' b S1' S2' bs :=
  ⟨hz, fun q hq => ⟨(h.bx q hq).1, (hs _ (.inr ⟨q, hq, rfl⟩)).trans (h.bx q hq).2⟩, fun k hk => ⟨(h.st k hk).1, (hs k (.inl hk)).trans (h.st k hk).2⟩, h.lo⟩
/-- The first box is turned. -/
theorem Gz.cell (hM : Mach Pm) {n : Nat} {cs : Array Value} (h : Gz Pm lo X0 W w0 wx p b S1 S2 ((n, cs) :: bs)) (hn : ∀ q ∈ bs, q.1 ≠ n) (i : Nat) (v : Value) : Gz Pm lo X0 W w0 (wx.setCell ⟨n, i, none⟩ v) p b S1 S2 ((n, cs.setIfInBounds i v) :: bs) := by
  have hnb := h.bx (n, cs) (List.mem_cons_self ..)
  have hT : Tch (fun k => k = n) wx (wx.setCell ⟨n, i, none⟩ v) := Tch.set wx v rfl
  refine ⟨(h.z.apart hM hT (fun k hk => ?_)).less (fun k hk => ?_), fun q hq => ?_, fun k hk => ⟨(h.st k hk).1, (heap_setCell_other wx ⟨n, i, none⟩ k v (by have := (h.st k hk).1; have := hnb.1; show k ≠ n; omega)).trans (h.st k hk).2⟩, h.lo⟩
  · subst hk
    exact ⟨.inr ⟨(k, cs), List.mem_cons_self .., rfl⟩, Nat.le_trans h.lo hnb.1⟩
  · rcases hk with e | ⟨q, hq, rfl⟩
    · exact .inl e
    · rcases List.mem_cons.1 hq with rfl | hq
      · exact .inr ⟨(n, cs), List.mem_cons_self .., rfl⟩
      · exact .inr ⟨q, List.mem_cons_of_mem _ hq, rfl⟩
  · rcases List.mem_cons.1 hq with rfl | hq
    · exact ⟨hnb.1, heap_setCell_same wx n i cs 37 v hnb.2⟩
    · exact ⟨(h.bx q (List.mem_cons_of_mem _ hq)).1, (heap_setCell_other wx ⟨n, i, none⟩ q.1 v (hn q hq)).trans (h.bx q (List.mem_cons_of_mem _ hq)).2⟩
/-- A box is turned whole. -/
theorem Gz.row (hM : Mach Pm) {n : Nat} {cs : Array Value} (h : Gz Pm lo X0 W w0 wx p b S1 S2 ((n, cs) :: bs)) (hn : ∀ q ∈ bs, q.1 ≠ n) (cs' : Array Value) : Gz Pm lo X0 W w0 (wx.setRow n cs') p b S1 S2 ((n, cs') :: bs) := by
  have hnb := h.bx (n, cs) (List.mem_cons_self ..)
  have hT : Tch (fun k => k = n) wx (wx.setRow n cs') := ⟨rfl, rfl, rfl, by simp [World.setRow], fun k hk hF => setRow_other wx n k cs' hF⟩
  refine ⟨(h.z.apart hM hT (fun k hk => ?_)).less (fun k hk => ?_), fun q hq => ?_, fun k hk => ⟨(h.st k hk).1, (setRow_other wx n k cs' (by have := (h.st k hk).1; have := hnb.1; omega)).trans (h.st k hk).2⟩, h.lo⟩
  · subst hk
    exact ⟨.inr ⟨(k, cs), List.mem_cons_self .., rfl⟩, Nat.le_trans h.lo hnb.1⟩
  · rcases hk with e | ⟨q, hq, rfl⟩
    · exact .inl e
    · rcases List.mem_cons.1 hq with rfl | hq
      · exact .inr ⟨(n, cs), List.mem_cons_self .., rfl⟩
      · exact .inr ⟨q, List.mem_cons_of_mem _ hq, rfl⟩
  · rcases List.mem_cons.1 hq with rfl | hq
    · exact ⟨hnb.1, setRow_heap wx n cs cs' 37 _ hnb.2⟩
    · exact ⟨(h.bx q (List.mem_cons_of_mem _ hq)).1, (setRow_other wx n q.1 cs' (hn q hq)).trans (h.bx q (List.mem_cons_of_mem _ hq)).2⟩
/-- The boxes in another order, or fewer. -/
theorem Gz.swap {bs' : List (Nat × Array Value)} (h : Gz Pm lo X0 W w0 wx p b S1 S2 bs) (hs : ∀ q ∈ bs', q ∈ bs) : Gz Pm lo X0 W w0 wx p b S1 S2 bs' :=
  ⟨h.z.less (fun _ hk => hk.imp id (fun ⟨q, hq, e⟩ => ⟨q, hs q hq, e⟩)), fun q hq => h.bx q (hs q hq), h.st, h.lo⟩
theorem Gz.fin (h : Gz Pm lo X0 W w0 wx p b S1 S2 bs) : Bz Pm lo X0 W wx p b S1 S2 ∧ ∀ k, X0 k → wx.heap[k]? = w0.heap[k]? := ⟨h.z.less (fun _ hk => .inl hk), fun k hk => (h.st k hk).2⟩
theorem Gz.sh (h : Gz Pm lo X0 W w0 wx p b S1 S2 bs) : wx.cell? ⟨b, 0, none⟩ = some (.int .i64 S2.n) := h.z.c0.1
end
theorem none_any (w : World) : Calls Tryz.prog 27 #[] w fun e w' => e = .returned (.agg (wdV none3)) ∧ Below w.heap.size w w' := by
  go_enter Tryz.func27, Tryz.ntmps27
  go_wp2
  exact bodyPost_ret (results_cell_row (by rfl) _ _ w.heap.size 37 #[.int .i64 (-1), .int .i64 (-1), .int .i64 (-1)] (0, 0) _ rfl (heap_alloc_new _ _) Tryz.underlying37 rfl (by kernel_rfl)) rfl ⟨rfl, (Below.refl _ _).alloc (Nat.le_refl _) _⟩
end Go.Proofs.YtpjgpiieminaoaaGreatDoor

/- General: what words stand for. No program is named. -/
namespace Go.Proofs.YtpjgpiieminaoaaGreatDoor

def vlP (v : Nat → Nat) (L : Nat) (A : Nat → Int) : Nat → Nat
  | 0 => 0
  | m + 1 => vlP v L A m ^^^ wordAt v L (A m)
/-- What a word stands for. -/
abbrev vlN (v : Nat → Nat) (L : Nat) (A : Nat → Int) : Nat := vlP v L A 3
theorem vlP_lt {v : Nat → Nat} {L : Nat} (h : ∀ i, i < L → v i < 2 ^ 64) (A : Nat → Int) : ∀ m, vlP v L A m < 2 ^ 64
  | 0 => by show 0 < _; decide
  | m + 1 => xr_lt (vlP_lt h A m) (wordAt_lt h _)
theorem vl_three (v : Nat → Nat) (L : Nat) (A : Nat → Int) : vlN v L A = wordAt v L (A 0) ^^^ wordAt v L (A 1) ^^^ wordAt v L (A 2) := by
  show ((0 ^^^ wordAt v L (A 0)) ^^^ wordAt v L (A 1)) ^^^ wordAt v L (A 2) = _
  rw [Nat.zero_xor]
/-- A machine that went on: the words that there were are as they were. -/
structure Ext (S S' : Ms) : Prop where
  L : S.L ≤ S'.L
  v : ∀ i, i < S.L → S'.v i = S.v i
  n : S'.n = S.n
  dry : S'.dry = S.dry
  skip : S'.skip = S.skip
theorem Ext.refl (S : Ms) : Ext S S := ⟨Nat.le_refl _, fun _ _ => rfl, rfl, rfl, rfl⟩
theorem Ext.trans {S S' S2 : Ms} (h : Ext S S') (k : Ext S' S2) : Ext S S2 :=
  ⟨Nat.le_trans h.L k.L, fun i hi => (k.v i (Nat.lt_of_lt_of_le hi h.L)).trans (h.v i hi), k.n.trans h.n, k.dry.trans h.dry, k.skip.trans h.skip⟩
theorem doS_ext (S : Ms) (o : Op6) (x : Nat) : Ext S (S.doS o x) := by
  unfold Ms.doS
  repeat' split
  · exact Ext.refl S
  · exact ⟨Nat.le_refl _, fun _ _ => rfl, rfl, rfl, rfl⟩
  · exact ⟨Nat.le_refl _, fun _ _ => rfl, rfl, rfl, rfl⟩
  · exact ⟨Nat.le_refl _, fun _ _ => rfl, rfl, rfl, rfl⟩
  · exact ⟨Nat.le_succ _, fun i hi => updN_no _ _ (by omega), rfl, rfl, rfl⟩
theorem beginS_ext (S : Ms) (k : Int) : Ext S (S.beginS k) := by
  unfold Ms.beginS
  repeat' split
  all_goals exact ⟨Nat.le_refl _, fun _ _ => rfl, rfl, rfl, rfl⟩
theorem endS_ext (S : Ms) : Ext S S.endS := by
  unfold Ms.endS
  repeat' split
  all_goals exact ⟨Nat.le_refl _, fun _ _ => rfl, rfl, rfl, rfl⟩
theorem eaS_ext (S : Ms) (op : Nat → Op6) (lo : Nat) : ∀ m, Ext S (eaS S op lo m)
  | 0 => Ext.refl S
  | m + 1 => (eaS_ext S op lo m).trans (doS_ext _ _ _)
theorem wordAt_ext {S S' : Ms} (h : Ext S S') {r : Int} (hr : r < (S.L : Int)) : wordAt S'.v S'.L r = wordAt S.v S.L r := by
  have hL := h.L
  unfold wordAt
  by_cases h0 : 0 ≤ r
  · rw [if_pos ⟨h0, by omega⟩, if_pos ⟨h0, hr⟩, h.v _ (by omega)]
  · rw [if_neg (fun e => h0 e.1), if_neg (fun e => h0 e.1)]
theorem vl_ext {S S' : Ms} (h : Ext S S') {A : Nat → Int} (hA : ∀ i, i < 3 → A i < (S.L : Int)) : vlN S'.v S'.L A = vlN S.v S.L A := by
  rw [vl_three, vl_three, wordAt_ext h (hA 0 (by omega)), wordAt_ext h (hA 1 (by omega)), wordAt_ext h (hA 2 (by omega))]
/-- An op that is done. -/
theorem do_ok {S : Ms} {o : Op6} {x : Nat} (h : (S.doS o x).e = 0) : S.e = 0 ∧ S.doS o x = S.put o x ∧ S.doR o = (S.len : Int) ∧ S.bad o = false := by
  have he : S.e = 0 := by
    by_cases e : S.e = 0
    · exact e
    · unfold Ms.doS at h; rw [if_pos e] at h; exact absurd h e
  have hb : ¬ S.bad o = true := fun e => by unfold Ms.doS at h; rw [if_neg (by omega), if_pos e] at h; simp at h
  have hf : ¬ S.full = true := fun e => by unfold Ms.doS at h; rw [if_neg (by omega), if_neg hb, if_pos e] at h; simp at h
  have ho : ¬ S.out o = true := fun e => by unfold Ms.doS at h; rw [if_neg (by omega), if_neg hb, if_neg hf, if_pos e] at h; simp at h
  refine ⟨he, ?_, ?_, by simpa using hb⟩
  · unfold Ms.doS
    rw [if_neg (by omega), if_neg hb, if_neg hf, if_neg ho]
  · unfold Ms.doR
    rw [if_neg (by rintro (q | q | q | q) <;> contradiction)]
/-- A wet machine's op: the word that it makes. -/
theorem do_word {S : Ms} {o : Op6} {x : Nat} (h : (S.doS o x).e = 0) (hs : S.skip = 0) : S.doR o = (S.L : Int) ∧ (S.doS o x).L = S.L + 1 ∧ wordAt (S.doS o x).v (S.doS o x).L (S.doR o) = S.makes o x := by
  obtain ⟨_, h2, h3, _⟩ := do_ok h
  have hl : S.len = S.L := by unfold Ms.len; rw [hs, Nat.zero_add]
  rw [hl] at h3
  refine ⟨h3, by rw [h2]; rfl, ?_⟩
  rw [h2, h3]
  show wordAt (updN S.v S.L (S.makes o x)) (S.L + 1) (S.L : Int) = _
  unfold wordAt
  rw [if_pos ⟨by omega, by omega⟩, show ((S.L : Int)).toNat = S.L by omega, updN_at]
theorem eaS_e {S : Ms} {op : Nat → Op6} {lo : Nat} : ∀ {m}, (eaS S op lo m).e = 0 → ∀ j, j ≤ m → (eaS S op lo j).e = 0
  | 0, h, j, hj => by obtain rfl : j = 0 := by omega
                      exact h
  | m + 1, h, j, hj => by
    by_cases e : j = m + 1
    · subst e; exact h
    · exact eaS_e (do_ok h).1 j (by omega)
theorem eaR_keep (S : Ms) (op : Nat → Op6) (lo : Nat) (W : Nat → Int) : ∀ m i, (i < lo ∨ lo + m ≤ i) → eaR S op lo W m i = W i
  | 0, _, _ => rfl
  | m + 1, i, h => by rw [eaR, updI_no _ _ (by omega), eaR_keep S op lo W m i (by omega)]
theorem eaR_at (S : Ms) (op : Nat → Op6) (lo : Nat) (W : Nat → Int) : ∀ m j, j < m → eaR S op lo W m (lo + j) = (eaS S op lo j).doR (op (lo + j))
  | m + 1, j, h => by
    by_cases e : j = m
    · subst e; rw [eaR, updI_at]
    · rw [eaR, updI_no _ _ (by omega), eaR_at S op lo W m j (by omega)]
/-- Registers that are made share by share: the word of each. -/
theorem ea_word {S : Ms} {op : Nat → Op6} {lo m : Nat} (W : Nat → Int) (h : (eaS S op lo m).e = 0) (hs : S.skip = 0) {j : Nat} (hj : j < m) (hA : (op (lo + j)).A < (S.L : Int)) (hB : (op (lo + j)).B < (S.L : Int)) (hE : (op (lo + j)).E < (S.L : Int)) :
    eaR S op lo W m (lo + j) = ((eaS S op lo j).L : Int) ∧ (eaS S op lo j).L < (eaS S op lo m).L ∧
    wordAt (eaS S op lo m).v (eaS S op lo m).L (eaR S op lo W m (lo + j)) = evN (op (lo + j)).K (op (lo + j)).C (wordAt S.v S.L (op (lo + j)).A) (wordAt S.v S.L (op (lo + j)).B) (wordAt S.v S.L (op (lo + j)).E) ((eaS S op lo j).word (op (lo + j)) 0) := by
  have hj1 : (eaS S op lo (j + 1)).e = 0 := eaS_e h _ (by omega)
  have hX := eaS_ext S op lo j
  obtain ⟨w1, w2, w3⟩ := do_word (x := 0) hj1 (hX.skip.trans hs)
  have hxt : Ext (eaS S op lo (j + 1)) (eaS S op lo m) := by
    have : ∀ d, Ext (eaS S op lo (j + 1)) (eaS S op lo (j + 1 + d)) := fun d => by
      induction d with
      | zero => exact Ext.refl _
      | succ d ih => exact ih.trans (doS_ext _ _ _)
    have e := this (m - (j + 1))
    rw [show j + 1 + (m - (j + 1)) = m by omega] at e
    exact e
  have hL : (eaS S op lo (j + 1)).L = (eaS S op lo j).L + 1 := w2
  have hlt : (eaS S op lo j).L < (eaS S op lo m).L := by have := hxt.L; omega
  refine ⟨(eaR_at S op lo W m j hj).trans w1, hlt, ?_⟩
  rw [eaR_at S op lo W m j hj, wordAt_ext hxt (by rw [w1, hL]; omega)]
  refine w3.trans ?_
  unfold Ms.makes
  rw [wordAt_ext hX hA, wordAt_ext hX hB, wordAt_ext hX hE]
/-- A word whose registers there are; of two shares the third is none. -/
structure Gw (S : Ms) (A : Nat → Int) : Prop where
  lt : ∀ i, i < 3 → A i < (S.L : Int)
  no : ∀ i, S.sh ≤ i → i < 3 → A i < 0
theorem Gw.ext {S S' : Ms} {A : Nat → Int} (h : Gw S A) (k : Ext S S') : Gw S' A :=
  ⟨fun i hi => by have := h.lt i hi; have := k.L; omega, fun i hi hj => h.no i (by unfold Ms.sh at hi ⊢; rw [k.n] at hi; exact hi) hj⟩
theorem wordAt_neg {v : Nat → Nat} {L : Nat} {r : Int} (h : r < 0) : wordAt v L r = 0 := if_neg (by omega)
/-- What is made share by share: each share's word by itself. -/
theorem ea_vl {S : Ms} {op : Nat → Op6} (h : (eaS S op 0 S.sh).e = 0) (hs : S.skip = 0) (h2 : 2 ≤ S.sh) (h3 : S.sh ≤ 3) (F : Nat → Nat)
    (hA : ∀ j, j < 3 → (op j).A < (S.L : Int) ∧ (op j).B < (S.L : Int) ∧ (op j).E < (S.L : Int))
    (hF : ∀ j, j < S.sh → evN (op j).K (op j).C (wordAt S.v S.L (op j).A) (wordAt S.v S.L (op j).B) (wordAt S.v S.L (op j).E) ((eaS S op 0 j).word (op j) 0) = F j) (hF3 : S.sh = 2 → F 2 = 0) :
    vlN (eaS S op 0 S.sh).v (eaS S op 0 S.sh).L (eaR S op 0 none3 S.sh) = F 0 ^^^ F 1 ^^^ F 2 ∧ Gw (eaS S op 0 S.sh) (eaR S op 0 none3 S.sh) := by
  have key : ∀ j, j < S.sh → eaR S op 0 none3 S.sh j < ((eaS S op 0 S.sh).L : Int) ∧ wordAt (eaS S op 0 S.sh).v (eaS S op 0 S.sh).L (eaR S op 0 none3 S.sh j) = F j := fun j hj => by
    have a := hA j (by omega)
    have w := ea_word (lo := 0) none3 h hs hj (by rw [Nat.zero_add]; exact a.1) (by rw [Nat.zero_add]; exact a.2.1) (by rw [Nat.zero_add]; exact a.2.2)
    rw [Nat.zero_add] at w
    exact ⟨by rw [w.1]; have := w.2.1; omega, w.2.2.trans (hF j hj)⟩
  have n2 : S.sh = 2 → eaR S op 0 none3 S.sh 2 = -1 := fun e => eaR_keep S op 0 none3 S.sh 2 (by omega)
  have k2 : wordAt (eaS S op 0 S.sh).v (eaS S op 0 S.sh).L (eaR S op 0 none3 S.sh 2) = F 2 := by
    by_cases e : S.sh = 2
    · rw [n2 e, hF3 e]; exact wordAt_neg (by omega)
    · exact (key 2 (by omega)).2
  refine ⟨by rw [vl_three, (key 0 (by omega)).2, (key 1 (by omega)).2, k2], ⟨fun i hi => ?_, fun i hi hj => ?_⟩⟩
  · by_cases e : i < S.sh
    · exact (key i e).1
    · obtain rfl : i = 2 := by omega
      rw [n2 (by omega)]; omega
  · have hse : (eaS S op 0 S.sh).sh = S.sh := by unfold Ms.sh; rw [eaS_n]
    rw [hse] at hi
    obtain rfl : i = 2 := by omega
    rw [n2 (by omega)]; omega
end Go.Proofs.YtpjgpiieminaoaaGreatDoor

/- General: what the gadgets of words make, as what words stand for. No program is named. -/
namespace Go.Proofs.YtpjgpiieminaoaaGreatDoor

/-- A constant. -/
theorem cst_vl {S : Ms} {K : Int} {c : Nat} (h : (cstS S K c).e = 0) (hs : S.skip = 0) (hn : S.n = 2 ∨ S.n = 3) (hK : K = 3 ∨ K = 4) :
    vlN (cstS S K c).v (cstS S K c).L (cstR S K c) = c ∧ Gw (cstS S K c) (cstR S K c) := by
  have h2 : 2 ≤ S.sh ∧ S.sh ≤ 3 := by unfold Ms.sh; omega
  have hev : ∀ C a b d x, evN K C a b d x = C := fun C a b d x => by rcases hK with rfl | rfl; exact ev3 C a b d x; exact ev4 C a b d x
  have := ea_vl (op := opCst K c) h hs h2.1 h2.2 (fun j => if j = 0 then c else 0) (fun j _ => by unfold opCst; split <;> exact ⟨by show (-1 : Int) < _; omega, by show (-1 : Int) < _; omega, by show (-1 : Int) < _; omega⟩)
    (fun j _ => by
      unfold opCst
      by_cases e : j = 0
      · rw [if_pos e, if_pos e]; exact hev _ _ _ _ _
      · rw [if_neg e, if_neg e]; exact ev3 _ _ _ _ _) (fun _ => rfl)
  refine ⟨this.1.trans ?_, this.2⟩
  simp
/-- What a move or a mask makes of a word. -/
def mvN (K : Int) (c a : Nat) : Nat := evN K c a 0 0 0
theorem mvN_xor {K : Int} (hK : K = 8 ∨ K = 9 ∨ K = 10 ∨ K = 11) {c a b : Nat} (ha : a < 2 ^ 64) (hb : b < 2 ^ 64) : mvN K c (a ^^^ b) = mvN K c a ^^^ mvN K c b := by
  unfold mvN
  rcases hK with rfl | rfl | rfl | rfl
  · rw [ev8, ev8, ev8]; exact wmk_xor
  · rw [ev9, ev9, ev9]; exact wsl_xor _ _ _
  · rw [ev10, ev10, ev10]; exact wsr_xor ha hb _
  · rw [ev11, ev11, ev11]; exact rt_xor ha hb (by omega)
theorem mvN_any {K : Int} (hK : K = 8 ∨ K = 9 ∨ K = 10 ∨ K = 11) (c a b d x : Nat) : evN K c a b d x = mvN K c a := by
  unfold mvN
  rcases hK with rfl | rfl | rfl | rfl
  · rw [ev8, ev8]
  · rw [ev9, ev9]
  · rw [ev10, ev10]
  · rw [ev11, ev11]
theorem mvN_zero {K : Int} (hK : K = 8 ∨ K = 9 ∨ K = 10 ∨ K = 11) (c : Nat) : mvN K c 0 = 0 := by
  have h := mvN_xor hK (c := c) (a := 0) (b := 0) (by decide) (by decide)
  rw [Nat.xor_self] at h
  rw [h]; exact Nat.xor_self _
theorem one_vl {S : Ms} {K : Int} {A : Nat → Int} {c : Nat} (h : (oneS S K A c).e = 0) (hs : S.skip = 0) (hn : S.n = 2 ∨ S.n = 3) (hK : K = 8 ∨ K = 9 ∨ K = 10 ∨ K = 11) (hv : ∀ i, i < S.L → S.v i < 2 ^ 64) (hA : Gw S A) :
    vlN (oneS S K A c).v (oneS S K A c).L (oneR S K A c) = mvN K c (vlN S.v S.L A) ∧ Gw (oneS S K A c) (oneR S K A c) := by
  have h2 : 2 ≤ S.sh ∧ S.sh ≤ 3 := by unfold Ms.sh; omega
  have := ea_vl (op := opOne K A c) h hs h2.1 h2.2 (fun j => mvN K c (wordAt S.v S.L (A j))) (fun j hj => ⟨hA.lt j hj, by show (-1 : Int) < _; omega, by show (-1 : Int) < _; omega⟩)
    (fun j _ => mvN_any hK _ _ _ _ _) (fun e => by show mvN K c (wordAt S.v S.L (A 2)) = 0; rw [wordAt_neg (hA.no 2 (by omega) (by omega))]; exact mvN_zero hK c)
  refine ⟨this.1.trans ?_, this.2⟩
  have l := fun i => wordAt_lt hv (A i)
  rw [vl_three, mvN_xor hK (xr_lt (l 0) (l 1)) (l 2), mvN_xor hK (l 0) (l 1)]
end Go.Proofs.YtpjgpiieminaoaaGreatDoor

/- Wire: the program's machine alone; nobody's machine, a new one; the example. -/
namespace Go.Proofs.YtpjgpiieminaoaaGreatDoor
open Go.RowKit
set_option maxRecDepth 100000
/-- A machine over a tape of which d words were drawn, and which may be drawn up to e. -/
def startD (n most : Int) (tw : Nat → Nat) (TN d e : Nat) : Ms :=
  ⟨n, most, 0, 0, 0, 0, 0, 0, 0, fun _ => ⟨0, 0, 0, 0, 0, 0⟩, 0, fun _ => ⟨0, 0, 0⟩, fun _ => 0, tw, TN, d, e - d, false⟩
/-- Nobody's machine, and new ones. -/
structure MachN (Pm : World → Nat → Ms → (Nat → Prop) → Prop) : Prop where
  nbegin : ∀ w, Calls Tryz.prog 75 #[.pointer none, .int .i64 1] w fun e w' => e = .returned (.tuple #[]) ∧ Below w.heap.size w w'
  nend : ∀ w, Calls Tryz.prog 78 #[.pointer none] w fun e w' => e = .returned (.tuple #[]) ∧ Below w.heap.size w w'
  nrand : ∀ w, Calls Tryz.prog 87 #[.pointer none, .int .i64 0] w fun e w' => e = .returned (.int .i64 (-1)) ∧ Below w.heap.size w w'
  nopen : ∀ w, Calls Tryz.prog 31 #[.pointer none, .int .i64 0, .int .i64 0, .int .i64 0] w fun e w' => e = .returned (.int .u64 0) ∧ Below w.heap.size w w'
  nerr : ∀ w, Calls Tryz.prog 43 #[.pointer none] w fun e w' => e = .returned (.int .i64 1) ∧ Below w.heap.size w w'
  nvalues : ∀ w, Calls Tryz.prog 42 #[.pointer none] w fun e w' => ∃ a c, e = .returned (.slice a 0 c) ∧ Below w.heap.size w w'
  nn : ∀ w, Calls Tryz.prog 60 #[.pointer none] w fun e w' => e = .returned (.int .i64 0) ∧ Below w.heap.size w w'
  ntrace : ∀ w, Calls Tryz.prog 45 #[.pointer none] w fun e w' => ∃ n a c v, e = .returned (.agg #[.int .i64 n, .slice a 0 c, v]) ∧ Below w.heap.size w w'
  bad : ∀ (n most : Int) (q : Nat) (w : World), ¬ ((n = 2 ∨ n = 3) ∧ 0 ≤ most ∧ most ≤ 1048576) → Calls Tryz.prog 22 #[.int .i64 n, .pointer (some ⟨q, 0, none⟩), .int .i64 most] w fun e w' => e = .returned (.tuple #[.pointer none, .int .i64 1]) ∧ Below w.heap.size w w'
  new : ∀ (lo hi q d e : Nat) (n most : Int) (tw : Nat → Nat) (TN : Nat) (w : World), TapeAt w lo hi q (wdL tw TN) d e → (n = 2 ∨ n = 3) → 0 ≤ most → most ≤ 1048576 →
    Calls Tryz.prog 22 #[.int .i64 n, .pointer (some ⟨q, 0, none⟩), .int .i64 most] w fun r w' => ∃ b, r = .returned (.tuple #[.pointer (some ⟨b, 0, none⟩), .int .i64 0]) ∧ Below w.heap.size w w' ∧ ∃ F, Pm w' b (startD n most tw TN d e) F ∧ ∀ k, F k → (lo ≤ k ∧ k < hi) ∨ w.heap.size ≤ k
/-- The program's machine, alone. -/
def Pz (Pm : World → Nat → Ms → (Nat → Prop) → Prop) (lo : Nat) (X : Nat → Prop) (W wx : World) (p : Nat) (S : Ms) : Prop :=
  ∃ F, Pm wx p S F ∧ (∀ k, F k → lo ≤ k ∧ ¬ X k) ∧ (∀ k, X k → k < wx.heap.size) ∧ Below lo W wx ∧ lo ≤ wx.heap.size
section
variable {Pm : World → Nat → Ms → (Nat → Prop) → Prop} {lo : Nat} {X : Nat → Prop} {W wx wy : World} {p : Nat} {S S' : Ms}
theorem Pz.low (h : Pz Pm lo X W wx p S) : Below lo W wx := by obtain ⟨_, _, _, _, h, _⟩ := h; exact h
theorem Pz.los (h : Pz Pm lo X W wx p S) : lo ≤ wx.heap.size := by obtain ⟨_, _, _, _, _, h⟩ := h; exact h
theorem Pz.self (hM : Mach Pm) (h : Pz Pm lo X W wx p S) (hb : Below wx.heap.size wx wy) : Pz Pm lo X W wy p S := by
  obtain ⟨F, h1, h2, h3, h4, h5⟩ := h
  exact ⟨F, hM.stays h1 hb.size (fun k hk => hb.block k (hM.lt h1 k hk)), h2, fun k hk => Nat.lt_of_lt_of_le (h3 k hk) hb.size, h4.trans (hb.mono h5), Nat.le_trans h5 hb.size⟩
/-- What is not the machine's is turned. -/
theorem Pz.apart (hM : Mach Pm) {G : Nat → Prop} (h : Pz Pm lo X W wx p S) (hb : Tch G wx wy) (hG : ∀ k, G k → X k ∧ lo ≤ k) : Pz Pm lo X W wy p S := by
  obtain ⟨F, h1, h2, h3, h4, h5⟩ := h
  exact ⟨F, hM.stays h1 hb.size (fun k hk => hb.block k (hM.lt h1 k hk) (fun g => (h2 k hk).2 (hG k g).1)), h2, fun k hk => Nat.lt_of_lt_of_le (h3 k hk) hb.size, h4.trans (hb.below (fun k g => (hG k g).2) h5), Nat.le_trans h5 hb.size⟩
/-- More blocks that are not the machine's: new ones. -/
theorem Pz.more (hM : Mach Pm) {Y : Nat → Prop} (h : Pz Pm lo X W wx p S) (hb : Below wx.heap.size wx wy) (hY : ∀ k, Y k → X k ∨ wx.heap.size ≤ k ∧ k < wy.heap.size) : Pz Pm lo Y W wy p S := by
  obtain ⟨F, h1, h2, h3, h4, h5⟩ := h
  refine ⟨F, hM.stays h1 hb.size (fun k hk => hb.block k (hM.lt h1 k hk)), fun k hk => ⟨(h2 k hk).1, fun hy => ?_⟩, fun k hk => ?_, h4.trans (hb.mono h5), Nat.le_trans h5 hb.size⟩
  · rcases hY k hy with e | e
    · exact (h2 k hk).2 e
    · have := hM.lt h1 k hk; omega
  · rcases hY k hk with e | e
    · exact Nat.lt_of_lt_of_le (h3 k e) hb.size
    · exact e.2
theorem Pz.on {F : Nat → Prop} {p' : Nat} (h2 : ∀ k, F k → lo ≤ k ∧ ¬ X k) (h3 : ∀ k, X k → k < wx.heap.size) (h4 : Below lo W wx) (h5 : lo ≤ wx.heap.size) (hr : PmR Pm p' S' F wx wy) : Pz Pm lo X W wy p' S' ∧ ∀ k, X k → wy.heap[k]? = wx.heap[k]? := by
  obtain ⟨F', g1, g2, g3⟩ := hr
  refine ⟨⟨F', g1, fun k hk => ?_, fun k hk => Nat.lt_of_lt_of_le (h3 k hk) g2.size, h4.trans (g2.below (fun k f => (h2 k f).1) h5), Nat.le_trans h5 g2.size⟩, fun k hk => g2.block k (h3 k hk) (fun f => (h2 k f).2 hk)⟩
  rcases g3 k hk with f | f
  · exact h2 k f
  · exact ⟨by omega, fun e => by have := h3 k e; omega⟩
end
section
variable {Pm : World → Nat → Ms → (Nat → Prop) → Prop} (hM : Mach Pm) {lo : Nat} {X : Nat → Prop} {W w : World} {b k : Nat} {S : Ms}
include hM
end
theorem startD_bq (n most : Int) (tw : Nat → Nat) (TN d e k : Nat) (hn : n = 2 ∨ n = 3) (hm : 0 ≤ most) (hm' : most ≤ 1048576) (hT : TN ≤ 20000000000000) (htw : ∀ i, i < TN → tw i < 2 ^ 64) (hd : d ≤ e) (he : e ≤ TN) : Bq k (startD n most tw TN d e) := by
  refine ⟨Nat.zero_le _, Nat.zero_le _, Nat.zero_le _, Nat.zero_le _, Nat.zero_le _, by show d ≤ _; omega, by show e - d ≤ _; omega, hT, fun i hi => absurd hi (Nat.not_lt_zero i), htw, fun _ => rfl, fun i hi => absurd hi (Nat.not_lt_zero i), fun i hi => absurd hi (Nat.not_lt_zero i), by show (0 : Int) ≤ 0 ∧ (0 : Int) ≤ 3; decide, by show _ ≤ n ∧ n ≤ _; omega, by show _ ≤ most ∧ most ≤ _; omega, by show 0 ≤ 4; omega⟩
end Go.Proofs.YtpjgpiieminaoaaGreatDoor

/- General: arrays of ints that are not negative, by value and in a block (Arw's, for i64). No program is named. -/
namespace Go.Proofs.YtpjgpiieminaoaaGreatDoor
open Go.ChangeShapes Go.WideShapes Go.ChangeAt Go.RowKit

/-- The n cells of an array of words. -/
def ia (n : Nat) (f : Nat → Nat) : Array Value := ((List.range n).map fun i => Value.int .i64 (f i : Int)).toArray

theorem ia_size (n : Nat) (f : Nat → Nat) : (ia n f).size = n := by simp [ia]
theorem ia_get {n : Nat} (f : Nat → Nat) {j : Nat} (h : j < n) : (ia n f)[j]? = some (.int .i64 (f j : Int)) := by simp [ia, h]
theorem ia_ext {n : Nat} {f g : Nat → Nat} (h : ∀ i, i < n → f i = g i) : ia n f = ia n g := by
  unfold ia
  congr 1
  refine List.map_congr_left fun i hi => ?_
  rw [h i (List.mem_range.1 hi)]
theorem ia_set {n : Nat} (f : Nat → Nat) (j z : Nat) : (ia n f).setIfInBounds j (.int .i64 (z : Int)) = ia n (upd f j z) := by
  apply Array.ext_getElem?
  intro i
  rw [Array.getElem?_setIfInBounds, ia_size]
  by_cases hi : i < n
  · rw [ia_get _ hi, ia_get _ hi]
    by_cases e : j = i
    · subst e; rw [if_pos rfl, if_pos hi, upd_same]
    · rw [if_neg e, upd_other _ _ _ _ (fun h => e h.symm)]
  · have h1 : (ia n f)[i]? = none := by simp [ia_size]; omega
    have h2 : (ia n (upd f j z))[i]? = none := by simp [ia_size]; omega
    rw [h1, h2]
    by_cases e : j = i
    · rw [if_pos e, if_neg (by omega)]
    · rw [if_neg e]
theorem ia_one (n : Nat) (f : Nat → Nat) : (ia n f).all (·.oneCell') = true := by
  refine Array.all_eq_true_iff_forall_mem.2 (fun v hv => ?_)
  simp [ia] at hv
  obtain ⟨i, _, rfl⟩ := hv
  rfl

section prog
variable {P : Program}

end prog
/-! ### an array in a block of its own -/
/-- Block b holds, whole, the n words of f, as a variable of type t. -/
def Ai (w : World) (b n : Nat) (t : TypeId) (f : Nat → Nat) : Prop := w.heap[b]? = some (.cells (ia n f) t (0, 0))
theorem Ai.lt {w : World} {b n : Nat} {t : TypeId} {f : Nat → Nat} (h : Ai w b n t f) : b < w.heap.size := (Array.getElem?_eq_some_iff.1 h).1
theorem Ai.cell {w : World} {b n : Nat} {t : TypeId} {f : Nat → Nat} (h : Ai w b n t f) {j : Nat} (hj : j < n) : w.cell? ⟨b, j, none⟩ = some (.int .i64 (f j : Int)) := by
  rw [cell_of_row w b j _ t (0, 0) h, ia_get f hj]
theorem Ai.free {w : World} {b n : Nat} {t : TypeId} {f : Nat → Nat} (h : Ai w b n t f) (o : Nat) : w.frozen? ⟨b, o, none⟩ = false := frozen_of_row w b o _ t h
theorem Ai.set {w : World} {b n : Nat} {t : TypeId} {f : Nat → Nat} (h : Ai w b n t f) (j z : Nat) : Ai (w.setCell ⟨b, j, none⟩ (.int .i64 (z : Int))) b n t (upd f j z) := by
  unfold Ai
  rw [heap_setCell_same w b j _ t _ h, ia_set]
theorem Ai.apart {w : World} {b n : Nat} {t : TypeId} {f : Nat → Nat} (h : Ai w b n t f) {a : Addr} (ha : b ≠ a.block) (v : Value) : Ai (w.setCell a v) b n t f := (heap_setCell_other w a b v ha).trans h
theorem Ai.row {w : World} {b n : Nat} {t : TypeId} {f : Nat → Nat} (h : Ai w b n t f) (g : Nat → Nat) : Ai (w.setRow b (ia n g)) b n t g := setRow_heap w b _ _ t _ h
theorem Ai.alloc {w : World} {b n : Nat} {t : TypeId} {f : Nat → Nat} (h : Ai w b n t f) (o : Obj) : Ai (w.alloc o) b n t f := (heap_alloc_old w o h.lt).trans h
theorem Ai.new (w : World) (n : Nat) (t : TypeId) (f : Nat → Nat) : Ai (w.alloc (.cells (ia n f) t)) w.heap.size n t f := heap_alloc_new w _
theorem Ai.drew {w : World} {b n : Nat} {t : TypeId} {f : Nat → Nat} (h : Ai w b n t f) : Ai w.drew b n t f := h
theorem Ai.below {w w' : World} {b n B : Nat} {t : TypeId} {f : Nat → Nat} (h : Ai w b n t f) (hb : Below B w w') (hB : b < B) : Ai w' b n t f := (hb.block b hB).trans h
theorem Ai.self {w w' : World} {b n : Nat} {t : TypeId} {f : Nat → Nat} (h : Ai w b n t f) (hb : Below w.heap.size w w') : Ai w' b n t f := h.below hb h.lt
theorem Ai.ext {w : World} {b n : Nat} {t : TypeId} {f g : Nat → Nat} (h : Ai w b n t f) (e : ∀ i, i < n → f i = g i) : Ai w b n t g := by
  unfold Ai at h ⊢; rw [h, ia_ext e]

section prog2
variable {P : Program}
theorem Ai.load {w : World} {b n : Nat} {t : TypeId} {f : Nat → Nat} {e : TypeId} (h : Ai w b n t f) (ty : TypeId) (hu : P.underlying ty = some (.array n e)) (hi : (P.info? ty).map (·.size) = some n) :
    (loadVar ty ⟨b, 0, none⟩).run P w = .ok (.agg (ia n f)) w :=
  run_loadVar_row w b t ty _ (0, 0) _ h hu rfl (by rw [ia_size]; exact hi)
theorem Ai.store {w : World} {b n : Nat} {t : TypeId} {f : Nat → Nat} (h : Ai w b n t f) (ty : TypeId) (g : Nat → Nat) (hi : (P.info? ty).map (·.size) = some n) :
    (storeVar ty ⟨b, 0, none⟩ (.agg (ia n g))).run P w = .ok () (w.setRow b (ia n g)) :=
  run_storeVar_row w b t ty _ _ h (by rw [ia_size]; exact hi) (by rw [ia_size, ia_size]) (ia_one n g)
end prog2

/-! ### returns of arrays -/
/-! ### whole loads and stores, as arms of a walk -/
end Go.Proofs.YtpjgpiieminaoaaGreatDoor

/- Trace: whether it may be, by the document. -/
namespace Go.Proofs.YtpjgpiieminaoaaGreatDoor
open Go.RowKit
set_option maxRecDepth 100000
/-- The words of keys so far. -/
abbrev kc (f : Nat → Op6) (j : Nat) : Nat := cnt (fun o => decide (o.K = 2)) f j
end Go.Proofs.YtpjgpiieminaoaaGreatDoor
