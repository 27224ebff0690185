import Derived.Test.YthopdlcmmafcaaaProg
import Derived.Test.YthopdlcmmafcaaaOcb
import Derived.Test.YthopdlcmmafcaaaTrm
import Derived.Test.YthopdlcmmafcaaaAri
/- Trace: tallies, and what is opened, by the document. -/
namespace Go.Proofs.Ythopdlcmmafcaaa
open Go.RowKit
set_option maxRecDepth 100000

/-- A trace's value. -/
abbrev trV (N : Int) (v0 v1 : Value) : Value := .agg #[.int .i64 N, v0, v1]
/-- What stands in a trace's box. -/
structure Tb (w : World) (b : Nat) (N : Int) (v0 v1 : Value) : Prop where
  n : w.cell? ⟨b, 0, none⟩ = some (.int .i64 N)
  o : w.cell? ⟨b, 1, none⟩ = some v0
  s : w.cell? ⟨b, 2, none⟩ = some v1
theorem tb_box {w w' : World} {N : Int} {v0 v1 : Value} {T : TypeId} (h : Below (w.alloc (.cells #[.int .i64 N, v0, v1] T)).heap.size (w.alloc (.cells #[.int .i64 N, v0, v1] T)) w') : Tb w' w.heap.size N v0 v1 := by
  have e : w'.heap[w.heap.size]? = some (.cells #[.int .i64 N, v0, v1] T (0, 0)) := by rw [h.block _ (by simp)]; exact heap_alloc_new w _
  exact ⟨by rw [cell_of_row w' _ 0 _ _ _ e]; rfl, by rw [cell_of_row w' _ 1 _ _ _ e]; rfl, by rw [cell_of_row w' _ 2 _ _ _ e]; rfl⟩
theorem kinf13 : (Try.prog.info? 28).map (·.size) = some 13 := by kernel_rfl
/-- Tallying. -/
structure TI (w wr : World) (N : Int) (v0 v1 : Value) (b off L : Nat) (f : Nat → Op6) (j : Nat) : Prop where
  tb : Tb wr w.heap.size N v0 v1
  res : Ai wr (w.heap.size + 1) 13 28 (fun _ => 0)
  arr : Ai wr (w.heap.size + 2) 13 28 (tal f j)
  ops : ∀ i, i < L → Oc wr b (off + i * 6) (f i)
  low : Below w.heap.size w wr
theorem heap3_get {w : World} {c0 c1 c2 : Array Value} {t0 t1 t2 : TypeId} : (((w.alloc (.cells c0 t0)).alloc (.cells c1 t1)).alloc (.cells c2 t2)).heap[w.heap.size]? = some (.cells c0 t0 (0, 0)) ∧ (((w.alloc (.cells c0 t0)).alloc (.cells c1 t1)).alloc (.cells c2 t2)).heap[w.heap.size + 1]? = some (.cells c1 t1 (0, 0)) ∧ (((w.alloc (.cells c0 t0)).alloc (.cells c1 t1)).alloc (.cells c2 t2)).heap[w.heap.size + 2]? = some (.cells c2 t2 (0, 0)) := by
  refine ⟨?_, ?_, ?_⟩
  · rw [Below.heap_alloc _ _ _ (by simp; omega), Below.heap_alloc _ _ _ (by simp)]; exact heap_alloc_new w (.cells c0 t0)
  · rw [Below.heap_alloc _ _ _ (by simp)]; have := heap_alloc_new (w.alloc (.cells c0 t0)) (.cells c1 t1); simpa using this
  · have := heap_alloc_new ((w.alloc (.cells c0 t0)).alloc (.cells c1 t1)) (.cells c2 t2); simpa using this
theorem ia_zero : ia 13 (fun _ => 0) = #[.int .i64 0, .int .i64 0, .int .i64 0, .int .i64 0, .int .i64 0, .int .i64 0, .int .i64 0, .int .i64 0, .int .i64 0, .int .i64 0, .int .i64 0, .int .i64 0, .int .i64 0] := rfl
theorem TI.start {w : World} {N : Int} {v0 v1 : Value} {b off L : Nat} {f : Nat → Op6} (h : ∀ i, i < L → Oc w b (off + i * 6) (f i)) :
    TI w (((w.alloc (.cells #[.int .i64 N, v0, v1] 25)).alloc (.cells (ia 13 fun _ => 0) 28)).alloc (.cells (ia 13 fun _ => 0) 28)) N v0 v1 b off L f 0 := by
  have hl : Below w.heap.size w (((w.alloc (.cells #[.int .i64 N, v0, v1] 25)).alloc (.cells (ia 13 fun _ => 0) 28)).alloc (.cells (ia 13 fun _ => 0) 28)) := (((Below.refl _ _).alloc (Nat.le_refl _) _).alloc (by simp) _).alloc (by simp; omega) _
  obtain ⟨e0, e1, e2⟩ := heap3_get (w := w) (c0 := #[.int .i64 N, v0, v1]) (c1 := ia 13 fun _ => 0) (c2 := ia 13 fun _ => 0) (t0 := 25) (t1 := 28) (t2 := 28)
  exact ⟨⟨by rw [cell_of_row _ _ 0 _ _ _ e0]; rfl, by rw [cell_of_row _ _ 1 _ _ _ e0]; rfl, by rw [cell_of_row _ _ 2 _ _ _ e0]; rfl⟩, e1, e2, fun i hi => (h i hi).self hl, hl⟩
theorem TI.step {w wr : World} {N : Int} {v0 v1 : Value} {b off L : Nat} {f : Nat → Op6} {j : Nat} (h : TI w wr N v0 v1 b off L f j) (hb : b < w.heap.size) :
    TI w (wr.setCell ⟨w.heap.size + 2, kd (f j), none⟩ (.int .i64 ((tal f j (kd (f j)) + 1 : Nat) : Int))) N v0 v1 b off L f (j + 1) := by
  have ho : ∀ (q o : Nat) (u : Value), q ≠ w.heap.size + 2 → wr.cell? ⟨q, o, none⟩ = some u → (wr.setCell ⟨w.heap.size + 2, kd (f j), none⟩ (.int .i64 ((tal f j (kd (f j)) + 1 : Nat) : Int))).cell? ⟨q, o, none⟩ = some u := fun q o u hq hu => by
    rw [World.cell?_of_block (w := wr) (Below.heap_setCell _ _ _ _ hq)]; exact hu
  refine ⟨⟨ho _ _ _ (by omega) h.tb.n, ho _ _ _ (by omega) h.tb.o, ho _ _ _ (by omega) h.tb.s⟩, h.res.apart (by show w.heap.size + 1 ≠ w.heap.size + 2; omega) _, (h.arr.set (kd (f j)) (tal f j (kd (f j)) + 1)).ext fun k hk => ?_, fun i hi => ?_, h.low.setCell (by show w.heap.size ≤ w.heap.size + 2; omega) _⟩
  · rw [tal_step]; unfold upd; split
    · rename_i e; rw [e]
    · rfl
  · have c := h.ops i hi
    exact ⟨ho _ _ _ (by omega) c.k, ho _ _ _ (by omega) c.d, ho _ _ _ (by omega) c.a, ho _ _ _ (by omega) c.b, ho _ _ _ (by omega) c.e, ho _ _ _ (by omega) c.c⟩
set_option maxHeartbeats 1600000 in
theorem reftally_any (N : Int) (v0 v1 : Value) (L : Nat) (f : Nat → Op6) (w : World) (h : ROp w v0 L f) :
    Calls Try.prog 6 #[trV N v0 v1] w fun e w' => e = .returned (.agg (ia 13 (tal f L))) ∧ Below w.heap.size w w' := by
  obtain ⟨a, cap, rfl, h1, h2, h3⟩ := h.at_
  have hlim := h.lim
  obtain ⟨b, off, ha, hb, hops⟩ : ∃ b off, (0 < L → a = some ⟨b, off, none⟩) ∧ (0 < L → b < w.heap.size) ∧ ∀ i, i < L → Oc w b (off + i * 6) (f i) := by
    by_cases h0 : 0 < L
    · obtain ⟨b, off, e1, e2, e3⟩ := h3 h0
      exact ⟨b, off, fun _ => e1, fun _ => e2, e3⟩
    · exact ⟨0, 0, fun h => absurd h h0, fun h => absurd h h0, fun i hi => by omega⟩
  have HS := hid (TI.start (N := N) (v0 := .slice a L cap) (v1 := v1) hops)
  have HA := hid ha
  have HBb := hid hb
  rw [ia_zero] at HS
  clear h h1 h2 h3 hops ha hb
  go_enter Try.func6, Try.ntmps6
  go_wp2
  go_loopw [4] (fun i wr => ∃ j : Nat, j ≤ L ∧ i = .int .i64 j ∧ TI w wr N (.slice a L cap) v1 b off L f j) (fun i _ => L - (intOf i).toNat)
  case atStart => exact ⟨0, by omega, rfl, HS.out⟩
  case round =>
    obtain ⟨j, hj, rfl, hI⟩ := hrel
    have HI := hid hI
    clear hI
    have t1 := HI.out.tb.o
    by_cases hlt : j < L
    · have t2 := (HI.out.ops j hlt).k
      have hae := HA.out (by omega)
      subst hae
      have j1 : (0 : Int) ≤ (j : Int) := by omega
      have j2 : (j : Int) < (L : Int) := by omega
      have hct : tal f j (kd (f j)) ≤ j := cnt_le _ _ _
      have t3 := HI.out.arr.cell (kd_lt (f j))
      have t4 := HI.out.arr.free (kd (f j))
      have HN := hid (HI.out.step (HBb.out (by omega)))
      have hk13 := kd_lt (f j)
      have e2 : IntKind.i64.wrap ((tal f j (kd (f j)) : Int) + 1) = ((tal f j (kd (f j)) + 1 : Nat) : Int) := by rw [IntKind.wrap_i64]; omega
      by_cases hk : (f j).K < 1 ∨ 12 < (f j).K
      · have hkd : kd (f j) = 0 := by unfold kd; rw [if_pos hk]
        rw [hkd] at t3 t4 HN e2
        generalize tal f j 0 = c at *
        generalize (f j).K = K at *
        rcases hk with hk | hk
        · go_wp2
          go_roundw
          case rel => exact ⟨j + 1, by omega, by go_num, HN.out⟩
          case measure => simp [intOf]; omega
        · have hk2 : ¬ K < 1 := by omega
          go_wp2
          go_roundw
          case rel => exact ⟨j + 1, by omega, by go_num, HN.out⟩
          case measure => simp [intOf]; omega
      · have hkd : (f j).K = (kd (f j) : Int) := by unfold kd; rw [if_neg hk]; omega
        rw [hkd] at t2
        have hk1 : ¬ ((kd (f j) : Nat) : Int) < 1 := by omega
        have hk2 : ¬ 12 < ((kd (f j) : Nat) : Int) := by omega
        generalize kd (f j) = k at *
        generalize tal f j k = c at *
        have k1 : (0 : Int) ≤ (k : Int) := by omega
        have k2 : (k : Int) < 13 := by omega
        clear hk hkd
        go_wp2
        go_roundw
        case rel => exact ⟨j + 1, by omega, by go_num, HN.out⟩
        case measure => simp [intOf]; omega
    · obtain rfl : j = L := by omega
      have HM := hid HI.out.arr
      have HE := hid HI.out.res
      go_wp2_with (first
        | (refine step_load_ia rfl 28 _ rfl (w.heap.size + 2) 13 28 3 _ rfl HM.out Try.underlying28 kinf13 ?_)
        | (refine step_store_ia rfl 28 _ _ rfl (w.heap.size + 1) 13 28 _ _ rfl rfl HE.out kinf13 ?_))
      exact ret_ia rfl rfl Try.underlying28 kinf13 rfl (HI.out.res.row (tal f j)) ⟨rfl, below_setRow HI.out.low (by omega) _⟩
end Go.Proofs.Ythopdlcmmafcaaa
