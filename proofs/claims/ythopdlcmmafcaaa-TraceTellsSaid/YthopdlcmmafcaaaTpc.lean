import Derived.Test.YthopdlcmmafcaaaProg
import Derived.Test.YthopdlcmmafcaaaTpb
import Derived.Test.YthopdlcmmafcaaaRwg
/- Trace: tallies, what is opened, why it is none, by the (scratch) program. -/
namespace Go.Proofs.Ythopdlcmmafcaaa
open Go.RowKit
set_option maxRecDepth 100000
/-- The result's block, and the tally so far. -/
structure Tj (w wr : World) (f : Nat → Op6) (j : Nat) : Prop where
  out : wr.heap[w.heap.size + 1]? = some (.cells #[.int .i64 0, .int .i64 0, .int .i64 0, .int .i64 0, .int .i64 0, .int .i64 0, .int .i64 0, .int .i64 0, .int .i64 0, .int .i64 0, .int .i64 0, .int .i64 0, .int .i64 0] 28 (0, 0))
  tly : Ai wr (w.heap.size + 2) 13 28 (tal f j)
  low : Below w.heap.size w wr
theorem tal_le' (f : Nat → Op6) (L k : Nat) : tal f L k ≤ L := cnt_le _ f L
theorem tal_zero (f : Nat → Op6) : tal f 0 = fun _ => 0 := rfl
theorem Tj.start {w : World} {f : Nat → Op6} {c : Array Value} : Tj w (((w.alloc (.cells c 25)).alloc (.cells #[.int .i64 0, .int .i64 0, .int .i64 0, .int .i64 0, .int .i64 0, .int .i64 0, .int .i64 0, .int .i64 0, .int .i64 0, .int .i64 0, .int .i64 0, .int .i64 0, .int .i64 0] 28)).alloc (.cells #[.int .i64 0, .int .i64 0, .int .i64 0, .int .i64 0, .int .i64 0, .int .i64 0, .int .i64 0, .int .i64 0, .int .i64 0, .int .i64 0, .int .i64 0, .int .i64 0, .int .i64 0] 28)) f 0 := by
  refine ⟨?_, ?_, (((Below.refl _ w).alloc (Nat.le_refl _) _).alloc (by simp) _).alloc (by simp; omega) _⟩
  · rw [heap_alloc_old _ _ (by simp)]
    have := heap_alloc_new (w.alloc (.cells c 25)) (.cells #[.int .i64 0, .int .i64 0, .int .i64 0, .int .i64 0, .int .i64 0, .int .i64 0, .int .i64 0, .int .i64 0, .int .i64 0, .int .i64 0, .int .i64 0, .int .i64 0, .int .i64 0] 28)
    rw [show (w.alloc (.cells c 25)).heap.size = w.heap.size + 1 by simp] at this
    exact this
  · have := heap_alloc_new ((w.alloc (.cells c 25)).alloc (.cells #[.int .i64 0, .int .i64 0, .int .i64 0, .int .i64 0, .int .i64 0, .int .i64 0, .int .i64 0, .int .i64 0, .int .i64 0, .int .i64 0, .int .i64 0, .int .i64 0, .int .i64 0] 28)) (.cells #[.int .i64 0, .int .i64 0, .int .i64 0, .int .i64 0, .int .i64 0, .int .i64 0, .int .i64 0, .int .i64 0, .int .i64 0, .int .i64 0, .int .i64 0, .int .i64 0, .int .i64 0] 28)
    rw [show ((w.alloc (.cells c 25)).alloc (.cells #[.int .i64 0, .int .i64 0, .int .i64 0, .int .i64 0, .int .i64 0, .int .i64 0, .int .i64 0, .int .i64 0, .int .i64 0, .int .i64 0, .int .i64 0, .int .i64 0, .int .i64 0] 28)).heap.size = w.heap.size + 2 by simp] at this
    exact this
theorem Tj.alloc {w wr : World} {f : Nat → Op6} {j : Nat} (h : Tj w wr f j) (o : Obj) : Tj w (wr.alloc o) f j :=
  ⟨by rw [heap_alloc_old _ _ (Array.getElem?_eq_some_iff.1 h.out).1]; exact h.out, h.tly.self ((Below.refl _ wr).alloc (Nat.le_refl _) o), h.low.alloc h.low.size o⟩
theorem Tj.next {w wr : World} {f : Nat → Op6} {j : Nat} (h : Tj w wr f j) : Tj w (wr.setCell ⟨w.heap.size + 2, kd (f j), none⟩ (.int .i64 ((tal f j (kd (f j)) + 1 : Nat) : Int))) f (j + 1) := by
  refine ⟨?_, ?_, h.low.trans (Below.setCell (Below.refl _ _) (by simp) _)⟩
  · rw [heap_setCell_other _ _ _ _ (by simp)]; exact h.out
  · refine (h.tly.set (kd (f j)) (tal f j (kd (f j)) + 1)).ext fun i _ => ?_
    rw [tal_step]
    by_cases e : i = kd (f j)
    · subst e; rw [upd_same, if_pos rfl]
    · rw [upd_other _ _ _ _ e, if_neg e]
set_option maxHeartbeats 6400000 in
theorem ttally_any (N : Int) (v0 v1 : Value) (L : Nat) (f : Nat → Op6) (w : World) (h : ROp w v0 L f) :
    Calls Try.prog 8 #[trV N v0 v1] w fun e w' => e = .returned (.agg (ia 13 (tal f L))) ∧ Below w.heap.size w w' := by
  obtain ⟨a, cap, rfl, _⟩ := id h.at_
  have hlim := h.lim
  obtain ⟨b, off, ha, hb, hops⟩ := rop_ops h
  have HA := hid ha
  have HOp : Hid (∀ w', Below w.heap.size w w' → ∀ i, i < L → Oc w' b (off + i * 6) (f i)) := hid (fun w' hw i hi => (hops i hi).self hw)
  clear h hops ha hb
  go_enter Try.func8, Try.ntmps8
  go_wp2
  go_loopw [9] (fun i wr => ∃ j : Nat, j ≤ L ∧ i = .int .i64 j ∧ Tj w wr f j) (fun i _ => L - (intOf i).toNat)
  case atStart => exact ⟨0, by omega, rfl, Tj.start⟩
  case round =>
    obtain ⟨j, hj, rfl, hI⟩ := hrel
    have HI := hid hI
    clear hI
    by_cases hlt : j < L
    · have hae := HA.out (by omega)
      subst hae
      have j1 : (0 : Int) ≤ (j : Int) := by omega
      have j2 : (j : Int) < (L : Int) := by omega
      obtain ⟨k0, k1, k2, k3, k4, k5⟩ := HOp.out wr HI.out.low j hlt
      have HI2 := hid (HI.out.alloc (.cells (opC (f j)) 40))
      have HNx := hid HI2.out.next
      have hcl := HI2.out.tly.cell (kd_lt (f j))
      have hfr := HI2.out.tly.free (kd (f j))
      have hle : tal f j (kd (f j)) ≤ j := tal_le' f j _
      have hw : IntKind.i64.wrap ((tal f j (kd (f j)) : Int) + 1) = ((tal f j (kd (f j)) + 1 : Nat) : Int) := by rw [IntKind.wrap_i64]; omega
      generalize tal f j (kd (f j)) = q at *
      generalize hq : q + 1 = q1 at *
      clear hle hq
      by_cases g1 : (f j).K < 1
      · have hk : kd (f j) = 0 := by unfold kd; rw [if_pos (.inl g1)]
        rw [hk] at hcl hfr HNx
        go_wp2
        go_roundw
        case rel => exact ⟨j + 1, by omega, by go_num, HNx.out⟩
        case measure => simp [intOf]; omega
      · have d1 : decide ((f j).K < 1) = false := decide_eq_false g1
        by_cases g2 : 12 < (f j).K
        · have hk : kd (f j) = 0 := by unfold kd; rw [if_pos (.inr g2)]
          rw [hk] at hcl hfr HNx
          go_wp2
          go_roundw
          case rel => exact ⟨j + 1, by omega, by go_num, HNx.out⟩
          case measure => simp [intOf]; omega
        · have d2 : decide (12 < (f j).K) = false := decide_eq_false g2
          obtain ⟨k, hk⟩ : ∃ k : Nat, (f j).K = (k : Int) := ⟨(f j).K.toNat, by omega⟩
          have hkd : kd (f j) = k := by unfold kd; rw [if_neg (by omega)]; omega
          rw [hkd] at hcl hfr HNx
          generalize f j = o at *
          obtain ⟨K, D, A, B, E, C⟩ := o
          simp only at *
          subst hk
          have k6 : (0 : Int) ≤ (k : Int) := by omega
          have k7 : (k : Int) < 13 := by omega
          go_wp2
          go_roundw
          case rel => exact ⟨j + 1, by omega, by go_num, HNx.out⟩
          case measure => simp [intOf]; omega
    · obtain rfl : j = L := by omega
      clear hlt hj
      go_wp2_with (first
        | (refine wpList_load_row rfl 28 _ rfl (w.heap.size + 2) rfl 28 (ia 13 (tal f j)) (0, 0) _ HI.out.tly Try.underlying28 rfl (by kernel_rfl) ?_)
        | (refine step_store_row rfl 28 _ _ rfl (w.heap.size + 1) 28 #[.int .i64 0, .int .i64 0, .int .i64 0, .int .i64 0, .int .i64 0, .int .i64 0, .int .i64 0, .int .i64 0, .int .i64 0, .int .i64 0, .int .i64 0, .int .i64 0, .int .i64 0] (ia 13 (tal f j)) rfl rfl HI.out.out (by kernel_rfl) (by rw [ia_size]; rfl) (ia_one 13 _) ?_))
      exact bodyPost_ret (results_cell_row (by rfl) _ _ (w.heap.size + 1) 28 (ia 13 (tal f j)) (0, 0) _ rfl (setRow_heap wr _ _ _ _ _ HI.out.out) Try.underlying28 rfl (by kernel_rfl)) rfl ⟨rfl, HI.out.low.trans ⟨rfl, rfl, rfl, by simp [World.setRow], fun k hk => setRow_other _ _ k _ (by omega)⟩⟩
end Go.Proofs.Ythopdlcmmafcaaa
