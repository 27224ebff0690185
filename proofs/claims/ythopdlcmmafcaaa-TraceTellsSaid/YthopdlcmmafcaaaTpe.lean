import Derived.Test.YthopdlcmmafcaaaProg
import Derived.Test.YthopdlcmmafcaaaTpd
/- Trace: why it is none, by the (scratch) program. -/
namespace Go.Proofs.Ythopdlcmmafcaaa
open Go.RowKit
set_option maxRecDepth 100000
theorem tbox3 {w : World} {p : Nat} {n : Int} {v0 v1 : Value} (h : w.heap[p]? = some (.cells #[.int .i64 n, v0, v1] 25 (0, 0))) : w.cell? ⟨p, 0, none⟩ = some (.int .i64 n) ∧ w.cell? ⟨p, 1, none⟩ = some v0 ∧ w.cell? ⟨p, 2, none⟩ = some v1 :=
  ⟨by rw [cell_of_row w _ 0 _ _ _ h]; rfl, by rw [cell_of_row w _ 1 _ _ _ h]; rfl, by rw [cell_of_row w _ 2 _ _ _ h]; rfl⟩
set_option maxHeartbeats 3200000 in
theorem tcheck_any (N : Int) (v0 v1 : Value) (L M : Nat) (f : Nat → Op6) (g : Nat → Sp3) (w : World) (h : ROp w v0 L f) (h' : RSp w v1 M g) :
    Calls Try.prog 7 #[trV N v0 v1] w fun e w' => e = .returned (.int .i64 (if trB N L M f g then 0 else 4)) ∧ Below w.heap.size w w' := by
  obtain ⟨a0, cap0, rfl, _⟩ := id h.at_
  obtain ⟨a, cap, rfl, _⟩ := id h'.at_
  have HB : Hid (Below w.heap.size w (w.alloc (.cells #[.int .i64 N, .slice a0 L cap0, .slice a M cap] 25))) := hid ((Below.refl _ _).alloc (Nat.le_refl _) _)
  have HX := hid (heap_alloc_new w (.cells #[.int .i64 N, .slice a0 L cap0, .slice a M cap] 25))
  have HO := hid (fun w' (hb : Below w.heap.size w w') => tops_any N (.slice a0 L cap0) (.slice a M cap) L f w' (h.self hb))
  have HS := hid (fun w' (hb : Below w.heap.size w w') => tblocks_any N (.slice a0 L cap0) (.slice a M cap) L M f g w' (h.self hb) (h'.self hb))
  have e : trB N L M f g = (decide ((N = 2 ∨ N = 3) ∧ L ≤ 1048576) && allB (okO N f) L && allB (okS L g) M) := rfl
  rw [e]
  clear h h' e
  generalize allB (okO N f) L = q1 at *
  generalize allB (okS L g) M = q2 at *
  by_cases hN : N = 2 ∨ N = 3
  · by_cases hL : L ≤ 1048576
    · rw [decide_eq_true (And.intro hN hL), Bool.true_and]
      have gL : ¬ (1048576 : Int) < (L : Int) := by omega
      have gL' : decide ((1048576 : Int) < (L : Int)) = false := decide_eq_false gL
      clear hL gL
      rcases hN with rfl | rfl
      all_goals cases q1
      all_goals cases q2
      all_goals
        go_enter Try.func7, Try.ntmps7
        go_wp2_with (first
          | (go_at_call 17; (with_reducible refine (HO.out _ HB.out).mono ?_); rintro e w2 ⟨rfl, hb⟩; have H2 := hid (HB.out.trans (hb.mono HB.out.size)); obtain ⟨c0, c1, c2⟩ := tbox3 ((hb.block _ (by simp)).trans HX.out); clear hb)
          | (go_at_call 18; (with_reducible refine (HS.out _ H2.out).mono ?_); rintro e w3 ⟨rfl, hb⟩; have H3 := hid (H2.out.trans (hb.mono H2.out.size)); clear hb))
        go_ret
        first | exact ⟨rfl, H3.out⟩ | exact ⟨rfl, H2.out⟩
    · rw [decide_eq_false (fun e => hL e.2), Bool.false_and, Bool.false_and]
      have gL' : decide ((1048576 : Int) < (L : Int)) = true := decide_eq_true (by omega)
      clear hL
      rcases hN with rfl | rfl
      all_goals
        go_enter Try.func7, Try.ntmps7
        go_wp2
        go_ret
        exact ⟨rfl, HB.out⟩
  · rw [decide_eq_false (fun e => hN e.1), Bool.false_and, Bool.false_and]
    have g2 : (N != 2) = true := by simp; omega
    have g3 : (N != 3) = true := by simp; omega
    clear hN
    go_enter Try.func7, Try.ntmps7
    go_wp2
    go_ret
    exact ⟨rfl, HB.out⟩
end Go.Proofs.Ythopdlcmmafcaaa
