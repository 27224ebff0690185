import Derived.Test.YthkijncnndoafaaDoorTau
import Derived.Test.YthkijncnndoafaaDoorProg
import Derived.Test.YthkijncnndoafaaDoorTie
import Derived.Test.YthkijncnndoafaaDoorCards
import Derived.Test.YthkijncnndoafaaDoorGen
import Derived.Stop.LaidErr
import Derived.Lib.LaidTab
import Derived.Lay
import Derived.ChangeMaps5
import Derived.SevenTiedAt
import Derived.Test.YthkijncnndoafaaDoorKcm
/- General: masks drawn into an array, shares covered by masks, two shares a mask: the ops of fresh. No program is named. -/
namespace Go.Proofs.YthkijncnndoafaaDoor

/-- Is mask k put to share i, of c masks? Each mask is put to all but one of three shares. -/
def tch (c i k : Nat) : Bool := decide (k < c) && decide (i + k ≠ 2)
abbrev rnd6 : Op6 := ⟨1, -1, -1, -1, -1, 0⟩
abbrev xr6 (i : Nat) (r z : Int) : Op6 := ⟨5, (i : Int), r, z, -1, 0⟩
section
variable (dS : Ms → Op6 → Ms) (dR : Ms → Op6 → Int)
/-- Masks, into an array of zeros. -/
def drG (S : Ms) : Nat → Ms × (Nat → Int)
  | 0 => (S, fun _ => 0)
  | j + 1 => (dS (drG S j).1 rnd6, updI (drG S j).2 j (dR (drG S j).1 rnd6))
/-- A share with the first k pairs gone through. -/
def cvG (c i : Nat) (mk : Nat → Int) (S : Ms) (r : Int) : Nat → Ms × Int
  | 0 => (S, r)
  | k + 1 => if tch c i k = true then (dS (cvG c i mk S r k).1 (xr6 i (cvG c i mk S r k).2 (mk k)), dR (cvG c i mk S r k).1 (xr6 i (cvG c i mk S r k).2 (mk k))) else cvG c i mk S r k
/-- The first i shares. -/
def nwG (c : Nat) (mk A : Nat → Int) (S : Ms) : Nat → Ms × (Nat → Int)
  | 0 => (S, none3)
  | i + 1 => ((cvG dS dR c i mk (nwG c mk A S i).1 (A i) 3).1, updI (nwG c mk A S i).2 i (cvG dS dR c i mk (nwG c mk A S i).1 (A i) 3).2)
def sqG (S : Ms) (op : Nat → (Nat → Int) → Op6) : Nat → Ms × (Nat → Int)
  | 0 => (S, none3)
  | m + 1 => (dS (sqG S op m).1 (op m (sqG S op m).2), updI (sqG S op m).2 m (dR (sqG S op m).1 (op m (sqG S op m).2)))
def sqgR (S : Ms) (op : Nat → (Nat → Int) → Op6) (m : Nat) : Int := dR (sqG dS dR S op m).1 (op m (sqG dS dR S op m).2)
def anG (n c : Nat) (A : Nat → Int) (S : Ms) : Ms × (Nat → Int) := nwG dS dR c (drG dS dR S c).2 A (drG dS dR S c).1 n
theorem an2 (A : Nat → Int) (S : Ms) : (anG dS dR 2 1 A S).1 = (sqG dS dR S (opF2 A) 3).1 ∧ (anG dS dR 2 1 A S).2 0 = sqgR dS dR S (opF2 A) 1 ∧ (anG dS dR 2 1 A S).2 1 = sqgR dS dR S (opF2 A) 2 ∧ (anG dS dR 2 1 A S).2 2 = -1 := ⟨rfl, rfl, rfl, rfl⟩
theorem an3s (A : Nat → Int) (S : Ms) : (anG dS dR 3 2 A S).1 = (sqG dS dR S (opG3 A) 6).1 ∧ (anG dS dR 3 2 A S).2 0 = sqgR dS dR S (opG3 A) 3 ∧ (anG dS dR 3 2 A S).2 1 = sqgR dS dR S (opG3 A) 4 ∧ (anG dS dR 3 2 A S).2 2 = sqgR dS dR S (opG3 A) 5 := ⟨rfl, rfl, rfl, rfl⟩
theorem an3f (A : Nat → Int) (S : Ms) : (anG dS dR 3 3 A S).1 = (sqG dS dR S (opF3 A) 9).1 ∧ (anG dS dR 3 3 A S).2 0 = sqgR dS dR S (opF3 A) 4 ∧ (anG dS dR 3 3 A S).2 1 = sqgR dS dR S (opF3 A) 6 ∧ (anG dS dR 3 3 A S).2 2 = sqgR dS dR S (opF3 A) 8 := ⟨rfl, rfl, rfl, rfl⟩
end
/-- At the machine. -/
def dS0 (S : Ms) (o : Op6) : Ms := S.doS o 0
def dR0 (S : Ms) (o : Op6) : Int := S.doR o
theorem sq_G (S : Ms) (op : Nat → (Nat → Int) → Op6) : ∀ m, sqG dS0 dR0 S op m = sq S op m
  | 0 => rfl
  | m + 1 => by
    have ih := sq_G S op m
    unfold sqG sq
    rw [ih]
    rfl
theorem sqr_G (S : Ms) (op : Nat → (Nat → Int) → Op6) (m : Nat) : sqgR dS0 dR0 S op m = sqr S op m := by
  unfold sqgR sqr sqO sqS sqR
  rw [sq_G]
  rfl
/-- What fresh's function leaves and tells, of n shares and c masks. -/
def anS (n c : Nat) (A : Nat → Int) (S : Ms) : Ms := (anG dS0 dR0 n c A (S.beginS 2)).1.endS
def anR (n c : Nat) (A : Nat → Int) (S : Ms) : Nat → Int := (anG dS0 dR0 n c A (S.beginS 2)).2
/-- How many masks. -/
def frC (n : Int) (simple : Bool) : Nat := if n = 3 then (if simple = true then 2 else 3) else 1
theorem an_fr {S : Ms} {sm : Bool} {A : Nat → Int} (hn : S.n = 2 ∨ S.n = 3) : anS S.sh (frC S.n sm) A S = frS S sm A ∧ ∀ i, i < 3 → anR S.sh (frC S.n sm) A S i = frR S sm A i := by
  unfold frS frR frO frM frC anS anR blkS sqS
  rcases hn with e | e
  · have hsh : S.sh = 2 := by unfold Ms.sh; omega
    have h3 : ¬ S.n = 3 := by omega
    rw [hsh, if_neg h3, if_neg h3, if_neg h3, if_neg h3]
    obtain ⟨a, b, c, d⟩ := an2 dS0 dR0 A (S.beginS 2)
    rw [a, sq_G]
    refine ⟨rfl, fun i hi => ?_⟩
    rcases (by omega : i = 0 ∨ i = 1 ∨ i = 2) with rfl | rfl | rfl
    · rw [b, sqr_G, reg3_0]
    · rw [c, sqr_G, reg3_1]
    · rw [d, reg3_2]
  · have hsh : S.sh = 3 := by unfold Ms.sh; omega
    rw [hsh, if_pos e, if_pos e, if_pos e, if_pos e]
    cases sm with
    | true =>
      rw [if_pos rfl, if_pos rfl, if_pos rfl, if_pos rfl]
      obtain ⟨a, b, c, d⟩ := an3s dS0 dR0 A (S.beginS 2)
      rw [a, sq_G]
      refine ⟨rfl, fun i hi => ?_⟩
      rcases (by omega : i = 0 ∨ i = 1 ∨ i = 2) with rfl | rfl | rfl
      · rw [b, sqr_G, reg3_0]
      · rw [c, sqr_G, reg3_1]
      · rw [d, sqr_G, reg3_2]
    | false =>
      rw [if_neg (by decide), if_neg (by decide), if_neg (by decide), if_neg (by decide)]
      obtain ⟨a, b, c, d⟩ := an3f dS0 dR0 A (S.beginS 2)
      rw [a, sq_G]
      refine ⟨rfl, fun i hi => ?_⟩
      rcases (by omega : i = 0 ∨ i = 1 ∨ i = 2) with rfl | rfl | rfl
      · rw [b, sqr_G, reg3_0]
      · rw [c, sqr_G, reg3_1]
      · rw [d, sqr_G, reg3_2]
/-- Bounds. -/
theorem xr6_wf {i : Nat} {r z : Int} (hi : i ≤ 1000) (hr : I64 r) (hz : I64 z) : opwf (xr6 i r z) := xw5 (by omega) hr hz
theorem zero_wb : Wb (fun _ => 0) := fun _ => i64c 0 (by decide) (by decide)
theorem dr_bq {k : Nat} {S : Ms} (h : Bq k S) : ∀ {j}, k + j ≤ 1000000 → Bq (k + j) (drG dS0 dR0 S j).1 ∧ Wb (drG dS0 dR0 S j).2
  | 0, _ => ⟨h, zero_wb⟩
  | j + 1, hk => by
    obtain ⟨h1, h2⟩ := dr_bq h (j := j) (by omega)
    exact ⟨h1.does rw1 (by decide), h2.upd (doR_bd h1 (by omega) _)⟩
theorem cv_bq {k c i : Nat} {S : Ms} {mk : Nat → Int} {r : Int} (h : Bq k S) (hi : i ≤ 1000) (hm : Wb mk) (hr : I64 r) : ∀ {j}, k + j ≤ 1000000 → Bq (k + j) (cvG dS0 dR0 c i mk S r j).1 ∧ I64 (cvG dS0 dR0 c i mk S r j).2
  | 0, _ => ⟨h, hr⟩
  | j + 1, hk => by
    obtain ⟨h1, h2⟩ := cv_bq (c := c) h hi hm hr (j := j) (by omega)
    unfold cvG
    split
    · exact ⟨h1.does (xr6_wf hi h2 (hm j)) (by decide), doR_bd h1 (by omega) _⟩
    · exact ⟨h1.mono (by omega), h2⟩
theorem nw_bq {k c : Nat} {S : Ms} {mk A : Nat → Int} (h : Bq k S) (hm : Wb mk) (hA : Wb A) : ∀ {i}, i ≤ 1000 → k + 3 * i ≤ 1000000 → Bq (k + 3 * i) (nwG dS0 dR0 c mk A S i).1 ∧ Wb (nwG dS0 dR0 c mk A S i).2
  | 0, _, _ => ⟨h, none3_wb⟩
  | i + 1, hi, hk => by
    obtain ⟨h1, h2⟩ := nw_bq (c := c) h hm hA (i := i) (by omega) (by omega)
    obtain ⟨g1, g2⟩ := cv_bq (c := c) (i := i) h1 (by omega) hm (hA i) (j := 3) (by omega)
    exact ⟨g1.mono (by omega), h2.upd g2⟩
theorem cv_yes {c i k : Nat} (mk : Nat → Int) (S : Ms) (r : Int) (h : tch c i k = true) : (cvG dS0 dR0 c i mk S r (k + 1)).1 = (cvG dS0 dR0 c i mk S r k).1.doS (xr6 i (cvG dS0 dR0 c i mk S r k).2 (mk k)) 0 ∧ (cvG dS0 dR0 c i mk S r (k + 1)).2 = (cvG dS0 dR0 c i mk S r k).1.doR (xr6 i (cvG dS0 dR0 c i mk S r k).2 (mk k)) := by
  have e : cvG dS0 dR0 c i mk S r (k + 1) = _ := if_pos h
  rw [e]
  exact ⟨rfl, rfl⟩
theorem cv_no {c i k : Nat} (mk : Nat → Int) (S : Ms) (r : Int) (h : tch c i k = false) : cvG dS0 dR0 c i mk S r (k + 1) = cvG dS0 dR0 c i mk S r k := if_neg (by rw [h]; decide)
end Go.Proofs.YthkijncnndoafaaDoor

/- Fresh: the program's functions, over any machine. -/
namespace Go.Proofs.YthkijncnndoafaaDoor
open Go.RowKit
set_option maxRecDepth 100000
/-- The pairs of shares, as the program's table has them; the table lies in block 0. -/
def pairC : Array Value := #[.int .i64 0, .int .i64 1, .int .i64 0, .int .i64 2, .int .i64 1, .int .i64 2]
abbrev gpair : Nat := 0
/-- The table reads as its initialiser lays it. -/
def Pv (w : World) : Prop := gpair < w.heap.size ∧ ∀ i, i < 6 → w.cell? ⟨gpair, i, none⟩ = pairC[i]?
theorem Pv.stays {w w' : World} (h : Pv w) (hs : w.heap.size ≤ w'.heap.size) (hb : w'.heap[gpair]? = w.heap[gpair]?) : Pv w' :=
  ⟨Nat.lt_of_lt_of_le h.1 hs, fun i hi => by rw [← h.2 i hi]; unfold World.cell?; rw [hb]⟩
theorem Pv.self {w w' : World} (h : Pv w) (hb : Below w.heap.size w w') : Pv w' := h.stays hb.size (hb.block _ h.1)
theorem Pv.ow {Pm : World → Nat → Ms → (Nat → Prop) → Prop} {F0 : Nat → Prop} {w0 w : World} {b : Nat} {S : Ms} {bs : List (Nat × Obj)} (h : Pv w0) (hF : ¬ F0 gpair) (ho : Ow Pm F0 w0 w b S bs) : Pv w := h.stays ho.tch.size (ho.tch.block _ h.1 hF)
theorem run_index_pr (w : World) : ∀ (m : Nat) (x y : Int), (m = 0 ∧ x = 0 ∧ y = 1 ∨ m = 1 ∧ x = 0 ∧ y = 2 ∨ m = 2 ∧ x = 1 ∧ y = 2) → (Instr.index 108 (.agg pairC) (.int .i64 (m : Int))).run Tryd.prog w = .ok (.agg #[.int .i64 x, .int .i64 y]) w := by
  have hs : Tryd.t106.size = 2 := rfl
  rintro m x y (⟨rfl, rfl, rfl⟩ | ⟨rfl, rfl, rfl⟩ | ⟨rfl, rfl, rfl⟩) <;>
    simp [Instr.index, asIntOf, run_underlying Tryd.underlying108, part, run_underlying Tryd.underlying106, isAgg, go_sem, sizeOf, hs, pairC]
theorem step_index_pr {w : World} {ops : Array Oper} {rest : List Oper} {o : Oper} {a : Act} {Q : Exit → Act → World → Prop} (hgd : o.guard = none) (u v : Operand) (ho : o.op = .index 108 u v)
    (m : Nat) (x y : Int) (hm : m = 0 ∧ x = 0 ∧ y = 1 ∨ m = 1 ∧ x = 0 ∧ y = 2 ∨ m = 2 ∧ x = 1 ∧ y = 2) (hx : a.eval u = .agg pairC) (hy : a.eval v = .int .i64 (m : Int)) (k : wpList Tryd.prog ops Q rest (a.put o.dst (.agg #[.int .i64 x, .int .i64 y])) w) : wpList Tryd.prog ops Q (o :: rest) a w :=
  wpList_plain hgd fun _ hK => by
    unfold Oper.wp execOp
    simp only [ho, hx, hy, Sem.run_bind, Sem.run_pure, Result.andThen_ok, run_index_pr w m x y hm]
    exact hK _ _ k
/-- How many masks a full one takes. -/
def frD (n : Int) : Int := if n = 2 then 1 else if n = 3 then 3 else 0
theorem fdraws_any (n : Int) (w : World) : Calls Tryd.prog 46 #[.int .i64 n] w fun e w' => e = .returned (.int .i64 (frD n)) ∧ w' = w := by
  unfold frD
  by_cases h2 : n = 2
  · subst h2
    go_enter Tryd.func46, Tryd.ntmps46
    go_wp2
    go_ret
    exact ⟨rfl, rfl⟩
  · by_cases h3 : n = 3
    · subst h3
      go_enter Tryd.func46, Tryd.ntmps46
      go_wp2
      go_ret
      exact ⟨rfl, rfl⟩
    · rw [if_neg h2, if_neg h3]
      have q2 : ((n : Int) == 2) = false := by simpa using h2
      have q3 : ((n : Int) == 3) = false := by simpa using h3
      clear h2 h3
      go_enter Tryd.func46, Tryd.ntmps46
      go_wp2
      go_ret
      exact ⟨rfl, rfl⟩
set_option maxHeartbeats 3200000 in
theorem drawn_any {Pm : World → Nat → Ms → (Nat → Prop) → Prop} (hM : Mach Pm) {F0 : Nat → Prop} {w0 w : World} {b : Nat} {bs : List (Nat × Obj)} (k c : Nat) (S : Ms) (h : Ow Pm F0 w0 w b S bs) (hq : Bq k S) (hk : k + 3 ≤ 100000) (hc : c ≤ 3) :
    Calls Tryd.prog 54 #[.pointer (some ⟨b, 0, none⟩), .int .i64 (c : Int)] w fun e w' => e = .returned (.agg (wdV (drG dS0 dR0 S c).2)) ∧ Ow Pm F0 w0 w' b (drG dS0 dR0 S c).1 bs := by
  have HC : Hid (∀ (j : Nat) (bs' : List (Nat × Obj)) (w' : World), j < c → Ow Pm F0 w0 w' b (drG dS0 dR0 S j).1 bs' → Calls Tryd.prog 66 #[.pointer (some ⟨b, 0, none⟩), .int .i64 (-1)] w' fun e w2 => e = .returned (.int .i64 (dR0 (drG dS0 dR0 S j).1 rnd6)) ∧ Ow Pm F0 w0 w2 b (drG dS0 dR0 S (j + 1)).1 bs') :=
    hid (fun j bs' w' hj h' => h'.lift hM (fun F hF => hM.rand b (k + j) _ F (-1) w' hF (dr_bq hq (by omega)).1 (by omega) rw1))
  have HU : Hid (∀ j, (drG dS0 dR0 S (j + 1)).2 = updI (drG dS0 dR0 S j).2 j (dR0 (drG dS0 dR0 S j).1 rnd6)) := hid (fun j => rfl)
  have H0 : Hid (Ow Pm F0 w0 w b (drG dS0 dR0 S 0).1 bs) := hid h
  have HZ : Hid (wdV (drG dS0 dR0 S 0).2 = #[.int .i64 0, .int .i64 0, .int .i64 0]) := hid rfl
  have HC3 : Hid (c ≤ 3) := hid hc
  clear h hq hk hc
  obtain ⟨St, hSt⟩ : ∃ St : Nat → Ms, ∀ j, (drG dS0 dR0 S j).1 = St j := ⟨_, fun _ => rfl⟩
  obtain ⟨U, hU⟩ : ∃ U : Nat → Nat → Int, ∀ j, (drG dS0 dR0 S j).2 = U j := ⟨_, fun _ => rfl⟩
  simp only [hSt, hU] at *
  obtain ⟨rg, hrg⟩ : ∃ rg : Nat → Int, ∀ j, dR0 (St j) rnd6 = rg j := ⟨_, fun _ => rfl⟩
  simp only [hrg] at *
  clear hSt hU hrg
  have H1 := hid ((H0.out.new hM #[.int .i64 0, .int .i64 0, .int .i64 0] 32).new hM #[.int .i64 0, .int .i64 0, .int .i64 0] 32)
  obtain ⟨w1, hw1⟩ : ∃ w1, (w.alloc (.cells #[.int .i64 0, .int .i64 0, .int .i64 0] 32)).alloc (.cells #[.int .i64 0, .int .i64 0, .int .i64 0] 32) = w1 := ⟨_, rfl⟩
  rw [hw1] at H1
  simp only [sz_al] at H1
  have HW := hid hw1
  rw [← HZ.out] at H1
  clear hw1 H0
  go_enter Tryd.func54, Tryd.ntmps54
  go_upto_region 2 with fail
  rw [HW.out]
  go_wp2
  go_loopw [8] (fun iv wr => ∃ j : Nat, j ≤ c ∧ iv = .int .i64 j ∧ Ow Pm F0 w0 wr b (St j) ((w.heap.size + 1, .cells (wdV (U j)) 32 (0, 0)) :: (w.heap.size, .cells (wdV (U 0)) 32 (0, 0)) :: bs)) (fun iv _ => c - (intOf iv).toNat)
  case atStart => exact ⟨0, by omega, rfl, H1.out⟩
  case round =>
    clear H1
    obtain ⟨j, hj, rfl, hI⟩ := hrel
    have HI := hid hI
    clear hI
    have hc3 := HC3.out
    by_cases hlt : j < c
    · have j1 : (j : Int) < (c : Int) := by omega
      have j0 : (0 : Int) ≤ (j : Int) := by omega
      have j3 : (j : Int) < 3 := by omega
      have HJ3 : Hid (j < 3) := hid (by omega)
      have HCJ := hid (fun bs' w' h' => HC.out j bs' w' hlt h')
      have HER : Hid ((wdV (U j)).setIfInBounds j (.int .i64 (rg j)) = wdV (U (j + 1))) := hid (by rw [wdV_upd _ j _ (by omega), HU.out j])
      go_wp2_with (go_at_call 66; (with_reducible refine (HCJ.out _ _ HI.out).mono ?_); rintro e w6 ⟨rfl, h6⟩; have H6 := hid h6; have cj := row_c (i := j) (H6.out.bl 0 rfl) (wdV_at (U j) j HJ3.out); have fj := frozen_of_row w6 (w.heap.size + 1) j _ _ (H6.out.bl 0 rfl); clear h6)
      have H7 := hid (H6.out.cell hM j (.int .i64 (rg j)))
      rw [HER.out] at H7
      go_roundw
      case rel => exact ⟨j + 1, by omega, by go_num, H7.out⟩
      case measure => simp [intOf]; omega
    · obtain rfl : j = c := by omega
      clear hlt
      go_wp2_with (first
        | (refine step_load_row rfl 32 _ rfl (w.heap.size + 1) 32 (wdV (U j)) _ rfl (HI.out.bl 0 rfl) Tryd.underlying32 rfl (by kernel_rfl) ?_)
        | (refine step_store_row rfl 32 _ _ rfl w.heap.size 32 _ (wdV (U j)) rfl rfl (HI.out.bl 1 rfl) (by kernel_rfl) rfl (by kernel_rfl) ?_))
      have H8 := hid (HI.out.swap.row hM (wdV (U j)))
      exact bodyPost_ret (results_cell_row (by rfl) _ _ w.heap.size 32 (wdV (U j)) (0, 0) _ rfl (H8.out.bl 0 rfl) Tryd.underlying32 rfl (by kernel_rfl)) rfl ⟨rfl, H8.out.drop.drop⟩
set_option maxHeartbeats 6400000 in
theorem covered0_any {Pm : World → Nat → Ms → (Nat → Prop) → Prop} (hM : Mach Pm) {F0 : Nat → Prop} {w0 w : World} {b : Nat} {bs : List (Nat × Obj)} (k c : Nat) (S : Ms) (r : Int) (mk : Nat → Int) (h : Ow Pm F0 w0 w b S bs) (hp : Pv w0) (hF : ¬ F0 gpair) (hq : Bq k S) (hk : k + 3 ≤ 100000) (hr : I64 r) (hm : Wb mk) :
    Calls Tryd.prog 55 #[.pointer (some ⟨b, 0, none⟩), .int .i64 0, .int .i64 r, .agg (wdV mk), .int .i64 (c : Int)] w fun e w' => e = .returned (.int .i64 (cvG dS0 dR0 c 0 mk S r 3).2) ∧ Ow Pm F0 w0 w' b (cvG dS0 dR0 c 0 mk S r 3).1 bs := by
  have HPV : Hid (∀ (bs' : List (Nat × Obj)) (S' : Ms) (w' : World), Ow Pm F0 w0 w' b S' bs' → Pv w') := hid (fun bs' S' w' h' => hp.ow hF h')
  have HC : Hid (∀ (j : Nat) (bs' : List (Nat × Obj)) (w' : World), j < 3 → tch c 0 j = true → Ow Pm F0 w0 w' b (cvG dS0 dR0 c 0 mk S r j).1 bs' → Calls Tryd.prog 67 #[.pointer (some ⟨b, 0, none⟩), .int .i64 5, .int .i64 0, .int .i64 (cvG dS0 dR0 c 0 mk S r j).2, .int .i64 (mk j)] w' fun e w2 => e = .returned (.int .i64 (cvG dS0 dR0 c 0 mk S r (j + 1)).2) ∧ Ow Pm F0 w0 w2 b (cvG dS0 dR0 c 0 mk S r (j + 1)).1 bs') :=
    hid (fun j bs' w' hj ht h' => by
      obtain ⟨b1, b2⟩ := cv_bq (c := c) (i := 0) (j := j) hq (by omega) hm hr (by omega)
      obtain ⟨e1, e2⟩ := cv_yes mk S r ht
      rw [e1, e2]
      exact h'.lift hM (fun F hF => hM.two b (k + j) _ F 5 0 _ (mk j) w' hF b1 (by omega) (xr6_wf (i := 0) (by omega) b2 (hm j))))
  have HN : Hid (∀ j, tch c 0 j = false → (cvG dS0 dR0 c 0 mk S r (j + 1)).1 = (cvG dS0 dR0 c 0 mk S r j).1 ∧ (cvG dS0 dR0 c 0 mk S r (j + 1)).2 = (cvG dS0 dR0 c 0 mk S r j).2) := hid (fun j ht => by rw [cv_no mk S r ht]; exact ⟨rfl, rfl⟩)
  have H0 : Hid (Ow Pm F0 w0 w b (cvG dS0 dR0 c 0 mk S r 0).1 bs) := hid h
  have HR0 : Hid ((cvG dS0 dR0 c 0 mk S r 0).2 = r) := hid rfl
  clear h hp hF hq hk hr hm
  obtain ⟨St, hSt⟩ : ∃ St : Nat → Ms, ∀ j, (cvG dS0 dR0 c 0 mk S r j).1 = St j := ⟨_, fun _ => rfl⟩
  obtain ⟨U, hU⟩ : ∃ U : Nat → Int, ∀ j, (cvG dS0 dR0 c 0 mk S r j).2 = U j := ⟨_, fun _ => rfl⟩
  simp only [hSt, hU] at *
  clear hSt hU
  have H1 := hid (H0.out.new hM (wdV mk) 32)
  obtain ⟨w1, hw1⟩ : ∃ w1, w.alloc (.cells (wdV mk) 32) = w1 := ⟨_, rfl⟩
  rw [hw1] at H1
  have HW := hid hw1
  rw [← HR0.out]
  clear hw1 H0 HR0
  go_enter Tryd.func55, Tryd.ntmps55
  go_upto_region 1 with fail
  rw [HW.out]
  have PV := (HPV.out _ _ _ H1.out).2
  have g0 : w1.cell? ⟨0, 0, none⟩ = some (.int .i64 0) := PV 0 (by decide)
  have g1 : w1.cell? ⟨0, 1, none⟩ = some (.int .i64 1) := PV 1 (by decide)
  have g2 : w1.cell? ⟨0, 2, none⟩ = some (.int .i64 0) := PV 2 (by decide)
  have g3 : w1.cell? ⟨0, 3, none⟩ = some (.int .i64 2) := PV 3 (by decide)
  have g4 : w1.cell? ⟨0, 4, none⟩ = some (.int .i64 1) := PV 4 (by decide)
  have g6 : w1.cell? ⟨0, 5, none⟩ = some (.int .i64 2) := PV 5 (by decide)
  clear PV
  go_wp2
  go_loopw [2, 14] (fun rv iv wr => ∃ j : Nat, j ≤ 3 ∧ iv = .int .i64 j ∧ rv = .int .i64 (U j) ∧ Ow Pm F0 w0 wr b (St j) ((w.heap.size, .cells (wdV mk) 32 (0, 0)) :: bs)) (fun _ iv _ => 3 - (intOf iv).toNat)
  case atStart => exact ⟨0, by omega, rfl, rfl, H1.out⟩
  case round =>
    clear H1
    obtain ⟨j, hj, rfl, rfl, hI⟩ := hrel
    have HI := hid hI
    clear hI
    rcases (by omega : j = 0 ∨ j = 1 ∨ j = 2 ∨ j = 3) with rfl | rfl | rfl | rfl
    · rw [show ((0 : Nat) : Int) = 0 from rfl]
      have H3 := hid (HI.out.new hM #[.int .i64 0, .int .i64 1] 106)
      go_upto_region 4 with (refine step_index_pr rfl _ _ rfl 0 0 1 (by decide) rfl rfl ?_)
      obtain ⟨g5, hg5⟩ : ∃ g5, wr.heap.size = g5 := ⟨_, rfl⟩
      rw [hg5] at H3 ⊢
      generalize wr.alloc (.cells #[.int .i64 0, .int .i64 1] 106) = w3 at *
      clear hg5 HI
      try clear g0 g1 g2 g3 g4 g6
      have c0 := row_c (i := 0) (u := .int .i64 0) (H3.out.bl 0 rfl) rfl
      have c1 := row_c (i := 1) (u := .int .i64 1) (H3.out.bl 0 rfl) rfl
      have cm := row_c (i := 0) (u := .int .i64 (mk 0)) (H3.out.bl 1 rfl) rfl
      by_cases hkc : 0 < c
      · have q0 : decide ((0 : Int) < (c : Int)) = true := decide_eq_true (by omega)
        have q1 : decide (0 < c) = true := decide_eq_true (by omega)
        have HT : Hid (tch c 0 0 = true) := hid (by unfold tch; rw [decide_eq_true hkc]; rfl)
        clear hkc
        go_wp2_with (go_at_call 67; (with_reducible refine (HC.out 0 _ _ (by decide) HT.out H3.out).mono ?_); rintro e w4 ⟨rfl, h4⟩; have H4 := hid h4; clear h4)
        go_roundw
        case rel => exact ⟨1, by omega, rfl, rfl, H4.out.drop⟩
        case measure => simp [intOf]
      · have q0 : decide ((0 : Int) < (c : Int)) = false := decide_eq_false (by omega)
        have q1 : decide (0 < c) = false := decide_eq_false (by omega)
        have HT := hid (HN.out 0 (by unfold tch; rw [decide_eq_false hkc]; rfl))
        clear hkc
        go_wp2
        go_roundw
        case rel => exact ⟨1, by omega, rfl, by rw [HT.out.2], by rw [HT.out.1]; exact H3.out.drop⟩
        case measure => simp [intOf]
    · rw [show ((1 : Nat) : Int) = 1 from rfl]
      have H3 := hid (HI.out.new hM #[.int .i64 0, .int .i64 2] 106)
      go_upto_region 4 with (refine step_index_pr rfl _ _ rfl 1 0 2 (by decide) rfl rfl ?_)
      obtain ⟨g5, hg5⟩ : ∃ g5, wr.heap.size = g5 := ⟨_, rfl⟩
      rw [hg5] at H3 ⊢
      generalize wr.alloc (.cells #[.int .i64 0, .int .i64 2] 106) = w3 at *
      clear hg5 HI
      try clear g0 g1 g2 g3 g4 g6
      have c0 := row_c (i := 0) (u := .int .i64 0) (H3.out.bl 0 rfl) rfl
      have c1 := row_c (i := 1) (u := .int .i64 2) (H3.out.bl 0 rfl) rfl
      have cm := row_c (i := 1) (u := .int .i64 (mk 1)) (H3.out.bl 1 rfl) rfl
      by_cases hkc : 1 < c
      · have q0 : decide ((1 : Int) < (c : Int)) = true := decide_eq_true (by omega)
        have HT : Hid (tch c 0 1 = true) := hid (by unfold tch; rw [decide_eq_true hkc]; rfl)
        clear hkc
        go_wp2_with (go_at_call 67; (with_reducible refine (HC.out 1 _ _ (by decide) HT.out H3.out).mono ?_); rintro e w4 ⟨rfl, h4⟩; have H4 := hid h4; clear h4)
        go_roundw
        case rel => exact ⟨2, by omega, rfl, rfl, H4.out.drop⟩
        case measure => simp [intOf]
      · have q0 : decide ((1 : Int) < (c : Int)) = false := decide_eq_false (by omega)
        have HT := hid (HN.out 1 (by unfold tch; rw [decide_eq_false hkc]; rfl))
        clear hkc
        go_wp2
        go_roundw
        case rel => exact ⟨2, by omega, rfl, by rw [HT.out.2], by rw [HT.out.1]; exact H3.out.drop⟩
        case measure => simp [intOf]
    · rw [show ((2 : Nat) : Int) = 2 from rfl]
      have H3 := hid (HI.out.new hM #[.int .i64 1, .int .i64 2] 106)
      go_upto_region 4 with (refine step_index_pr rfl _ _ rfl 2 1 2 (by decide) rfl rfl ?_)
      obtain ⟨g5, hg5⟩ : ∃ g5, wr.heap.size = g5 := ⟨_, rfl⟩
      rw [hg5] at H3 ⊢
      generalize wr.alloc (.cells #[.int .i64 1, .int .i64 2] 106) = w3 at *
      clear hg5 HI
      try clear g0 g1 g2 g3 g4 g6
      have c0 := row_c (i := 0) (u := .int .i64 1) (H3.out.bl 0 rfl) rfl
      have c1 := row_c (i := 1) (u := .int .i64 2) (H3.out.bl 0 rfl) rfl
      have cm := row_c (i := 2) (u := .int .i64 (mk 2)) (H3.out.bl 1 rfl) rfl
      by_cases hkc : 2 < c
      · have q0 : decide ((2 : Int) < (c : Int)) = true := decide_eq_true (by omega)
        have HT := hid (HN.out 2 (by unfold tch; rw [decide_eq_true hkc]; rfl))
        clear hkc
        go_wp2
        go_roundw
        case rel => exact ⟨3, by omega, rfl, by rw [HT.out.2], by rw [HT.out.1]; exact H3.out.drop⟩
        case measure => simp [intOf]
      · have q0 : decide ((2 : Int) < (c : Int)) = false := decide_eq_false (by omega)
        have HT := hid (HN.out 2 (by unfold tch; rw [decide_eq_false hkc]; rfl))
        clear hkc
        go_wp2
        go_roundw
        case rel => exact ⟨3, by omega, rfl, by rw [HT.out.2], by rw [HT.out.1]; exact H3.out.drop⟩
        case measure => simp [intOf]
    · rw [show ((3 : Nat) : Int) = 3 from rfl]
      go_wp2
      go_ret
      exact ⟨rfl, HI.out.drop⟩
set_option maxHeartbeats 6400000 in
theorem covered1_any {Pm : World → Nat → Ms → (Nat → Prop) → Prop} (hM : Mach Pm) {F0 : Nat → Prop} {w0 w : World} {b : Nat} {bs : List (Nat × Obj)} (k c : Nat) (S : Ms) (r : Int) (mk : Nat → Int) (h : Ow Pm F0 w0 w b S bs) (hp : Pv w0) (hF : ¬ F0 gpair) (hq : Bq k S) (hk : k + 3 ≤ 100000) (hr : I64 r) (hm : Wb mk) :
    Calls Tryd.prog 55 #[.pointer (some ⟨b, 0, none⟩), .int .i64 1, .int .i64 r, .agg (wdV mk), .int .i64 (c : Int)] w fun e w' => e = .returned (.int .i64 (cvG dS0 dR0 c 1 mk S r 3).2) ∧ Ow Pm F0 w0 w' b (cvG dS0 dR0 c 1 mk S r 3).1 bs := by
  have HPV : Hid (∀ (bs' : List (Nat × Obj)) (S' : Ms) (w' : World), Ow Pm F0 w0 w' b S' bs' → Pv w') := hid (fun bs' S' w' h' => hp.ow hF h')
  have HC : Hid (∀ (j : Nat) (bs' : List (Nat × Obj)) (w' : World), j < 3 → tch c 1 j = true → Ow Pm F0 w0 w' b (cvG dS0 dR0 c 1 mk S r j).1 bs' → Calls Tryd.prog 67 #[.pointer (some ⟨b, 0, none⟩), .int .i64 5, .int .i64 1, .int .i64 (cvG dS0 dR0 c 1 mk S r j).2, .int .i64 (mk j)] w' fun e w2 => e = .returned (.int .i64 (cvG dS0 dR0 c 1 mk S r (j + 1)).2) ∧ Ow Pm F0 w0 w2 b (cvG dS0 dR0 c 1 mk S r (j + 1)).1 bs') :=
    hid (fun j bs' w' hj ht h' => by
      obtain ⟨b1, b2⟩ := cv_bq (c := c) (i := 1) (j := j) hq (by omega) hm hr (by omega)
      obtain ⟨e1, e2⟩ := cv_yes mk S r ht
      rw [e1, e2]
      exact h'.lift hM (fun F hF => hM.two b (k + j) _ F 5 1 _ (mk j) w' hF b1 (by omega) (xr6_wf (i := 1) (by omega) b2 (hm j))))
  have HN : Hid (∀ j, tch c 1 j = false → (cvG dS0 dR0 c 1 mk S r (j + 1)).1 = (cvG dS0 dR0 c 1 mk S r j).1 ∧ (cvG dS0 dR0 c 1 mk S r (j + 1)).2 = (cvG dS0 dR0 c 1 mk S r j).2) := hid (fun j ht => by rw [cv_no mk S r ht]; exact ⟨rfl, rfl⟩)
  have H0 : Hid (Ow Pm F0 w0 w b (cvG dS0 dR0 c 1 mk S r 0).1 bs) := hid h
  have HR0 : Hid ((cvG dS0 dR0 c 1 mk S r 0).2 = r) := hid rfl
  clear h hp hF hq hk hr hm
  obtain ⟨St, hSt⟩ : ∃ St : Nat → Ms, ∀ j, (cvG dS0 dR0 c 1 mk S r j).1 = St j := ⟨_, fun _ => rfl⟩
  obtain ⟨U, hU⟩ : ∃ U : Nat → Int, ∀ j, (cvG dS0 dR0 c 1 mk S r j).2 = U j := ⟨_, fun _ => rfl⟩
  simp only [hSt, hU] at *
  clear hSt hU
  have H1 := hid (H0.out.new hM (wdV mk) 32)
  obtain ⟨w1, hw1⟩ : ∃ w1, w.alloc (.cells (wdV mk) 32) = w1 := ⟨_, rfl⟩
  rw [hw1] at H1
  have HW := hid hw1
  rw [← HR0.out]
  clear hw1 H0 HR0
  go_enter Tryd.func55, Tryd.ntmps55
  go_upto_region 1 with fail
  rw [HW.out]
  have PV := (HPV.out _ _ _ H1.out).2
  have g0 : w1.cell? ⟨0, 0, none⟩ = some (.int .i64 0) := PV 0 (by decide)
  have g1 : w1.cell? ⟨0, 1, none⟩ = some (.int .i64 1) := PV 1 (by decide)
  have g2 : w1.cell? ⟨0, 2, none⟩ = some (.int .i64 0) := PV 2 (by decide)
  have g3 : w1.cell? ⟨0, 3, none⟩ = some (.int .i64 2) := PV 3 (by decide)
  have g4 : w1.cell? ⟨0, 4, none⟩ = some (.int .i64 1) := PV 4 (by decide)
  have g6 : w1.cell? ⟨0, 5, none⟩ = some (.int .i64 2) := PV 5 (by decide)
  clear PV
  go_wp2
  go_loopw [2, 14] (fun rv iv wr => ∃ j : Nat, j ≤ 3 ∧ iv = .int .i64 j ∧ rv = .int .i64 (U j) ∧ Ow Pm F0 w0 wr b (St j) ((w.heap.size, .cells (wdV mk) 32 (0, 0)) :: bs)) (fun _ iv _ => 3 - (intOf iv).toNat)
  case atStart => exact ⟨0, by omega, rfl, rfl, H1.out⟩
  case round =>
    clear H1
    obtain ⟨j, hj, rfl, rfl, hI⟩ := hrel
    have HI := hid hI
    clear hI
    rcases (by omega : j = 0 ∨ j = 1 ∨ j = 2 ∨ j = 3) with rfl | rfl | rfl | rfl
    · rw [show ((0 : Nat) : Int) = 0 from rfl]
      have H3 := hid (HI.out.new hM #[.int .i64 0, .int .i64 1] 106)
      go_upto_region 4 with (refine step_index_pr rfl _ _ rfl 0 0 1 (by decide) rfl rfl ?_)
      obtain ⟨g5, hg5⟩ : ∃ g5, wr.heap.size = g5 := ⟨_, rfl⟩
      rw [hg5] at H3 ⊢
      generalize wr.alloc (.cells #[.int .i64 0, .int .i64 1] 106) = w3 at *
      clear hg5 HI
      try clear g0 g1 g2 g3 g4 g6
      have c0 := row_c (i := 0) (u := .int .i64 0) (H3.out.bl 0 rfl) rfl
      have c1 := row_c (i := 1) (u := .int .i64 1) (H3.out.bl 0 rfl) rfl
      have cm := row_c (i := 0) (u := .int .i64 (mk 0)) (H3.out.bl 1 rfl) rfl
      by_cases hkc : 0 < c
      · have q0 : decide ((0 : Int) < (c : Int)) = true := decide_eq_true (by omega)
        have q1 : decide (0 < c) = true := decide_eq_true (by omega)
        have HT : Hid (tch c 1 0 = true) := hid (by unfold tch; rw [decide_eq_true hkc]; rfl)
        clear hkc
        go_wp2_with (go_at_call 67; (with_reducible refine (HC.out 0 _ _ (by decide) HT.out H3.out).mono ?_); rintro e w4 ⟨rfl, h4⟩; have H4 := hid h4; clear h4)
        go_roundw
        case rel => exact ⟨1, by omega, rfl, rfl, H4.out.drop⟩
        case measure => simp [intOf]
      · have q0 : decide ((0 : Int) < (c : Int)) = false := decide_eq_false (by omega)
        have q1 : decide (0 < c) = false := decide_eq_false (by omega)
        have HT := hid (HN.out 0 (by unfold tch; rw [decide_eq_false hkc]; rfl))
        clear hkc
        go_wp2
        go_roundw
        case rel => exact ⟨1, by omega, rfl, by rw [HT.out.2], by rw [HT.out.1]; exact H3.out.drop⟩
        case measure => simp [intOf]
    · rw [show ((1 : Nat) : Int) = 1 from rfl]
      have H3 := hid (HI.out.new hM #[.int .i64 0, .int .i64 2] 106)
      go_upto_region 4 with (refine step_index_pr rfl _ _ rfl 1 0 2 (by decide) rfl rfl ?_)
      obtain ⟨g5, hg5⟩ : ∃ g5, wr.heap.size = g5 := ⟨_, rfl⟩
      rw [hg5] at H3 ⊢
      generalize wr.alloc (.cells #[.int .i64 0, .int .i64 2] 106) = w3 at *
      clear hg5 HI
      try clear g0 g1 g2 g3 g4 g6
      have c0 := row_c (i := 0) (u := .int .i64 0) (H3.out.bl 0 rfl) rfl
      have c1 := row_c (i := 1) (u := .int .i64 2) (H3.out.bl 0 rfl) rfl
      have cm := row_c (i := 1) (u := .int .i64 (mk 1)) (H3.out.bl 1 rfl) rfl
      by_cases hkc : 1 < c
      · have q0 : decide ((1 : Int) < (c : Int)) = true := decide_eq_true (by omega)
        have HT := hid (HN.out 1 (by unfold tch; rw [decide_eq_true hkc]; rfl))
        clear hkc
        go_wp2
        go_roundw
        case rel => exact ⟨2, by omega, rfl, by rw [HT.out.2], by rw [HT.out.1]; exact H3.out.drop⟩
        case measure => simp [intOf]
      · have q0 : decide ((1 : Int) < (c : Int)) = false := decide_eq_false (by omega)
        have HT := hid (HN.out 1 (by unfold tch; rw [decide_eq_false hkc]; rfl))
        clear hkc
        go_wp2
        go_roundw
        case rel => exact ⟨2, by omega, rfl, by rw [HT.out.2], by rw [HT.out.1]; exact H3.out.drop⟩
        case measure => simp [intOf]
    · rw [show ((2 : Nat) : Int) = 2 from rfl]
      have H3 := hid (HI.out.new hM #[.int .i64 1, .int .i64 2] 106)
      go_upto_region 4 with (refine step_index_pr rfl _ _ rfl 2 1 2 (by decide) rfl rfl ?_)
      obtain ⟨g5, hg5⟩ : ∃ g5, wr.heap.size = g5 := ⟨_, rfl⟩
      rw [hg5] at H3 ⊢
      generalize wr.alloc (.cells #[.int .i64 1, .int .i64 2] 106) = w3 at *
      clear hg5 HI
      try clear g0 g1 g2 g3 g4 g6
      have c0 := row_c (i := 0) (u := .int .i64 1) (H3.out.bl 0 rfl) rfl
      have c1 := row_c (i := 1) (u := .int .i64 2) (H3.out.bl 0 rfl) rfl
      have cm := row_c (i := 2) (u := .int .i64 (mk 2)) (H3.out.bl 1 rfl) rfl
      by_cases hkc : 2 < c
      · have q0 : decide ((2 : Int) < (c : Int)) = true := decide_eq_true (by omega)
        have HT : Hid (tch c 1 2 = true) := hid (by unfold tch; rw [decide_eq_true hkc]; rfl)
        clear hkc
        go_wp2_with (go_at_call 67; (with_reducible refine (HC.out 2 _ _ (by decide) HT.out H3.out).mono ?_); rintro e w4 ⟨rfl, h4⟩; have H4 := hid h4; clear h4)
        go_roundw
        case rel => exact ⟨3, by omega, rfl, rfl, H4.out.drop⟩
        case measure => simp [intOf]
      · have q0 : decide ((2 : Int) < (c : Int)) = false := decide_eq_false (by omega)
        have HT := hid (HN.out 2 (by unfold tch; rw [decide_eq_false hkc]; rfl))
        clear hkc
        go_wp2
        go_roundw
        case rel => exact ⟨3, by omega, rfl, by rw [HT.out.2], by rw [HT.out.1]; exact H3.out.drop⟩
        case measure => simp [intOf]
    · rw [show ((3 : Nat) : Int) = 3 from rfl]
      go_wp2
      go_ret
      exact ⟨rfl, HI.out.drop⟩
set_option maxHeartbeats 6400000 in
theorem covered2_any {Pm : World → Nat → Ms → (Nat → Prop) → Prop} (hM : Mach Pm) {F0 : Nat → Prop} {w0 w : World} {b : Nat} {bs : List (Nat × Obj)} (k c : Nat) (S : Ms) (r : Int) (mk : Nat → Int) (h : Ow Pm F0 w0 w b S bs) (hp : Pv w0) (hF : ¬ F0 gpair) (hq : Bq k S) (hk : k + 3 ≤ 100000) (hr : I64 r) (hm : Wb mk) :
    Calls Tryd.prog 55 #[.pointer (some ⟨b, 0, none⟩), .int .i64 2, .int .i64 r, .agg (wdV mk), .int .i64 (c : Int)] w fun e w' => e = .returned (.int .i64 (cvG dS0 dR0 c 2 mk S r 3).2) ∧ Ow Pm F0 w0 w' b (cvG dS0 dR0 c 2 mk S r 3).1 bs := by
  have HPV : Hid (∀ (bs' : List (Nat × Obj)) (S' : Ms) (w' : World), Ow Pm F0 w0 w' b S' bs' → Pv w') := hid (fun bs' S' w' h' => hp.ow hF h')
  have HC : Hid (∀ (j : Nat) (bs' : List (Nat × Obj)) (w' : World), j < 3 → tch c 2 j = true → Ow Pm F0 w0 w' b (cvG dS0 dR0 c 2 mk S r j).1 bs' → Calls Tryd.prog 67 #[.pointer (some ⟨b, 0, none⟩), .int .i64 5, .int .i64 2, .int .i64 (cvG dS0 dR0 c 2 mk S r j).2, .int .i64 (mk j)] w' fun e w2 => e = .returned (.int .i64 (cvG dS0 dR0 c 2 mk S r (j + 1)).2) ∧ Ow Pm F0 w0 w2 b (cvG dS0 dR0 c 2 mk S r (j + 1)).1 bs') :=
    hid (fun j bs' w' hj ht h' => by
      obtain ⟨b1, b2⟩ := cv_bq (c := c) (i := 2) (j := j) hq (by omega) hm hr (by omega)
      obtain ⟨e1, e2⟩ := cv_yes mk S r ht
      rw [e1, e2]
      exact h'.lift hM (fun F hF => hM.two b (k + j) _ F 5 2 _ (mk j) w' hF b1 (by omega) (xr6_wf (i := 2) (by omega) b2 (hm j))))
  have HN : Hid (∀ j, tch c 2 j = false → (cvG dS0 dR0 c 2 mk S r (j + 1)).1 = (cvG dS0 dR0 c 2 mk S r j).1 ∧ (cvG dS0 dR0 c 2 mk S r (j + 1)).2 = (cvG dS0 dR0 c 2 mk S r j).2) := hid (fun j ht => by rw [cv_no mk S r ht]; exact ⟨rfl, rfl⟩)
  have H0 : Hid (Ow Pm F0 w0 w b (cvG dS0 dR0 c 2 mk S r 0).1 bs) := hid h
  have HR0 : Hid ((cvG dS0 dR0 c 2 mk S r 0).2 = r) := hid rfl
  clear h hp hF hq hk hr hm
  obtain ⟨St, hSt⟩ : ∃ St : Nat → Ms, ∀ j, (cvG dS0 dR0 c 2 mk S r j).1 = St j := ⟨_, fun _ => rfl⟩
  obtain ⟨U, hU⟩ : ∃ U : Nat → Int, ∀ j, (cvG dS0 dR0 c 2 mk S r j).2 = U j := ⟨_, fun _ => rfl⟩
  simp only [hSt, hU] at *
  clear hSt hU
  have H1 := hid (H0.out.new hM (wdV mk) 32)
  obtain ⟨w1, hw1⟩ : ∃ w1, w.alloc (.cells (wdV mk) 32) = w1 := ⟨_, rfl⟩
  rw [hw1] at H1
  have HW := hid hw1
  rw [← HR0.out]
  clear hw1 H0 HR0
  go_enter Tryd.func55, Tryd.ntmps55
  go_upto_region 1 with fail
  rw [HW.out]
  have PV := (HPV.out _ _ _ H1.out).2
  have g0 : w1.cell? ⟨0, 0, none⟩ = some (.int .i64 0) := PV 0 (by decide)
  have g1 : w1.cell? ⟨0, 1, none⟩ = some (.int .i64 1) := PV 1 (by decide)
  have g2 : w1.cell? ⟨0, 2, none⟩ = some (.int .i64 0) := PV 2 (by decide)
  have g3 : w1.cell? ⟨0, 3, none⟩ = some (.int .i64 2) := PV 3 (by decide)
  have g4 : w1.cell? ⟨0, 4, none⟩ = some (.int .i64 1) := PV 4 (by decide)
  have g6 : w1.cell? ⟨0, 5, none⟩ = some (.int .i64 2) := PV 5 (by decide)
  clear PV
  go_wp2
  go_loopw [2, 14] (fun rv iv wr => ∃ j : Nat, j ≤ 3 ∧ iv = .int .i64 j ∧ rv = .int .i64 (U j) ∧ Ow Pm F0 w0 wr b (St j) ((w.heap.size, .cells (wdV mk) 32 (0, 0)) :: bs)) (fun _ iv _ => 3 - (intOf iv).toNat)
  case atStart => exact ⟨0, by omega, rfl, rfl, H1.out⟩
  case round =>
    clear H1
    obtain ⟨j, hj, rfl, rfl, hI⟩ := hrel
    have HI := hid hI
    clear hI
    rcases (by omega : j = 0 ∨ j = 1 ∨ j = 2 ∨ j = 3) with rfl | rfl | rfl | rfl
    · rw [show ((0 : Nat) : Int) = 0 from rfl]
      have H3 := hid (HI.out.new hM #[.int .i64 0, .int .i64 1] 106)
      go_upto_region 4 with (refine step_index_pr rfl _ _ rfl 0 0 1 (by decide) rfl rfl ?_)
      obtain ⟨g5, hg5⟩ : ∃ g5, wr.heap.size = g5 := ⟨_, rfl⟩
      rw [hg5] at H3 ⊢
      generalize wr.alloc (.cells #[.int .i64 0, .int .i64 1] 106) = w3 at *
      clear hg5 HI
      try clear g0 g1 g2 g3 g4 g6
      have c0 := row_c (i := 0) (u := .int .i64 0) (H3.out.bl 0 rfl) rfl
      have c1 := row_c (i := 1) (u := .int .i64 1) (H3.out.bl 0 rfl) rfl
      have cm := row_c (i := 0) (u := .int .i64 (mk 0)) (H3.out.bl 1 rfl) rfl
      by_cases hkc : 0 < c
      · have q0 : decide ((0 : Int) < (c : Int)) = true := decide_eq_true (by omega)
        have q1 : decide (0 < c) = true := decide_eq_true (by omega)
        have HT := hid (HN.out 0 (by unfold tch; rw [decide_eq_true hkc]; rfl))
        clear hkc
        go_wp2
        go_roundw
        case rel => exact ⟨1, by omega, rfl, by rw [HT.out.2], by rw [HT.out.1]; exact H3.out.drop⟩
        case measure => simp [intOf]
      · have q0 : decide ((0 : Int) < (c : Int)) = false := decide_eq_false (by omega)
        have q1 : decide (0 < c) = false := decide_eq_false (by omega)
        have HT := hid (HN.out 0 (by unfold tch; rw [decide_eq_false hkc]; rfl))
        clear hkc
        go_wp2
        go_roundw
        case rel => exact ⟨1, by omega, rfl, by rw [HT.out.2], by rw [HT.out.1]; exact H3.out.drop⟩
        case measure => simp [intOf]
    · rw [show ((1 : Nat) : Int) = 1 from rfl]
      have H3 := hid (HI.out.new hM #[.int .i64 0, .int .i64 2] 106)
      go_upto_region 4 with (refine step_index_pr rfl _ _ rfl 1 0 2 (by decide) rfl rfl ?_)
      obtain ⟨g5, hg5⟩ : ∃ g5, wr.heap.size = g5 := ⟨_, rfl⟩
      rw [hg5] at H3 ⊢
      generalize wr.alloc (.cells #[.int .i64 0, .int .i64 2] 106) = w3 at *
      clear hg5 HI
      try clear g0 g1 g2 g3 g4 g6
      have c0 := row_c (i := 0) (u := .int .i64 0) (H3.out.bl 0 rfl) rfl
      have c1 := row_c (i := 1) (u := .int .i64 2) (H3.out.bl 0 rfl) rfl
      have cm := row_c (i := 1) (u := .int .i64 (mk 1)) (H3.out.bl 1 rfl) rfl
      by_cases hkc : 1 < c
      · have q0 : decide ((1 : Int) < (c : Int)) = true := decide_eq_true (by omega)
        have HT : Hid (tch c 2 1 = true) := hid (by unfold tch; rw [decide_eq_true hkc]; rfl)
        clear hkc
        go_wp2_with (go_at_call 67; (with_reducible refine (HC.out 1 _ _ (by decide) HT.out H3.out).mono ?_); rintro e w4 ⟨rfl, h4⟩; have H4 := hid h4; clear h4)
        go_roundw
        case rel => exact ⟨2, by omega, rfl, rfl, H4.out.drop⟩
        case measure => simp [intOf]
      · have q0 : decide ((1 : Int) < (c : Int)) = false := decide_eq_false (by omega)
        have HT := hid (HN.out 1 (by unfold tch; rw [decide_eq_false hkc]; rfl))
        clear hkc
        go_wp2
        go_roundw
        case rel => exact ⟨2, by omega, rfl, by rw [HT.out.2], by rw [HT.out.1]; exact H3.out.drop⟩
        case measure => simp [intOf]
    · rw [show ((2 : Nat) : Int) = 2 from rfl]
      have H3 := hid (HI.out.new hM #[.int .i64 1, .int .i64 2] 106)
      go_upto_region 4 with (refine step_index_pr rfl _ _ rfl 2 1 2 (by decide) rfl rfl ?_)
      obtain ⟨g5, hg5⟩ : ∃ g5, wr.heap.size = g5 := ⟨_, rfl⟩
      rw [hg5] at H3 ⊢
      generalize wr.alloc (.cells #[.int .i64 1, .int .i64 2] 106) = w3 at *
      clear hg5 HI
      try clear g0 g1 g2 g3 g4 g6
      have c0 := row_c (i := 0) (u := .int .i64 1) (H3.out.bl 0 rfl) rfl
      have c1 := row_c (i := 1) (u := .int .i64 2) (H3.out.bl 0 rfl) rfl
      have cm := row_c (i := 2) (u := .int .i64 (mk 2)) (H3.out.bl 1 rfl) rfl
      by_cases hkc : 2 < c
      · have q0 : decide ((2 : Int) < (c : Int)) = true := decide_eq_true (by omega)
        have HT : Hid (tch c 2 2 = true) := hid (by unfold tch; rw [decide_eq_true hkc]; rfl)
        clear hkc
        go_wp2_with (go_at_call 67; (with_reducible refine (HC.out 2 _ _ (by decide) HT.out H3.out).mono ?_); rintro e w4 ⟨rfl, h4⟩; have H4 := hid h4; clear h4)
        go_roundw
        case rel => exact ⟨3, by omega, rfl, rfl, H4.out.drop⟩
        case measure => simp [intOf]
      · have q0 : decide ((2 : Int) < (c : Int)) = false := decide_eq_false (by omega)
        have HT := hid (HN.out 2 (by unfold tch; rw [decide_eq_false hkc]; rfl))
        clear hkc
        go_wp2
        go_roundw
        case rel => exact ⟨3, by omega, rfl, by rw [HT.out.2], by rw [HT.out.1]; exact H3.out.drop⟩
        case measure => simp [intOf]
    · rw [show ((3 : Nat) : Int) = 3 from rfl]
      go_wp2
      go_ret
      exact ⟨rfl, HI.out.drop⟩
end Go.Proofs.YthkijncnndoafaaDoor

/- The table of pairs, as the row lists it. -/
namespace Go.Proofs.YthkijncnndoafaaDoor
open Go.ChangeShapes Go.WideShapes Go.ChangeAt Go.RowKit Go.ChangeMaps
set_option maxRecDepth 100000
theorem drop_take {cs : List Value} {i : Nat} {a b : Value} (h : (cs.drop i).take 2 = [a, b]) : cs[i]? = some a ∧ cs[i + 1]? = some b := by
  have h0 := congrArg (·[0]?) h
  have h1 := congrArg (·[1]?) h
  simp at h0 h1
  exact ⟨h0, h1⟩
theorem pairs_cells {H : Type} {enc : TypeId × Value → H} {w : World} {base : Nat} {sp : Nat → Bool} {held : Bool} {fuel : Nat} {cs : List Value} {p : List MemPlace}
    (h : DataW.trod enc Tryd.prog w base sp held fuel 108 cs = some (Rows.laid_visor_fresh_pairs, p)) : ∀ i, i < 6 → cs[i]? = pairC[i]? := by
  obtain ⟨xs, m, _, hx, _, hxl, hget⟩ := DataW.trod_array Tryd.underlying108 h
  have hc : Tryd.prog.cellsOf 106 = 2 := by kernel_rfl
  rw [hc] at hget
  have hf : xs.map (·.1) = [Lib.tabData .i64 [0, 1], Lib.tabData .i64 [0, 2], Lib.tabData .i64 [1, 2]] := by
    have := congrArg Prod.fst hx
    unfold Rows.laid_visor_fresh_pairs at this
    simp only [DataW.agg.injEq] at this
    exact this.symm
  match xs, hxl, hf, hget with
  | [(d0, q0), (d1, q1), (d2, q2)], _, hf, hget =>
    simp only [List.map_cons, List.map_nil, List.cons.injEq, and_true] at hf
    obtain ⟨rfl, rfl, rfl⟩ := hf
    have k0 := hget 0 (by omega)
    have k1 := hget 1 (by omega)
    have k2 := hget 2 (by omega)
    simp only [List.getElem?_cons_zero, List.getElem?_cons_succ] at k0 k1 k2
    have t0 := drop_take (Lib.cells_of_tab Tryd.underlying106 Tryd.underlying3 (by kernel_rfl) (by kernel_rfl) k0)
    have t1 := drop_take (Lib.cells_of_tab Tryd.underlying106 Tryd.underlying3 (by kernel_rfl) (by kernel_rfl) k1)
    have t2 := drop_take (Lib.cells_of_tab Tryd.underlying106 Tryd.underlying3 (by kernel_rfl) (by kernel_rfl) k2)
    intro i hi
    rcases (by omega : i = 0 ∨ i = 1 ∨ i = 2 ∨ i = 3 ∨ i = 4 ∨ i = 5) with rfl | rfl | rfl | rfl | rfl | rfl
    · exact t0.1
    · exact t0.2
    · exact t1.1
    · exact t1.2
    · exact t2.1
    · exact t2.2
theorem pv_of {W : World} (h : laidMet Tryd.prog [("visor/fresh.pairs", Rows.laid_visor_fresh_pairs)] W) : Pv W := by
  obtain ⟨ps, ⟨g0, t0, cs0, f0, p0, q0, hg0, ht0, hv0, hd0, _, _⟩, _⟩ := h
  have hg : Tryd.prog.globalNamed "visor/fresh.pairs" = some 0 := by kernel_rfl
  have ht : (Tryd.prog.globals[0]?).map (·.type) = some 108 := by kernel_rfl
  obtain rfl := Option.some.inj (hg.symm.trans hg0)
  obtain rfl := Option.some.inj (ht.symm.trans ht0)
  have hc := pairs_cells hd0
  have hcell : ∀ i, i < 6 → W.cell? ⟨0, i, none⟩ = pairC[i]? := fun i hi => by
    rw [World.var?_cell hg0 hv0 i, ← hc i hi]
    simp
  refine ⟨?_, hcell⟩
  have h0 := hcell 0 (by decide)
  by_cases e : 0 < W.heap.size
  · exact e
  · unfold World.cell? at h0
    rw [Array.getElem?_eq_none (by show W.heap.size ≤ 0; omega)] at h0
    exact absurd h0 (by simp [pairC])
theorem own : ownKnob Tryd.prog.godebug = none := by kernel_rfl
theorem laidOut : laidOutB Tryd.prog = true := by kernel_rfl
end Go.Proofs.YthkijncnndoafaaDoor

/- Op: may an op stand, by the program. -/
namespace Go.Proofs.YthkijncnndoafaaDoor
open Go.RowKit
set_option maxRecDepth 100000
theorem oshares_yes (n : Int) (w : World) (h : n = 2 ∨ n = 3) : Calls Tryd.prog 74 #[.int .i64 n] w fun e w' => e = .returned (.bool true) ∧ w' = w := by
  rcases h with rfl | rfl
  all_goals
    go_enter Tryd.func74, Tryd.ntmps74
    go_wp2
    go_ret
    exact ⟨rfl, rfl⟩
theorem oshares_no (n : Int) (w : World) (h : ¬ (n = 2 ∨ n = 3)) : Calls Tryd.prog 74 #[.int .i64 n] w fun e w' => e = .returned (.bool false) ∧ w' = w := by
  have g2 : (n == 2) = false := by simp; omega
  have g3 : (n == 3) = false := by simp; omega
  clear h
  go_enter Tryd.func74, Tryd.ntmps74
  go_wp2
  go_ret
  exact ⟨rfl, rfl⟩
theorem oiskind_yes (K : Int) (w : World) (h : 1 ≤ K) (h2 : K ≤ 12) : Calls Tryd.prog 73 #[.int .i64 K] w fun e w' => e = .returned (.bool true) ∧ w' = w := by
  have q1 : decide (1 ≤ K) = true := by simp [h]
  have q2 : decide (K ≤ 12) = true := by simp [h2]
  go_enter Tryd.func73, Tryd.ntmps73
  go_wp2
  go_ret
  exact ⟨rfl, rfl⟩
theorem oiskind_no (K : Int) (w : World) (h : K < 1 ∨ 12 < K) : Calls Tryd.prog 73 #[.int .i64 K] w fun e w' => e = .returned (.bool false) ∧ w' = w := by
  by_cases h1 : 1 ≤ K
  · have q1 : decide (1 ≤ K) = true := by simp [h1]
    have q2 : decide (K ≤ 12) = false := by simp; omega
    go_enter Tryd.func73, Tryd.ntmps73
    go_wp2
    go_ret
    exact ⟨rfl, rfl⟩
  · have q1 : decide (1 ≤ K) = false := by simp; omega
    go_enter Tryd.func73, Tryd.ntmps73
    go_wp2
    go_ret
    exact ⟨rfl, rfl⟩
set_option maxHeartbeats 6400000 in
theorem oregs_any (K n : Int) (w : World) (hn : n = 2 ∨ n = 3) : Calls Tryd.prog 80 #[.int .i64 K, .int .i64 n] w fun e w' => e = .returned (.int .i64 (rgN K n)) ∧ w' = w := by
  have HS := hid (oshares_yes n w hn)
  rcases kindsL K with rfl | rfl | rfl | rfl | rfl | rfl | rfl | rfl | rfl | rfl | rfl | rfl | h
  rotate_right
  · rw [rgN_zero h]
    have q2 : ¬ K = 2 := by omega
    have q5 : ¬ K = 5 := by omega
    have q6 : ¬ K = 6 := by omega
    have q7 : ¬ K = 7 := by omega
    have q8 : ¬ K = 8 := by omega
    have q9 : ¬ K = 9 := by omega
    have q10 : ¬ K = 10 := by omega
    have q11 : ¬ K = 11 := by omega
    have q12 : ¬ K = 12 := by omega
    clear h hn
    go_enter Tryd.func80, Tryd.ntmps80
    go_wp2_with (go_at_call 74; (with_reducible refine (HS.out).mono ?_); rintro e w1 ⟨rfl, rfl⟩)
    go_ret
    exact ⟨rfl, rfl⟩
  all_goals
    rcases hn with rfl | rfl
    all_goals
      simp only [rgN, reduceIte, Int.reduceEq]
      go_enter Tryd.func80, Tryd.ntmps80
      go_wp2_with (go_at_call 74; (with_reducible refine (HS.out).mono ?_); rintro e w1 ⟨rfl, rfl⟩)
      go_ret
      exact ⟨rfl, rfl⟩
/-- The op's block. -/
theorem obox (o : Op6) (w : World) : (w.alloc (.cells #[.int .i64 o.K, .int .i64 o.D, .int .i64 o.A, .int .i64 o.B, .int .i64 o.E, .int .u64 (o.C : Int)] 83)).heap[w.heap.size]? = some (.cells #[.int .i64 o.K, .int .i64 o.D, .int .i64 o.A, .int .i64 o.B, .int .i64 o.E, .int .u64 (o.C : Int)] 83 (0, 0)) := heap_alloc_new w _
theorem orc_any (o : Op6) (w : World) : Calls Tryd.prog 77 #[.agg #[.int .i64 o.K, .int .i64 o.D, .int .i64 o.A, .int .i64 o.B, .int .i64 o.E, .int .u64 (o.C : Int)]] w fun e w' => e = .returned (.bool (okC o.K o.C)) ∧ Below w.heap.size w w' := by
  obtain ⟨K, D, A, B, E, C⟩ := o
  simp only at *
  have HB : Hid (Below w.heap.size w (w.alloc (.cells #[.int .i64 K, .int .i64 D, .int .i64 A, .int .i64 B, .int .i64 E, .int .u64 (C : Int)] 83))) := hid ((Below.refl _ _).alloc (Nat.le_refl _) _)
  have e1 : decide ((C : Int) < 64) = decide (C < 64) := by congr 1; simp; omega
  have e2 : decide ((C : Int) < 1048576) = decide (C < 1048576) := by congr 1; simp; omega
  have e3 : ((C : Int) == 0) = decide (C = 0) := by rw [Bool.eq_iff_iff]; simp
  rcases kindsL K with rfl | rfl | rfl | rfl | rfl | rfl | rfl | rfl | rfl | rfl | rfl | rfl | h
  rotate_right
  · have hq : okC K C = decide (C = 0) := by
      unfold okC
      rw [if_neg (by omega), if_neg (by omega), if_neg (by omega)]
    rw [hq]
    have q2 : ¬ K = 2 := by omega
    have q3 : ¬ K = 3 := by omega
    have q4 : ¬ K = 4 := by omega
    have q8 : ¬ K = 8 := by omega
    have q9 : ¬ K = 9 := by omega
    have q10 : ¬ K = 10 := by omega
    have q11 : ¬ K = 11 := by omega
    clear h hq e1 e2
    generalize decide (C = 0) = b at *
    go_enter Tryd.func77, Tryd.ntmps77
    go_wp2
    go_ret
    exact ⟨by first | rfl | rw [e3], HB.out⟩
  all_goals
    simp only [okC, reduceIte, Int.reduceEq, or_true, true_or, or_self]
    go_enter Tryd.func77, Tryd.ntmps77
    go_wp2
    go_ret
    exact ⟨by first | rfl | rw [e1] | rw [e2] | rw [e3], HB.out⟩
/-- The domain, and the rest. -/
def okD (o : Op6) (n : Int) : Bool := if o.K = 12 then decide (o.D = -1) else decide (-1 ≤ o.D) && decide (o.D < n)
theorem okOp_parts (o : Op6) (at_ n : Int) (hK : 1 ≤ o.K ∧ o.K ≤ 12) (hn : n = 2 ∨ n = 3) : okOp o at_ n = (allB (rgB o at_ n) 3 && okD o n && okC o.K o.C) := by
  unfold okOp okH okD
  have e : decide ((n = 2 ∨ n = 3) ∧ 1 ≤ o.K ∧ o.K ≤ 12 ∧ -1 ≤ o.D ∧ o.D < n ∧ (o.K = 12 → o.D = -1)) = (if o.K = 12 then decide (o.D = -1) else decide (-1 ≤ o.D) && decide (o.D < n)) := by
    rw [Bool.eq_iff_iff]
    by_cases h : o.K = 12
    · rw [if_pos h]
      simp only [decide_eq_true_eq]
      constructor
      · rintro ⟨_, _, _, _, _, h6⟩; exact h6 h
      · intro h6; exact ⟨hn, hK.1, hK.2, by omega, by omega, fun _ => h6⟩
    · rw [if_neg h]
      simp only [decide_eq_true_eq, Bool.and_eq_true]
      constructor
      · rintro ⟨_, _, _, h4, h5, _⟩; exact ⟨h4, h5⟩
      · rintro ⟨h4, h5⟩; exact ⟨hn, hK.1, hK.2, h4, h5, fun h' => absurd h' h⟩
  rw [e, Bool.and_comm (if o.K = 12 then _ else _)]
theorem okOp_no (o : Op6) (at_ n : Int) (h : (o.K < 1 ∨ 12 < o.K) ∨ ¬ (n = 2 ∨ n = 3)) : okOp o at_ n = false := okH_no (by omega) at_
theorem ord_any (o : Op6) (n : Int) (w : World) : Calls Tryd.prog 76 #[.agg #[.int .i64 o.K, .int .i64 o.D, .int .i64 o.A, .int .i64 o.B, .int .i64 o.E, .int .u64 (o.C : Int)], .int .i64 n] w fun e w' => e = .returned (.bool (okD o n)) ∧ Below w.heap.size w w' := by
  obtain ⟨K, D, A, B, E, C⟩ := o
  have HB : Hid (Below w.heap.size w (w.alloc (.cells #[.int .i64 K, .int .i64 D, .int .i64 A, .int .i64 B, .int .i64 E, .int .u64 (C : Int)] 83))) := hid ((Below.refl _ _).alloc (Nat.le_refl _) _)
  unfold okD
  simp only at *
  by_cases h : K = 12
  · subst h
    have e1 : (D == -1) = decide (D = -1) := by rw [Bool.eq_iff_iff]; simp
    rw [if_pos rfl, ← e1]
    clear e1
    go_enter Tryd.func76, Tryd.ntmps76
    go_wp2
    go_ret
    exact ⟨rfl, HB.out⟩
  · rw [if_neg h]
    by_cases h1 : -1 ≤ D
    · have q1 : decide (-1 ≤ D) = true := decide_eq_true h1
      rw [q1, Bool.true_and]
      go_enter Tryd.func76, Tryd.ntmps76
      go_wp2
      go_ret
      exact ⟨rfl, HB.out⟩
    · have q1 : decide (-1 ≤ D) = false := decide_eq_false h1
      rw [q1, Bool.false_and]
      go_enter Tryd.func76, Tryd.ntmps76
      go_wp2
      go_ret
      exact ⟨rfl, HB.out⟩
theorem rgL_get (o : Op6) (j : Nat) (hj : j < 3) : (#[.int .i64 o.A, .int .i64 o.B, .int .i64 o.E] : Array Value)[j]? = some (.int .i64 (rgL o j)) := by
  rcases (by omega : j = 0 ∨ j = 1 ∨ j = 2) with rfl | rfl | rfl <;> rfl
theorem rgL_index (o : Op6) (j : Nat) (hj : j < 3) (w : World) : (Instr.index 32 (.agg #[.int .i64 o.A, .int .i64 o.B, .int .i64 o.E]) (.int .i64 (j : Int))).run Tryd.prog w = .ok (.int .i64 (rgL o j)) w :=
  run_index_num w 32 3 3 _ j _ Tryd.underlying32 Tryd.underlying3 (by kernel_rfl) hj (rgL_get o j hj)
set_option maxHeartbeats 6400000 in
theorem orr_any (o : Op6) (at_ n : Int) (w : World) (hn : n = 2 ∨ n = 3) : Calls Tryd.prog 75 #[.agg #[.int .i64 o.K, .int .i64 o.D, .int .i64 o.A, .int .i64 o.B, .int .i64 o.E, .int .u64 (o.C : Int)], .int .i64 at_, .int .i64 n] w fun e w' => e = .returned (.bool (allB (rgB o at_ n) 3)) ∧ Below w.heap.size w w' := by
  have HX := hid (fun j hj w => rgL_index o j hj w)
  have HR := hid (fun w => oregs_any o.K n w hn)
  have HB : Hid (Below w.heap.size w (w.alloc (.cells #[.int .i64 o.K, .int .i64 o.D, .int .i64 o.A, .int .i64 o.B, .int .i64 o.E, .int .u64 (o.C : Int)] 83))) := hid ((Below.refl _ _).alloc (Nat.le_refl _) _)
  have HG : Hid (∀ j, rgB o at_ n j = if (j : Int) < rgN o.K n then decide (0 ≤ rgL o j ∧ rgL o j < at_) else decide (rgL o j = -1)) := hid (fun _ => rfl)
  have HA : Hid (∀ j, j < 3 → rgB o at_ n j = false → allB (rgB o at_ n) 3 = false) := hid (fun j hj h => allB_no hj h)
  have HT : Hid ((∀ j, j < 3 → rgB o at_ n j = true) → allB (rgB o at_ n) 3 = true) := hid allB_of
  generalize allB (rgB o at_ n) 3 = res at *
  generalize rgN o.K n = r at *
  generalize rgB o at_ n = gb at *
  clear hn
  go_enter Tryd.func75, Tryd.ntmps75
  go_wp2_with (go_at_call 80; (with_reducible refine (HR.out _).mono ?_); rintro e w1 ⟨rfl, rfl⟩)
  go_loop [21] (fun i => ∃ j : Nat, j ≤ 3 ∧ i = .int .i64 j ∧ ∀ k, k < j → gb k = true) (fun i => 3 - (intOf i).toNat)
  case atStart => exact ⟨0, by omega, rfl, fun k hk => by omega⟩
  case round =>
    obtain ⟨j, hj, rfl, hall⟩ := hrel
    have Hall := hid hall
    clear hall
    by_cases hlt : j < 3
    · have hidx := HX.out j hlt
      have hg := HG.out j
      have HAj := hid (HA.out j hlt)
      have j1 : (0 : Int) ≤ (j : Int) := by omega
      have j2 : (j : Int) < 3 := by omega
      generalize rgL o j = z at *
      by_cases hr : (j : Int) < r
      · rw [if_pos hr] at hg
        have hr2 : ¬ r ≤ (j : Int) := by omega
        by_cases z1 : z < 0
        · have Hf := hid (HAj.out (by rw [hg]; exact decide_eq_false (by omega)))
          clear hg
          go_wp2
          go_ret
          exact ⟨by rw [Hf.out]; rfl, HB.out⟩
        · by_cases z2 : at_ ≤ z
          · have Hf := hid (HAj.out (by rw [hg]; exact decide_eq_false (by omega)))
            clear hg
            go_wp2
            go_ret
            exact ⟨by rw [Hf.out]; rfl, HB.out⟩
          · have Hy : Hid (gb j = true) := hid (by rw [hg]; exact decide_eq_true (by omega))
            clear hg
            go_wp2
            go_round
            case rel => exact ⟨j + 1, by omega, by go_num, fun k hk => by
              by_cases e : k = j
              · subst e; exact Hy.out
              · exact Hall.out k (by omega)⟩
            case measure => simp [intOf]; omega
      · rw [if_neg hr] at hg
        have hr2 : r ≤ (j : Int) := by omega
        by_cases z1 : z = -1
        · have Hy : Hid (gb j = true) := hid (by rw [hg]; exact decide_eq_true z1)
          have zn : (z != -1) = false := by simp [z1]
          clear hg
          go_wp2
          go_round
          case rel => exact ⟨j + 1, by omega, by go_num, fun k hk => by
            by_cases e : k = j
            · subst e; exact Hy.out
            · exact Hall.out k (by omega)⟩
          case measure => simp [intOf]; omega
        · have Hf := hid (HAj.out (by rw [hg]; exact decide_eq_false z1))
          have zn : (z != -1) = true := by simp [z1]
          clear hg
          go_wp2
          go_ret
          exact ⟨by rw [Hf.out]; rfl, HB.out⟩
    · obtain rfl : j = 3 := by omega
      have Ht := hid (HT.out Hall.out)
      clear hlt hj
      go_wp2
      go_ret
      exact ⟨by rw [Ht.out]; rfl, HB.out⟩
theorem ocells {w : World} {b : Nat} {o : Op6} (h : w.heap[b]? = some (.cells #[.int .i64 o.K, .int .i64 o.D, .int .i64 o.A, .int .i64 o.B, .int .i64 o.E, .int .u64 (o.C : Int)] 83 (0, 0))) :
    w.cell? ⟨b, 0, none⟩ = some (.int .i64 o.K) ∧ w.cell? ⟨b, 1, none⟩ = some (.int .i64 o.D) ∧ w.cell? ⟨b, 2, none⟩ = some (.int .i64 o.A) ∧ w.cell? ⟨b, 3, none⟩ = some (.int .i64 o.B) ∧ w.cell? ⟨b, 4, none⟩ = some (.int .i64 o.E) ∧ w.cell? ⟨b, 5, none⟩ = some (.int .u64 (o.C : Int)) :=
  ⟨by rw [cell_of_row w _ 0 _ _ _ h]; rfl, by rw [cell_of_row w _ 1 _ _ _ h]; rfl, by rw [cell_of_row w _ 2 _ _ _ h]; rfl, by rw [cell_of_row w _ 3 _ _ _ h]; rfl, by rw [cell_of_row w _ 4 _ _ _ h]; rfl, by rw [cell_of_row w _ 5 _ _ _ h]; rfl⟩
theorem oright_head (o : Op6) (at_ : Nat) (n : Int) (w : World) (h : (o.K < 1 ∨ 12 < o.K) ∨ ¬ (n = 2 ∨ n = 3)) : Calls Tryd.prog 69 #[.agg #[.int .i64 o.K, .int .i64 o.D, .int .i64 o.A, .int .i64 o.B, .int .i64 o.E, .int .u64 (o.C : Int)], .int .i64 (at_ : Int), .int .i64 n] w fun e w' => e = .returned (.bool false) ∧ Below w.heap.size w w' := by
  have HB : Hid (Below w.heap.size w (w.alloc (.cells #[.int .i64 o.K, .int .i64 o.D, .int .i64 o.A, .int .i64 o.B, .int .i64 o.E, .int .u64 (o.C : Int)] 83))) := hid ((Below.refl _ _).alloc (Nat.le_refl _) _)
  by_cases hk : o.K < 1 ∨ 12 < o.K
  · have HI := hid (fun w => oiskind_no o.K w hk)
    clear h hk
    go_enter Tryd.func69, Tryd.ntmps69
    go_wp2_with (go_at_call 73; (with_reducible refine (HI.out _).mono ?_); rintro e w1 ⟨rfl, rfl⟩)
    go_ret
    exact ⟨rfl, HB.out⟩
  · have HI := hid (fun w => oiskind_yes o.K w (by omega) (by omega))
    have HS := hid (fun w => oshares_no n w (by omega))
    clear h hk
    go_enter Tryd.func69, Tryd.ntmps69
    go_wp2_with (first | (go_at_call 73; (with_reducible refine (HI.out _).mono ?_); rintro e w1 ⟨rfl, rfl⟩) | (go_at_call 74; (with_reducible refine (HS.out _).mono ?_); rintro e w1 ⟨rfl, rfl⟩))
    go_ret
    exact ⟨rfl, HB.out⟩
set_option maxHeartbeats 6400000 in
theorem oright_body (o : Op6) (at_ : Nat) (n : Int) (w : World) (hK : 1 ≤ o.K ∧ o.K ≤ 12) (hn : n = 2 ∨ n = 3) : Calls Tryd.prog 69 #[.agg #[.int .i64 o.K, .int .i64 o.D, .int .i64 o.A, .int .i64 o.B, .int .i64 o.E, .int .u64 (o.C : Int)], .int .i64 (at_ : Int), .int .i64 n] w fun e w' => e = .returned (.bool (okOp o at_ n)) ∧ Below w.heap.size w w' := by
  rw [okOp_parts o at_ n hK hn]
  have HI := hid (fun w => oiskind_yes o.K w hK.1 hK.2)
  have HS := hid (fun w => oshares_yes n w hn)
  have HR := hid (fun w => orr_any o at_ n w hn)
  have HD := hid (fun w => ord_any o n w)
  have HC := hid (fun w => orc_any o w)
  have HB : Hid (Below w.heap.size w (w.alloc (.cells #[.int .i64 o.K, .int .i64 o.D, .int .i64 o.A, .int .i64 o.B, .int .i64 o.E, .int .u64 (o.C : Int)] 83))) := hid ((Below.refl _ _).alloc (Nat.le_refl _) _)
  have HX := hid (obox o w)
  have ha : (0 : Int) ≤ (at_ : Int) := by omega
  generalize allB (rgB o at_ n) 3 = b1 at *
  generalize okD o n = b2 at *
  generalize okC o.K o.C = b3 at *
  clear hK hn
  go_enter Tryd.func69, Tryd.ntmps69
  cases b1
  all_goals cases b2
  all_goals
    go_wp2_with (first
      | (go_at_call 73; (with_reducible refine (HI.out _).mono ?_); rintro e w1 ⟨rfl, rfl⟩)
      | (go_at_call 74; (with_reducible refine (HS.out _).mono ?_); rintro e w1 ⟨rfl, rfl⟩)
      | (go_at_call 75; (with_reducible refine (HR.out _).mono ?_); rintro e w2 ⟨rfl, hb⟩; have HX2 := hid ((hb.block _ (by simp)).trans HX.out); have HB2 := hid (HB.out.trans (hb.mono HB.out.size)); obtain ⟨d0, d1, d2, d3, d4, d5⟩ := ocells HX2.out; clear hb)
      | (go_at_call 76; (with_reducible refine (HD.out _).mono ?_); rintro e w3 ⟨rfl, hb⟩; have HX3 := hid ((hb.block _ (Array.getElem?_eq_some_iff.1 HX2.out).1).trans HX2.out); have HB3 := hid (HB2.out.trans (hb.mono HB2.out.size)); clear d0 d1 d2 d3 d4 d5; obtain ⟨d0, d1, d2, d3, d4, d5⟩ := ocells HX3.out; clear hb)
      | (go_at_call 77; (with_reducible refine (HC.out _).mono ?_); rintro e w4 ⟨rfl, hb⟩; have HB4 := hid (HB3.out.trans (hb.mono HB3.out.size)); clear hb))
  · go_ret
    exact ⟨rfl, HB2.out⟩
  · go_ret
    exact ⟨rfl, HB2.out⟩
  · go_ret
    exact ⟨rfl, HB3.out⟩
  · go_ret
    exact ⟨rfl, HB4.out⟩
theorem oright_any (o : Op6) (at_ : Nat) (n : Int) (w : World) : Calls Tryd.prog 69 #[.agg #[.int .i64 o.K, .int .i64 o.D, .int .i64 o.A, .int .i64 o.B, .int .i64 o.E, .int .u64 (o.C : Int)], .int .i64 (at_ : Int), .int .i64 n] w fun e w' => e = .returned (.bool (okOp o at_ n)) ∧ Below w.heap.size w w' := by
  by_cases h : (o.K < 1 ∨ 12 < o.K) ∨ ¬ (n = 2 ∨ n = 3)
  · rw [okOp_no o at_ n h]
    exact oright_head o at_ n w h
  · exact oright_body o at_ n w (by omega) (by omega)
end Go.Proofs.YthkijncnndoafaaDoor

/- Op: what an op makes, by the program. -/
namespace Go.Proofs.YthkijncnndoafaaDoor
open Go.RowKit

set_option maxRecDepth 100000 in
set_option maxHeartbeats 1600000 in
theorem oev_any (K D A B E : Int) (C a b d x : Nat) (w : World) (hC : C < 2 ^ 64) (ha : a < 2 ^ 64) (hb : b < 2 ^ 64) (hd : d < 2 ^ 64) (hx : x < 2 ^ 64) :
    Calls Tryd.prog 71 #[opV K D A B E C, .int .u64 (a : Int), .int .u64 (b : Int), .int .u64 (d : Int), .int .u64 (x : Int)] w fun e w' => e = .returned (.int .u64 (evN K C a b d x : Nat)) ∧ Below w.heap.size w w' := by
  have HB : Hid (Below w.heap.size w (w.alloc (.cells #[.int .i64 K, .int .i64 D, .int .i64 A, .int .i64 B, .int .i64 E, .int .u64 (C : Int)] 83))) := hid ((Below.refl _ _).alloc (Nat.le_refl _) _)
  obtain ⟨k, hk⟩ : ∃ k, C % 64 = k := ⟨_, rfl⟩
  have hk64 : k < 64 := by omega
  have m1 : (C : Int).tmod 64 = (k : Int) := by rw [← hk]; rfl
  have m2 : IntKind.i64.wrap (k : Int) = (k : Int) := by rw [IntKind.wrap_i64]; omega
  have HR11 := hid (fun w => orot_n (x := a) (m := k) (k := (k : Int)) ha (by omega) w)
  have x1 := wx64 hx ha
  have x2 := wx64 (xr_lt hx ha) hb
  have x3 := wx64 ha hb
  have x4 := wx64 (xr_lt ha hb) hd
  have a1 := wn64 ha hb
  have a2 := wn64 ha hC
  have f6 : bits .xor .u64 IntKind.u64.max (a : Int) = (wnt a : Nat) := by
    have h := wx64 (a := 2 ^ 64 - 1) (b := a) (by decide) ha
    rw [show ((2 ^ 64 - 1 : Nat) : Int) = IntKind.u64.max from rfl] at h
    rw [h, wnt_max ha]
  have f9 : IntKind.u64.wrap ((a : Int) * 2 ^ k) = (wsl a k : Nat) := by rw [IntKind.wrap_u64]; unfold wsl; simp
  have f10 : (a : Int) / 2 ^ k = (wsr a k : Nat) := by unfold wsr; simp
  unfold evN
  rw [hk]
  clear hC ha hb hd hx hk
  generalize wnt a = na at *
  generalize x ^^^ a = xa at *
  generalize xa ^^^ b = xab at *
  generalize a ^^^ b = ab at *
  generalize ab ^^^ d = abd at *
  generalize a &&& b = anb at *
  generalize a &&& C = anc at *
  generalize rt a k = ral at *
  generalize wsl a k = asl at *
  generalize wsr a k = asr at *
  rcases kinds12 K with rfl | rfl | rfl | rfl | rfl | rfl | rfl | rfl | rfl | rfl | rfl | rfl | h
  rotate_right
  · rw [if_neg (by omega), if_neg (by omega), if_neg (by omega), if_neg (by omega), if_neg (by omega), if_neg (by omega), if_neg (by omega), if_neg (by omega), if_neg (by omega), if_neg (by omega), if_neg (by omega), if_neg (by omega)]
    have q1 : ¬ K = 1 := by omega
    have q2 : ¬ K = 2 := by omega
    have q3 : ¬ K = 3 := by omega
    have q4 : ¬ K = 4 := by omega
    have q5 : ¬ K = 5 := by omega
    have q6 : ¬ K = 6 := by omega
    have q7 : ¬ K = 7 := by omega
    have q8 : ¬ K = 8 := by omega
    have q9 : ¬ K = 9 := by omega
    have q10 : ¬ K = 10 := by omega
    have q11 : ¬ K = 11 := by omega
    have q12 : ¬ K = 12 := by omega
    clear h
    go_enter Tryd.func71, Tryd.ntmps71
    go_wp2
    go_ret
    exact ⟨rfl, HB.out⟩
  all_goals
    simp only [reduceIte, Int.reduceEq]
    go_enter Tryd.func71, Tryd.ntmps71
    go_wp2_with (first
      | (go_at_call 79; (with_reducible refine (HR11.out _).mono ?_); rintro e w1 ⟨rfl, rfl⟩))
    go_ret
    exact ⟨rfl, HB.out⟩
end Go.Proofs.YthkijncnndoafaaDoor
