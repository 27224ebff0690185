import Derived.Test.YthfgpjebmhbedaaProg
import Derived.Test.YthfgpjebmhbedaaOpc
/- Op: OpSums. -/
namespace Go.Proofs.Ythfgpjebmhbedaa
open Go.RowKit
/-- The law's three boxes. -/
abbrev bxW (w : World) (K D A B E : Int) (C p0 p1 p2 p3 q0 q1 q2 q3 : Nat) : World := ((w.alloc (.cells #[.int .i64 K, .int .i64 D, .int .i64 A, .int .i64 B, .int .i64 E, .int .u64 (C : Int)] 24)).alloc (.cells #[.int .u64 (p0 : Int), .int .u64 (p1 : Int), .int .u64 (p2 : Int), .int .u64 (p3 : Int)] 28)).alloc (.cells #[.int .u64 (q0 : Int), .int .u64 (q1 : Int), .int .u64 (q2 : Int), .int .u64 (q3 : Int)] 28)
/-- What stands in them, in every later world. -/
structure Bx (n : Nat) (K D A B E : Int) (C p0 p1 p2 p3 q0 q1 q2 q3 : Nat) (w : World) : Prop where
  op : w.rangeAt n 0 [.int .i64 K, .int .i64 D, .int .i64 A, .int .i64 B, .int .i64 E, .int .u64 (C : Int)]
  k : w.cell? ⟨n, 0, none⟩ = some (.int .i64 K)
  c : w.cell? ⟨n, 5, none⟩ = some (.int .u64 (C : Int))
  p0 : w.cell? ⟨n + 1, 0, none⟩ = some (.int .u64 (p0 : Int))
  q0 : w.cell? ⟨n + 1 + 1, 0, none⟩ = some (.int .u64 (q0 : Int))
  p1 : w.cell? ⟨n + 1, 1, none⟩ = some (.int .u64 (p1 : Int))
  q1 : w.cell? ⟨n + 1 + 1, 1, none⟩ = some (.int .u64 (q1 : Int))
  p2 : w.cell? ⟨n + 1, 2, none⟩ = some (.int .u64 (p2 : Int))
  q2 : w.cell? ⟨n + 1 + 1, 2, none⟩ = some (.int .u64 (q2 : Int))
  p3 : w.cell? ⟨n + 1, 3, none⟩ = some (.int .u64 (p3 : Int))
  q3 : w.cell? ⟨n + 1 + 1, 3, none⟩ = some (.int .u64 (q3 : Int))

theorem bx_of {w w' : World} {K D A B E : Int} {C p0 p1 p2 p3 q0 q1 q2 q3 : Nat} (h : Below (bxW w K D A B E C p0 p1 p2 p3 q0 q1 q2 q3).heap.size (bxW w K D A B E C p0 p1 p2 p3 q0 q1 q2 q3) w') : Bx w.heap.size K D A B E C p0 p1 p2 p3 q0 q1 q2 q3 w' := by
  have e0 : w'.heap[w.heap.size]? = some (.cells #[.int .i64 K, .int .i64 D, .int .i64 A, .int .i64 B, .int .i64 E, .int .u64 (C : Int)] 24 (0, 0)) := by
    rw [h.block _ (by simp; omega), Below.heap_alloc _ _ _ (by simp; omega), Below.heap_alloc _ _ _ (by simp)]; exact heap_alloc_new w (.cells #[.int .i64 K, .int .i64 D, .int .i64 A, .int .i64 B, .int .i64 E, .int .u64 (C : Int)] 24)
  have e1 : w'.heap[w.heap.size + 1]? = some (.cells #[.int .u64 (p0 : Int), .int .u64 (p1 : Int), .int .u64 (p2 : Int), .int .u64 (p3 : Int)] 28 (0, 0)) := by
    rw [h.block _ (by simp), Below.heap_alloc _ _ _ (by simp)]; have := heap_alloc_new (w.alloc (.cells #[.int .i64 K, .int .i64 D, .int .i64 A, .int .i64 B, .int .i64 E, .int .u64 (C : Int)] 24)) (.cells #[.int .u64 (p0 : Int), .int .u64 (p1 : Int), .int .u64 (p2 : Int), .int .u64 (p3 : Int)] 28); simpa using this
  have e2 : w'.heap[w.heap.size + 1 + 1]? = some (.cells #[.int .u64 (q0 : Int), .int .u64 (q1 : Int), .int .u64 (q2 : Int), .int .u64 (q3 : Int)] 28 (0, 0)) := by
    rw [h.block _ (by simp)]; have := heap_alloc_new ((w.alloc (.cells #[.int .i64 K, .int .i64 D, .int .i64 A, .int .i64 B, .int .i64 E, .int .u64 (C : Int)] 24)).alloc (.cells #[.int .u64 (p0 : Int), .int .u64 (p1 : Int), .int .u64 (p2 : Int), .int .u64 (p3 : Int)] 28)) (.cells #[.int .u64 (q0 : Int), .int .u64 (q1 : Int), .int .u64 (q2 : Int), .int .u64 (q3 : Int)] 28); simpa using this
  exact { op := World.rangeAt_of_block e0 0 6, k := (by rw [cell_of_row w' _ 0 _ _ _ e0]; rfl), c := (by rw [cell_of_row w' _ 5 _ _ _ e0]; rfl), p0 := (by rw [cell_of_row w' _ 0 _ _ _ e1]; rfl), q0 := (by rw [cell_of_row w' _ 0 _ _ _ e2]; rfl), p1 := (by rw [cell_of_row w' _ 1 _ _ _ e1]; rfl), q1 := (by rw [cell_of_row w' _ 1 _ _ _ e2]; rfl), p2 := (by rw [cell_of_row w' _ 2 _ _ _ e1]; rfl), q2 := (by rw [cell_of_row w' _ 2 _ _ _ e2]; rfl), p3 := (by rw [cell_of_row w' _ 3 _ _ _ e1]; rfl), q3 := (by rw [cell_of_row w' _ 3 _ _ _ e2]; rfl) }
theorem bx_low (w : World) (K D A B E : Int) (C p0 p1 p2 p3 q0 q1 q2 q3 : Nat) : Below w.heap.size w (bxW w K D A B E C p0 p1 p2 p3 q0 q1 q2 q3) := (((Below.refl _ _).alloc (Nat.le_refl _) _).alloc (by simp) _).alloc (by simp; omega) _
/-- What the law makes of the sum, kind by kind. -/
def SumP (K : Int) (C p0 p1 q0 q1 T S : Nat) : Prop :=
  (K = 7 ∧ ∃ a b c : Nat, bits .and .u64 (p0 : Int) (q1 : Int) = (a : Int) ∧ bits .and .u64 (q0 : Int) (p1 : Int) = (b : Int) ∧ bits .xor .u64 (T : Int) (a : Int) = (c : Int) ∧ bits .xor .u64 (c : Int) (b : Int) = (S : Int)) ∨
  ((K = 3 ∨ K = 4) ∧ bits .xor .u64 (T : Int) (C : Int) = (S : Int)) ∨ (K = 6 ∧ (S : Int) = bits .xor .u64 IntKind.u64.max (T : Int)) ∨ (K ≠ 7 ∧ K ≠ 3 ∧ K ≠ 4 ∧ K ≠ 6 ∧ T = S)
theorem sum_p (K : Int) {C a b d x a' b' d' x' : Nat} (hC : C < 2 ^ 64) (ha : a < 2 ^ 64) (hb : b < 2 ^ 64) (hd : d < 2 ^ 64) (hx : x < 2 ^ 64) (ha' : a' < 2 ^ 64) (hb' : b' < 2 ^ 64) (hd' : d' < 2 ^ 64) (hx' : x' < 2 ^ 64) :
    SumP K C a b a' b' (evN K C a b d x ^^^ evN K C a' b' d' x') (evN K C (a ^^^ a') (b ^^^ b') (d ^^^ d') (x ^^^ x')) := by
  have h := ev_sum K hC ha hb hd hx ha' hb' hd' hx'
  have ht : evN K C a b d x ^^^ evN K C a' b' d' x' < 2 ^ 64 := xr_lt (evN_lt hC ha hb hd hx) (evN_lt hC ha' hb' hd' hx')
  rw [h]
  generalize evN K C a b d x ^^^ evN K C a' b' d' x' = T at *
  unfold SumP evT
  by_cases h7 : K = 7
  · exact .inl ⟨h7, _, _, _, wn64 ha hb', wn64 ha' hb, wx64 ht (an_lt ha), by rw [if_pos h7]; exact wx64 (xr_lt ht (an_lt ha)) (an_lt ha')⟩
  · rw [if_neg h7]
    by_cases h3 : K = 3 ∨ K = 4
    · rw [if_pos h3]; exact .inr (.inl ⟨h3, wx64 ht hC⟩)
    · rw [if_neg h3]
      by_cases h6 : K = 6
      · rw [if_pos h6]
        refine .inr (.inr (.inl ⟨h6, ?_⟩))
        have e := wx64 (a := 2 ^ 64 - 1) (b := T) (by decide) ht
        rw [show ((2 ^ 64 - 1 : Nat) : Int) = IntKind.u64.max from rfl] at e
        rw [e, wnt_max ht]
      · rw [if_neg h6]; exact .inr (.inr (.inr ⟨h7, fun h => h3 (.inl h), fun h => h3 (.inr h), h6, rfl⟩))
set_option maxRecDepth 100000 in
set_option maxHeartbeats 6400000 in
theorem osums_core (K D A B E : Int) (C p0 p1 p2 p3 q0 q1 q2 q3 : Nat) (w : World) (hC : C < 2 ^ 64) (hp0 : p0 < 2 ^ 64) (hp1 : p1 < 2 ^ 64) (hp2 : p2 < 2 ^ 64) (hp3 : p3 < 2 ^ 64) (hq0 : q0 < 2 ^ 64) (hq1 : q1 < 2 ^ 64) (hq2 : q2 < 2 ^ 64) (hq3 : q3 < 2 ^ 64) :
    Calls Try.prog 4 #[opV K D A B E C, .agg #[.int .u64 (p0 : Int), .int .u64 (p1 : Int), .int .u64 (p2 : Int), .int .u64 (p3 : Int)], .agg #[.int .u64 (q0 : Int), .int .u64 (q1 : Int), .int .u64 (q2 : Int), .int .u64 (q3 : Int)]] w fun e w' => e = .returned (.bool true) ∧ Below w.heap.size w w' := by
  have HBX := hid (fun w' => bx_of (w := w) (w' := w') (K := K) (D := D) (A := A) (B := B) (E := E) (C := C) (p0 := p0) (p1 := p1) (p2 := p2) (p3 := p3) (q0 := q0) (q1 := q1) (q2 := q2) (q3 := q3))
  have HB := hid (bx_low w K D A B E C p0 p1 p2 p3 q0 q1 q2 q3)
  have x0 := wx64 hp0 hq0
  have x1 := wx64 hp1 hq1
  have x2 := wx64 hp2 hq2
  have x3 := wx64 hp3 hq3
  have hs := sum_p K hC hp0 hp1 hp2 hp3 hq0 hq1 hq2 hq3
  have HEs := hid (fun w => oev_any K D A B E C (p0 ^^^ q0) (p1 ^^^ q1) (p2 ^^^ q2) (p3 ^^^ q3) w hC (xr_lt hp0 hq0) (xr_lt hp1 hq1) (xr_lt hp2 hq2) (xr_lt hp3 hq3))
  have HEp := hid (fun w => oev_any K D A B E C p0 p1 p2 p3 w hC hp0 hp1 hp2 hp3)
  have HEq := hid (fun w => oev_any K D A B E C q0 q1 q2 q3 w hC hq0 hq1 hq2 hq3)
  have xt : bits .xor .u64 (evN K C p0 p1 p2 p3 : Nat) (evN K C q0 q1 q2 q3 : Nat) = ((evN K C p0 p1 p2 p3 ^^^ evN K C q0 q1 q2 q3 : Nat) : Int) := wx64 (evN_lt hC hp0 hp1 hp2 hp3) (evN_lt hC hq0 hq1 hq2 hq3)
  have HA := hid opawake_any
  generalize evN K C (p0 ^^^ q0) (p1 ^^^ q1) (p2 ^^^ q2) (p3 ^^^ q3) = S at *
  generalize evN K C p0 p1 p2 p3 = zp at *
  generalize evN K C q0 q1 q2 q3 = zq at *
  generalize zp ^^^ zq = T at *
  generalize p0 ^^^ q0 = s0 at *
  generalize p1 ^^^ q1 = s1 at *
  generalize p2 ^^^ q2 = s2 at *
  generalize p3 ^^^ q3 = s3 at *
  clear hC hp0 hp1 hp2 hp3 hq0 hq1 hq2 hq3
  obtain ⟨w3, hw3⟩ : ∃ w3, bxW w K D A B E C p0 p1 p2 p3 q0 q1 q2 q3 = w3 := ⟨_, rfl⟩
  have HW3 := hid hw3
  rw [hw3] at HBX HB
  have HE3 := HEs.out w3
  rw [← hw3] at HE3
  have HE3' := hid HE3
  clear HE3 hw3
  rcases hs with ⟨hk, sa, sb, sc, g1, g2, g3, g4⟩ | ⟨hk | hk, g1⟩ | ⟨hk, g1⟩ | ⟨g1, g2, g3, g4, rfl⟩
  all_goals
    try (have HK := hid hk; clear hk)
    go_enter Try.func4, Try.ntmps4
    go_wp2_with (first
      | (go_at_call 5; (with_reducible refine (HE3'.out).mono ?_); rintro e w4 ⟨rfl, h4⟩; have H4 : Hid (Below w3.heap.size w3 w4) := hid (by rw [← HW3.out]; exact h4); clear h4))
    refine wp_region_noPanic ?_
    refine wp_region_held_drew (S := fun w' => Below w3.heap.size w3 w') (by kernel_rfl) (H4.out.drew) (fun h0 => ?_)
    generalize w4.drew = w5 at *
    refine wpAnyH_take (i := 0) (v := opV K D A B E C) rfl (by kernel_rfl) (by kernel_rfl) (by kernel_rfl) (fun _ _ _ h => h) (yieldsIf_load_mid (by rfl) 24 _ rfl w.heap.size 0 rfl [.int .i64 K, .int .i64 D, .int .i64 A, .int .i64 B, .int .i64 E, .int .u64 (C : Int)] _ (fun w h => (HBX.out w h).op) Try.underlying24 rfl infoop) h0 ?_
    try simp only [Act.put, lay_out]
    refine wpAnyH_take (i := 1) (v := .pointer (some ⟨w.heap.size + 1, 0, none⟩)) rfl (by kernel_rfl) (by kernel_rfl) (by kernel_rfl) (fun _ _ _ h => h) (.inl ⟨by rfl, fun w hw => by clear hw; go_simp⟩) h0 ?_
    try simp only [Act.put, lay_out]
    refine wpAnyH_take (i := 2) (v := .int .u64 (p0 : Int)) rfl (by kernel_rfl) (by kernel_rfl) (by kernel_rfl) (fun _ _ _ h => h) (.inl ⟨by rfl, fun w hw => by have kk := (HBX.out w hw).p0; clear hw; go_simp⟩) h0 ?_
    try simp only [Act.put, lay_out]
    refine wpAnyH_take (i := 3) (v := .pointer (some ⟨w.heap.size + 1, 1, none⟩)) rfl (by kernel_rfl) (by kernel_rfl) (by kernel_rfl) (fun _ _ _ h => h) (.inl ⟨by rfl, fun w hw => by clear hw; go_simp⟩) h0 ?_
    try simp only [Act.put, lay_out]
    refine wpAnyH_take (i := 4) (v := .int .u64 (p1 : Int)) rfl (by kernel_rfl) (by kernel_rfl) (by kernel_rfl) (fun _ _ _ h => h) (.inl ⟨by rfl, fun w hw => by have kk := (HBX.out w hw).p1; clear hw; go_simp⟩) h0 ?_
    try simp only [Act.put, lay_out]
    refine wpAnyH_take (i := 5) (v := .pointer (some ⟨w.heap.size + 1, 2, none⟩)) rfl (by kernel_rfl) (by kernel_rfl) (by kernel_rfl) (fun _ _ _ h => h) (.inl ⟨by rfl, fun w hw => by clear hw; go_simp⟩) h0 ?_
    try simp only [Act.put, lay_out]
    refine wpAnyH_take (i := 6) (v := .int .u64 (p2 : Int)) rfl (by kernel_rfl) (by kernel_rfl) (by kernel_rfl) (fun _ _ _ h => h) (.inl ⟨by rfl, fun w hw => by have kk := (HBX.out w hw).p2; clear hw; go_simp⟩) h0 ?_
    try simp only [Act.put, lay_out]
    refine wpAnyH_take (i := 7) (v := .pointer (some ⟨w.heap.size + 1, 3, none⟩)) rfl (by kernel_rfl) (by kernel_rfl) (by kernel_rfl) (fun _ _ _ h => h) (.inl ⟨by rfl, fun w hw => by clear hw; go_simp⟩) h0 ?_
    try simp only [Act.put, lay_out]
    refine wpAnyH_take (i := 8) (v := .int .u64 (p3 : Int)) rfl (by kernel_rfl) (by kernel_rfl) (by kernel_rfl) (fun _ _ _ h => h) (.inl ⟨by rfl, fun w hw => by have kk := (HBX.out w hw).p3; clear hw; go_simp⟩) h0 ?_
    try simp only [Act.put, lay_out]
    refine wpAnyH_take (i := 10) (v := opV K D A B E C) rfl (by kernel_rfl) (by kernel_rfl) (by kernel_rfl) (fun _ _ _ h => h) (yieldsIf_load_mid (by rfl) 24 _ rfl w.heap.size 0 rfl [.int .i64 K, .int .i64 D, .int .i64 A, .int .i64 B, .int .i64 E, .int .u64 (C : Int)] _ (fun w h => (HBX.out w h).op) Try.underlying24 rfl infoop) h0 ?_
    try simp only [Act.put, lay_out]
    refine wpAnyH_take (i := 11) (v := .pointer (some ⟨w.heap.size + 1 + 1, 0, none⟩)) rfl (by kernel_rfl) (by kernel_rfl) (by kernel_rfl) (fun _ _ _ h => h) (.inl ⟨by rfl, fun w hw => by clear hw; go_simp⟩) h0 ?_
    try simp only [Act.put, lay_out]
    refine wpAnyH_take (i := 12) (v := .int .u64 (q0 : Int)) rfl (by kernel_rfl) (by kernel_rfl) (by kernel_rfl) (fun _ _ _ h => h) (.inl ⟨by rfl, fun w hw => by have kk := (HBX.out w hw).q0; clear hw; go_simp⟩) h0 ?_
    try simp only [Act.put, lay_out]
    refine wpAnyH_take (i := 13) (v := .pointer (some ⟨w.heap.size + 1 + 1, 1, none⟩)) rfl (by kernel_rfl) (by kernel_rfl) (by kernel_rfl) (fun _ _ _ h => h) (.inl ⟨by rfl, fun w hw => by clear hw; go_simp⟩) h0 ?_
    try simp only [Act.put, lay_out]
    refine wpAnyH_take (i := 14) (v := .int .u64 (q1 : Int)) rfl (by kernel_rfl) (by kernel_rfl) (by kernel_rfl) (fun _ _ _ h => h) (.inl ⟨by rfl, fun w hw => by have kk := (HBX.out w hw).q1; clear hw; go_simp⟩) h0 ?_
    try simp only [Act.put, lay_out]
    refine wpAnyH_take (i := 15) (v := .pointer (some ⟨w.heap.size + 1 + 1, 2, none⟩)) rfl (by kernel_rfl) (by kernel_rfl) (by kernel_rfl) (fun _ _ _ h => h) (.inl ⟨by rfl, fun w hw => by clear hw; go_simp⟩) h0 ?_
    try simp only [Act.put, lay_out]
    refine wpAnyH_take (i := 16) (v := .int .u64 (q2 : Int)) rfl (by kernel_rfl) (by kernel_rfl) (by kernel_rfl) (fun _ _ _ h => h) (.inl ⟨by rfl, fun w hw => by have kk := (HBX.out w hw).q2; clear hw; go_simp⟩) h0 ?_
    try simp only [Act.put, lay_out]
    refine wpAnyH_take (i := 17) (v := .pointer (some ⟨w.heap.size + 1 + 1, 3, none⟩)) rfl (by kernel_rfl) (by kernel_rfl) (by kernel_rfl) (fun _ _ _ h => h) (.inl ⟨by rfl, fun w hw => by clear hw; go_simp⟩) h0 ?_
    try simp only [Act.put, lay_out]
    refine wpAnyH_take (i := 18) (v := .int .u64 (q3 : Int)) rfl (by kernel_rfl) (by kernel_rfl) (by kernel_rfl) (fun _ _ _ h => h) (.inl ⟨by rfl, fun w hw => by have kk := (HBX.out w hw).q3; clear hw; go_simp⟩) h0 ?_
    try simp only [Act.put, lay_out]
    refine wpAnyH_ready (rs := [9]) (by kernel_rfl) (by simp) (AllReadyH.cons rfl (fun K hK => ?_) AllReadyH.nil)
    rw [if_pos (by rfl)]
    go_simp
    go_at_call 5
    (with_reducible refine (HEp.out w5).mono ?_); rintro e w6 ⟨rfl, h6⟩
    have H6 := hid h6
    clear h6
    refine hK.out _ _ (h0.trans (H6.out.mono h0.size)) (fun h1x => ?_)
    clear hK K
    try simp only [Act.put, lay_out]
    refine wpAnyH_ready (rs := [19]) (by kernel_rfl) (by simp) (AllReadyH.cons rfl (fun K hK => ?_) AllReadyH.nil)
    rw [if_pos (by rfl)]
    go_simp
    go_at_call 5
    (with_reducible refine (HEq.out w6).mono ?_); rintro e w7 ⟨rfl, h7⟩
    have H7 := hid h7
    clear h7
    refine hK.out _ _ (h1x.trans (H7.out.mono h1x.size)) (fun h2x => ?_)
    clear hK K
    try simp only [Act.put, lay_out]
    refine wpAnyH_take (i := 20) (v := .int .u64 (T : Int)) rfl (by kernel_rfl) (by kernel_rfl) (by kernel_rfl) (fun _ _ _ h => h) (.inl ⟨by rfl, fun w hw => by clear hw; go_simp⟩) h2x ?_
    try simp only [Act.put, lay_out]
    refine wpAnyH_take (i := 21) (v := .int .u64 (T : Int)) rfl (by kernel_rfl) (by kernel_rfl) (by kernel_rfl) (fun _ _ _ h => h) (.inl ⟨by rfl, fun w hw => by clear hw; go_simp⟩) h2x ?_
    try simp only [Act.put, lay_out]
    have HZ := hid h2x
    refine wpAnyH_done (by kernel_rfl) ?_ _
    refine NoPanic.normal ?_
    clear h0 h1x h2x
    try simp only [Act.put, lay_out]
    try (have hk := HK.out; subst hk)
    have KK := HBX.out _ HZ.out
    have k0 := KK.k
    have k1 := KK.c
    have k2 := KK.p0
    have k3 := KK.p1
    have k4 := KK.q0
    have k5 := KK.q1
    clear KK
    have HA7 := hid (HA.out w7)
    go_wp2_with (first
      | (go_at_call 7; (with_reducible refine (HA7.out).mono ?_); rintro e w8 ⟨rfl, h8⟩; have H8 := hid (HB.out.trans ((HZ.out.mono HB.out.size).trans (h8.mono (Nat.le_trans HB.out.size HZ.out.size)))); clear h8))
    go_ret
    exact ⟨rfl, H8.out⟩
end Go.Proofs.Ythfgpjebmhbedaa
