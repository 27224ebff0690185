import Derived.Test.YthopdlcmmafcaaaProg
import Derived.Test.YthopdlcmmafcaaaTsq
import Derived.Test.YthopdlcmmafcaaaTpe
import Derived.Test.YthopdlcmmafcaaaTtw
import Derived.Deep.CutRange
import Derived.Deep.CutBlock
/- Trace: Same, by the program. -/
namespace Go.Proofs.Ythopdlcmmafcaaa
open Go.RowKit
set_option maxRecDepth 100000
theorem sc_range {w : World} {b n : Nat} {s : Sp3} (h : Sc w b n s) : w.rangeAt b n [.int .i64 s.K, .int .i64 s.F, .int .i64 s.T] := fun j v hv => by
  match j, hv with
  | 0, hv => injection hv with hv; subst hv; exact h.k
  | 1, hv => injection hv with hv; subst hv; exact h.f
  | 2, hv => injection hv with hv; subst hv; exact h.t
theorem infosp : (Try.prog.info? 42).map (·.size) = some [Value.int .i64 0, .int .i64 0, .int .i64 0].length := by kernel_rfl
set_option maxHeartbeats 6400000 in
theorem tequal_any (v v' : Value) (M M' : Nat) (g g' : Nat → Sp3) (w : World) (h : RSp w v M g) (h' : RSp w v' M' g') :
    Calls Try.prog 19 #[v, v'] w fun e w' => e = .returned (.bool (decide (M = M') && allB (fun i => smS (g i) (g' i)) M)) ∧ Below w.heap.size w w' := by
  obtain ⟨a, cap, rfl, _⟩ := id h.at_
  obtain ⟨a', cap', rfl, _⟩ := id h'.at_
  have hlim := h.lim
  have hlim' := h'.lim
  obtain ⟨b, off, ha, hb, hs⟩ := rsp_sps h
  obtain ⟨b', off', ha', hb', hs'⟩ := rsp_sps h'
  have HA : Hid (∀ w', Below w.heap.size w w' → ∀ i, i < M → Sc w' b (off + i * 3) (g i)) := hid (fun w' hw i hi => (hs i hi).self hw)
  have HA' : Hid (∀ w', Below w.heap.size w w' → ∀ i, i < M' → Sc w' b' (off' + i * 3) (g' i)) := hid (fun w' hw i hi => (hs' i hi).self hw)
  have Ha := hid ha
  have Ha' := hid ha'
  clear h h' hs hs' ha ha' hb hb'
  by_cases hM : M = M'
  · subst hM
    rw [decide_eq_true rfl, Bool.true_and]
    have HF : Hid (∀ j, j < M → smS (g j) (g' j) = false → allB (fun i => smS (g i) (g' i)) M = false) := hid (fun j hj hf => allB_no hj hf)
    generalize hR : allB (fun i => smS (g i) (g' i)) M = R at *
    have HR := hid hR
    clear hR
    go_enter Try.func19, Try.ntmps19
    go_wp2
    go_loopw [13] (fun i wr => ∃ j : Nat, j ≤ M ∧ i = .int .i64 j ∧ Below w.heap.size w wr ∧ allB (fun i => smS (g i) (g' i)) j = true) (fun i _ => M - (intOf i).toNat)
    case atStart => exact ⟨0, by omega, rfl, Below.refl _ _, rfl⟩
    case round =>
      obtain ⟨j, hj, rfl, hI, hall⟩ := hrel
      have HI := hid hI
      have Hall := hid hall
      clear hI hall
      by_cases hlt : j < M
      · have hae := Ha.out (by omega)
        have hae' := Ha'.out (by omega)
        subst hae hae'
        have j1 : (0 : Int) ≤ (j : Int) := by omega
        have j2 : (j : Int) < (M : Int) := by omega
        obtain ⟨q, hq⟩ : ∃ q, smS (g j) (g' j) = q := ⟨_, rfl⟩
        have HQ := hid hq
        clear hq
        cases q
        · have HRf := hid (HF.out j hlt HQ.out)
          go_wp2_with fail
          refine wp_region_noPanic ?_
          refine wp_region_held_drew (S := fun w' => Below w.heap.size w w') (by kernel_rfl) (HI.out.drew) (fun h0 => ?_)
          have HI2 := hid HI.out.drew
          generalize wr.drew = y1 at *
          refine wpAnyH_take (i := 0) (v := .slice (some ⟨b, off, none⟩) M cap) rfl (by kernel_rfl) (by kernel_rfl) (by kernel_rfl) (fun _ _ _ h => h) (.inl ⟨by rfl, fun w hw => by clear hw; go_simp⟩) h0 ?_
          try simp only [Act.put, lay_out]
          refine wpAnyH_take (i := 1) (v := .int .i64 (j : Int)) rfl (by kernel_rfl) (by kernel_rfl) (by kernel_rfl) (fun _ _ _ h => h) (.inl ⟨by rfl, fun w hw => by clear hw; go_simp⟩) h0 ?_
          try simp only [Act.put, lay_out]
          refine wpAnyH_take (i := 2) (v := .pointer (some ⟨b, off + j * 3, none⟩)) rfl (by kernel_rfl) (by kernel_rfl) (by kernel_rfl) (fun _ _ _ h => h) (.inl ⟨by rfl, fun w hw => by clear hw; go_simp⟩) h0 ?_
          try simp only [Act.put, lay_out]
          refine wpAnyH_take (i := 3) (v := .agg (spC (g j))) rfl (by kernel_rfl) (by kernel_rfl) (by kernel_rfl) (fun _ _ _ h => h) (yieldsIf_load_mid (by rfl) 42 _ rfl b (off + j * 3) rfl [.int .i64 (g j).K, .int .i64 (g j).F, .int .i64 (g j).T] _ (fun w hw => sc_range (HA.out w hw j hlt)) Try.underlying42 rfl infosp) h0 ?_
          try simp only [Act.put, lay_out]
          refine wpAnyH_take (i := 4) (v := .slice (some ⟨b', off', none⟩) M cap') rfl (by kernel_rfl) (by kernel_rfl) (by kernel_rfl) (fun _ _ _ h => h) (.inl ⟨by rfl, fun w hw => by clear hw; go_simp⟩) h0 ?_
          try simp only [Act.put, lay_out]
          refine wpAnyH_take (i := 5) (v := .int .i64 (j : Int)) rfl (by kernel_rfl) (by kernel_rfl) (by kernel_rfl) (fun _ _ _ h => h) (.inl ⟨by rfl, fun w hw => by clear hw; go_simp⟩) h0 ?_
          try simp only [Act.put, lay_out]
          refine wpAnyH_take (i := 6) (v := .pointer (some ⟨b', off' + j * 3, none⟩)) rfl (by kernel_rfl) (by kernel_rfl) (by kernel_rfl) (fun _ _ _ h => h) (.inl ⟨by rfl, fun w hw => by clear hw; go_simp⟩) h0 ?_
          try simp only [Act.put, lay_out]
          refine wpAnyH_take (i := 7) (v := .agg (spC (g' j))) rfl (by kernel_rfl) (by kernel_rfl) (by kernel_rfl) (fun _ _ _ h => h) (yieldsIf_load_mid (by rfl) 42 _ rfl b' (off' + j * 3) rfl [.int .i64 (g' j).K, .int .i64 (g' j).F, .int .i64 (g' j).T] _ (fun w hw => sc_range (HA'.out w hw j hlt)) Try.underlying42 rfl infosp) h0 ?_
          try simp only [Act.put, lay_out]
          refine wpAnyH_take (i := 8) (v := .bool true) rfl (by kernel_rfl) (by kernel_rfl) (by kernel_rfl) (fun _ _ _ h => h) (.inl ⟨by rfl, fun w _ => by rw [exec_neSp _ _ rfl (g j) (g' j) rfl rfl, HQ.out]; rfl⟩) h0 ?_
          try simp only [Act.put, lay_out]
          refine wpAnyH_done (by kernel_rfl) ?_ _
          refine NoPanic.normal ?_
          clear h0
          try simp only [Act.put, lay_out]
          go_wp2
          go_ret
          exact ⟨by rw [HRf.out]; rfl, HI2.out⟩
        · go_wp2_with fail
          refine wp_region_noPanic ?_
          refine wp_region_held_drew (S := fun w' => Below w.heap.size w w') (by kernel_rfl) (HI.out.drew) (fun h0 => ?_)
          have HI2 := hid HI.out.drew
          generalize wr.drew = y1 at *
          refine wpAnyH_take (i := 0) (v := .slice (some ⟨b, off, none⟩) M cap) rfl (by kernel_rfl) (by kernel_rfl) (by kernel_rfl) (fun _ _ _ h => h) (.inl ⟨by rfl, fun w hw => by clear hw; go_simp⟩) h0 ?_
          try simp only [Act.put, lay_out]
          refine wpAnyH_take (i := 1) (v := .int .i64 (j : Int)) rfl (by kernel_rfl) (by kernel_rfl) (by kernel_rfl) (fun _ _ _ h => h) (.inl ⟨by rfl, fun w hw => by clear hw; go_simp⟩) h0 ?_
          try simp only [Act.put, lay_out]
          refine wpAnyH_take (i := 2) (v := .pointer (some ⟨b, off + j * 3, none⟩)) rfl (by kernel_rfl) (by kernel_rfl) (by kernel_rfl) (fun _ _ _ h => h) (.inl ⟨by rfl, fun w hw => by clear hw; go_simp⟩) h0 ?_
          try simp only [Act.put, lay_out]
          refine wpAnyH_take (i := 3) (v := .agg (spC (g j))) rfl (by kernel_rfl) (by kernel_rfl) (by kernel_rfl) (fun _ _ _ h => h) (yieldsIf_load_mid (by rfl) 42 _ rfl b (off + j * 3) rfl [.int .i64 (g j).K, .int .i64 (g j).F, .int .i64 (g j).T] _ (fun w hw => sc_range (HA.out w hw j hlt)) Try.underlying42 rfl infosp) h0 ?_
          try simp only [Act.put, lay_out]
          refine wpAnyH_take (i := 4) (v := .slice (some ⟨b', off', none⟩) M cap') rfl (by kernel_rfl) (by kernel_rfl) (by kernel_rfl) (fun _ _ _ h => h) (.inl ⟨by rfl, fun w hw => by clear hw; go_simp⟩) h0 ?_
          try simp only [Act.put, lay_out]
          refine wpAnyH_take (i := 5) (v := .int .i64 (j : Int)) rfl (by kernel_rfl) (by kernel_rfl) (by kernel_rfl) (fun _ _ _ h => h) (.inl ⟨by rfl, fun w hw => by clear hw; go_simp⟩) h0 ?_
          try simp only [Act.put, lay_out]
          refine wpAnyH_take (i := 6) (v := .pointer (some ⟨b', off' + j * 3, none⟩)) rfl (by kernel_rfl) (by kernel_rfl) (by kernel_rfl) (fun _ _ _ h => h) (.inl ⟨by rfl, fun w hw => by clear hw; go_simp⟩) h0 ?_
          try simp only [Act.put, lay_out]
          refine wpAnyH_take (i := 7) (v := .agg (spC (g' j))) rfl (by kernel_rfl) (by kernel_rfl) (by kernel_rfl) (fun _ _ _ h => h) (yieldsIf_load_mid (by rfl) 42 _ rfl b' (off' + j * 3) rfl [.int .i64 (g' j).K, .int .i64 (g' j).F, .int .i64 (g' j).T] _ (fun w hw => sc_range (HA'.out w hw j hlt)) Try.underlying42 rfl infosp) h0 ?_
          try simp only [Act.put, lay_out]
          refine wpAnyH_take (i := 8) (v := .bool false) rfl (by kernel_rfl) (by kernel_rfl) (by kernel_rfl) (fun _ _ _ h => h) (.inl ⟨by rfl, fun w _ => by rw [exec_neSp _ _ rfl (g j) (g' j) rfl rfl, HQ.out]; rfl⟩) h0 ?_
          try simp only [Act.put, lay_out]
          refine wpAnyH_done (by kernel_rfl) ?_ _
          refine NoPanic.normal ?_
          clear h0
          try simp only [Act.put, lay_out]
          go_wp2
          go_roundw
          case rel => exact ⟨j + 1, by omega, by go_num, HI2.out, by show (allB (fun i => smS (g i) (g' i)) j && smS (g j) (g' j)) = true; rw [Hall.out, HQ.out]; rfl⟩
          case measure => simp [intOf]; omega
      · obtain rfl : j = M := by omega
        have HE := hid (HR.out.symm.trans Hall.out)
        clear hlt hj
        go_wp2
        go_ret
        exact ⟨by rw [HE.out]; rfl, HI.out⟩
  · rw [decide_eq_false hM, Bool.false_and]
    have g1 : ((M : Int) != (M' : Int)) = true := by simp; omega
    clear hM
    go_enter Try.func19, Try.ntmps19
    go_wp2
    go_ret
    exact ⟨rfl, Below.refl _ _⟩
theorem guardOp' : Try.prog.eqGuardType Try.prog.depth 40 = false := guardOp
theorem abox6 {w : World} {p : Nat} {o : Op6} (h : w.heap[p]? = some (.cells (opC o) 40 (0, 0))) : w.rangeAt p 0 [.int .i64 o.K, .int .i64 o.D, .int .i64 o.A, .int .i64 o.B, .int .i64 o.E, .int .u64 (o.C : Int)] := fun j v hv => by
  match j, hv with
  | 0, hv => injection hv with hv; subst hv; rw [cell_of_row w _ 0 _ _ _ h]; rfl
  | 1, hv => injection hv with hv; subst hv; rw [cell_of_row w _ 1 _ _ _ h]; rfl
  | 2, hv => injection hv with hv; subst hv; rw [cell_of_row w _ 2 _ _ _ h]; rfl
  | 3, hv => injection hv with hv; subst hv; rw [cell_of_row w _ 3 _ _ _ h]; rfl
  | 4, hv => injection hv with hv; subst hv; rw [cell_of_row w _ 4 _ _ _ h]; rfl
  | 5, hv => injection hv with hv; subst hv; rw [cell_of_row w _ 5 _ _ _ h]; rfl
set_option maxHeartbeats 6400000 in
theorem alike_any (x y : Op6) (w : World) : Calls Try.prog 21 #[.agg (opC x), .agg (opC y)] w fun e w' => e = .returned (.bool (smO x y)) ∧ Below w.heap.size w w' := by
  have HB : Hid (∀ c c' : Array Value, Below w.heap.size w ((w.alloc (.cells c 40)).alloc (.cells c' 40))) := hid (fun c c' => ((Below.refl _ _).alloc (Nat.le_refl _) _).alloc (by simp) _)
  obtain ⟨K, D, A, B, E, C⟩ := x
  obtain ⟨K', D', A', B', E', C'⟩ := y
  by_cases hs : K = K' ∧ D = D' ∧ A = A' ∧ B = B' ∧ E = E' ∧ (K = 4 ∨ C = C')
  · have e : smO ⟨K, D, A, B, E, C⟩ ⟨K', D', A', B', E', C'⟩ = true := decide_eq_true hs
    rw [e]
    clear e
    obtain ⟨rfl, rfl, rfl, rfl, rfl, hs⟩ := hs
    by_cases h4 : K = 4
    · subst h4
      clear hs
      go_enter Try.func21, Try.ntmps21
      go_wp2
      go_ret
      exact ⟨rfl, HB.out _ _⟩
    · obtain rfl : C = C' := by omega
      have e4 : (K == 4) = false := by simp [h4]
      clear hs h4
      go_enter Try.func21, Try.ntmps21
      go_wp2
      go_ret
      exact ⟨rfl, HB.out _ _⟩
  · have e : smO ⟨K, D, A, B, E, C⟩ ⟨K', D', A', B', E', C'⟩ = false := decide_eq_false hs
    rw [e]
    clear e
    by_cases h4 : K = 4
    · subst h4
      go_enter Try.func21, Try.ntmps21
      go_wp2
      all_goals first
        | (go_ret; exact ⟨rfl, HB.out _ _⟩)
        | (exfalso; simp_all; done)
        | (exfalso; simp_all; omega)
    · have e4 : (K == 4) = false := by simp [h4]
      go_enter Try.func21, Try.ntmps21
      go_wp2
      all_goals first
        | (go_ret; exact ⟨rfl, HB.out _ _⟩)
        | (exfalso; simp_all; done)
        | (exfalso; simp_all; omega)
set_option maxHeartbeats 12800000 in
theorem eqfunc_any (v v' : Value) (L L' : Nat) (f f' : Nat → Op6) (w : World) (h : ROp w v L f) (h' : ROp w v' L' f') :
    Calls Try.prog 20 #[v, v', .func (.func 21) #[] #[]] w fun e w' => e = .returned (.bool (decide (L = L') && allB (fun i => smO (f i) (f' i)) L)) ∧ Below w.heap.size w w' := by
  obtain ⟨a, cap, rfl, _⟩ := id h.at_
  obtain ⟨a', cap', rfl, _⟩ := id h'.at_
  have hlim := h.lim
  have hlim' := h'.lim
  obtain ⟨b, off, ha, hb, hs⟩ := rop_ops h
  obtain ⟨b', off', ha', hb', hs'⟩ := rop_ops h'
  have HA : Hid (∀ w', Below w.heap.size w w' → ∀ i, i < L → Oc w' b (off + i * 6) (f i)) := hid (fun w' hw i hi => (hs i hi).self hw)
  have HA' : Hid (∀ w', Below w.heap.size w w' → ∀ i, i < L' → Oc w' b' (off' + i * 6) (f' i)) := hid (fun w' hw i hi => (hs' i hi).self hw)
  have HK := hid (fun x y w => alike_any x y w)
  have Ha := hid ha
  have Ha' := hid ha'
  clear h h' hs hs' ha ha' hb hb'
  by_cases hL : L = L'
  · subst hL
    rw [decide_eq_true rfl, Bool.true_and]
    have HF : Hid (∀ j, j < L → smO (f j) (f' j) = false → allB (fun i => smO (f i) (f' i)) L = false) := hid (fun j hj hf => allB_no hj hf)
    generalize hR : allB (fun i => smO (f i) (f' i)) L = R at *
    have HR := hid hR
    clear hR
    go_enter Try.func20, Try.ntmps20
    go_wp2
    go_loopw [17] (fun i wr => ∃ j : Nat, j ≤ L ∧ i = .int .i64 j ∧ Below w.heap.size w wr ∧ allB (fun i => smO (f i) (f' i)) j = true) (fun i _ => L - (intOf i).toNat)
    case atStart => exact ⟨0, by omega, rfl, Below.refl _ _, rfl⟩
    case round =>
      obtain ⟨j, hj, rfl, hI, hall⟩ := hrel
      have HI := hid hI
      have Hall := hid hall
      clear hI hall
      by_cases hlt : j < L
      · have hae := Ha.out (by omega)
        have hae' := Ha'.out (by omega)
        subst hae hae'
        have j1 : (0 : Int) ≤ (j : Int) := by omega
        have j2 : (j : Int) < (L : Int) := by omega
        obtain ⟨k0, k1, k2, k3, k4, k5⟩ := HA.out wr HI.out j hlt
        have HI2 := hid (HI.out.alloc HI.out.size (.cells (opC (f j)) 40))
        obtain ⟨l0, l1, l2, l3, l4, l5⟩ := HA'.out _ HI2.out j hlt
        have HI3 := hid (HI2.out.alloc HI2.out.size (.cells (opC (f' j)) 40))
        obtain ⟨q, hq⟩ : ∃ q, smO (f j) (f' j) = q := ⟨_, rfl⟩
        have HKj := hid (HK.out (f j) (f' j))
        rw [hq] at HKj
        have HQ := hid hq
        clear hq
        have HFj := hid (HF.out j hlt)
        have HSt : Hid (smO (f j) (f' j) = true → allB (fun i => smO (f i) (f' i)) (j + 1) = true) := hid (fun hx => by show (allB (fun i => smO (f i) (f' i)) j && smO (f j) (f' j)) = true; rw [Hall.out, hx]; rfl)
        cases q
        · have HRf := hid (HFj.out HQ.out)
          go_wp2_with (go_at_call 21; (with_reducible refine (HKj.out _).mono ?_); rintro e v2 ⟨rfl, g1⟩; have G1 := hid (HI3.out.trans (g1.mono HI3.out.size)); clear g1)
          go_ret
          exact ⟨by rw [HRf.out]; rfl, G1.out⟩
        · have HEn := hid (HSt.out HQ.out)
          go_wp2_with (go_at_call 21; (with_reducible refine (HKj.out _).mono ?_); rintro e v2 ⟨rfl, g1⟩; have G1 := hid (HI3.out.trans (g1.mono HI3.out.size)); clear g1)
          go_roundw
          case rel => exact ⟨j + 1, by omega, by go_num, G1.out, HEn.out⟩
          case measure => simp [intOf]; omega
      · obtain rfl : j = L := by omega
        have HE := hid (HR.out.symm.trans Hall.out)
        clear hlt hj
        go_wp2
        go_ret
        exact ⟨by rw [HE.out]; rfl, HI.out⟩
  · rw [decide_eq_false hL, Bool.false_and]
    have g1 : ((L : Int) != (L' : Int)) = true := by simp; omega
    clear hL
    go_enter Try.func20, Try.ntmps20
    go_wp2
    go_ret
    exact ⟨rfl, Below.refl _ _⟩
set_option maxHeartbeats 6400000 in
theorem tsame_any (N N' : Int) (v0 v1 v0' v1' : Value) (L L' M M' : Nat) (f f' : Nat → Op6) (g g' : Nat → Sp3) (w : World) (h : ROp w v0 L f) (h1 : RSp w v1 M g) (h' : ROp w v0' L' f') (h1' : RSp w v1' M' g') :
    Calls Try.prog 15 #[trV N v0 v1, trV N' v0' v1'] w fun e w' => e = .returned (.bool (saB N N' L L' M M' f f' g g')) ∧ Below w.heap.size w w' := by
  obtain ⟨a, cap, rfl, _⟩ := id h.at_
  obtain ⟨a', cap', rfl, _⟩ := id h'.at_
  obtain ⟨a2, cap2, rfl, _⟩ := id h1.at_
  obtain ⟨a2', cap2', rfl, _⟩ := id h1'.at_
  have e : saB N N' L L' M M' f f' g g' = (decide (N = N') && (decide (M = M') && allB (fun i => smS (g i) (g' i)) M) && (decide (L = L') && allB (fun i => smO (f i) (f' i)) L)) := by
    unfold saB
    by_cases hN : N = N'
    · by_cases hL : L = L'
      · by_cases hM : M = M'
        · simp [hN, hL, hM]
        · simp [hN, hL, hM]
      · simp [hN, hL]
    · simp [hN]
  rw [e]
  have HBx := hid (Tw.start #[.int .i64 N, .slice a L cap, .slice a2 M cap2] #[.int .i64 N', .slice a' L' cap', .slice a2' M' cap2'] w)
  obtain ⟨w1, hw1⟩ : ∃ w1, (w.alloc (.cells #[.int .i64 N, .slice a L cap, .slice a2 M cap2] 25)).alloc (.cells #[.int .i64 N', .slice a' L' cap', .slice a2' M' cap2'] 25) = w1 := ⟨_, rfl⟩
  have HE := hid (fun w' (hb : Below w.heap.size w w') => tequal_any (.slice a2 M cap2) (.slice a2' M' cap2') M M' g g' w' (h1.self hb) (h1'.self hb))
  have HO := hid (fun w' (hb : Below w.heap.size w w') => eqfunc_any (.slice a L cap) (.slice a' L' cap') L L' f f' w' (h.self hb) (h'.self hb))
  rw [hw1] at HBx
  have HW1 := hid hw1
  clear h h1 h' h1' hw1 e
  generalize (decide (M = M') && allB (fun i => smS (g i) (g' i)) M) = q at *
  generalize (decide (L = L') && allB (fun i => smO (f i) (f' i)) L) = r at *
  by_cases hN : N = N'
  · rw [decide_eq_true hN, Bool.true_and]
    have g1 : (N == N') = true := by simp [hN]
    clear hN
    cases q
    all_goals cases r
    all_goals
      go_enter Try.func15, Try.ntmps15
      go_upto_region 1 with fail
      rw [HW1.out]
      obtain ⟨a0, a1, a2⟩ := tbox3 HBx.out.one
      obtain ⟨b0, b1, b2⟩ := tbox3 HBx.out.two
      go_wp2_with (first
        | (go_at_call 19; (with_reducible refine (HE.out _ HBx.out.low).mono ?_); rintro e w2 ⟨rfl, hb⟩; have HX2 := hid (HBx.out.self hb); obtain ⟨_, c1, _⟩ := tbox3 HX2.out.one; obtain ⟨_, d1, _⟩ := tbox3 HX2.out.two; clear hb)
        | (go_at_call 20; (with_reducible refine (HO.out _ HX2.out.low).mono ?_); rintro e w3 ⟨rfl, hb⟩; have HX3 := hid (HX2.out.self hb); clear hb))
      go_ret
      first | exact ⟨rfl, HX3.out.low⟩ | exact ⟨rfl, HX2.out.low⟩
  · rw [decide_eq_false hN, Bool.false_and, Bool.false_and]
    have g1 : (N == N') = false := by simp [hN]
    clear hN
    go_enter Try.func15, Try.ntmps15
    go_upto_region 1 with fail
    rw [HW1.out]
    obtain ⟨a0, a1, a2⟩ := tbox3 HBx.out.one
    obtain ⟨b0, b1, b2⟩ := tbox3 HBx.out.two
    go_wp2
    go_ret
    exact ⟨rfl, HBx.out.low⟩
end Go.Proofs.Ythopdlcmmafcaaa
