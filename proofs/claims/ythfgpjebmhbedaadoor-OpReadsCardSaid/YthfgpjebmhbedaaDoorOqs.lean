import Derived.Test.YthfgpjebmhbedaaDoorProg
import Derived.Test.YthfgpjebmhbedaaDoorOpr
/- Op: OpReads. -/
namespace Go.Proofs.YthfgpjebmhbedaaDoor
open Go.RowKit Go.Lib
set_option maxRecDepth 100000
/-- The four numbers, in a row. -/
def elA (D A B E : Int) (j : Nat) : Int := if j = 0 then D else if j = 1 then A else if j = 2 then B else E
theorem el_of {w : World} {n : Nat} {D A B E : Int} (h : w.heap[n]? = some (.cells #[.int .i64 D, .int .i64 A, .int .i64 B, .int .i64 E] 29 (0, 0))) (j : Nat) (hj : j < 4) : w.cell? ⟨n, j, none⟩ = some (.int .i64 (elA D A B E j)) := by
  rw [cell_of_row w _ j _ _ _ h]
  rcases (by omega : j = 0 ∨ j = 1 ∨ j = 2 ∨ j = 3) with rfl | rfl | rfl | rfl <;> rfl
set_option maxHeartbeats 3200000 in
theorem oreads_yyr (o : Op6) (s : ByteArray) (W : World) (p : Op6) (hp : mayP p) (hl : sB (lnL p) = s) (hm : mayP o) (hk : 0 < o.K ∧ o.K < 13) (hs : ¬ 1000 < s.size)
    (hD : -9223372036854775808 ≤ o.D ∧ o.D ≤ 9223372036854775807) (hA : -9223372036854775808 ≤ o.A ∧ o.A ≤ 9223372036854775807) (hB : -9223372036854775808 ≤ o.B ∧ o.B ≤ 9223372036854775807) (hE : -9223372036854775808 ≤ o.E ∧ o.E ≤ 9223372036854775807) (hC : o.C < 18446744073709551616)
    (HP : ∀ (s : ByteArray) (w : World), s.size ≤ 1000 → Below W.heap.size W w → Calls Tryd.prog 5 #[.string s] w (ParP s w))
    (HA : ∀ w, Below W.heap.size W w → Calls Tryd.prog 4 #[] w fun e w' => e = .returned (.bool true) ∧ Below w.heap.size w w') :
    Calls Tryd.prog 3 #[opW o, .string s] W fun e w' => e = .returned (.bool true) ∧ Below W.heap.size W w' := by
  have HP1 := hid fun w hb => (HP s w (by omega) hb).mono fun e w' h => par_yes h hp hl
  have HP2 := hid fun w hb => (HP (sB (lnL o)) w (by have := ln_len o hD hA hB hE hC; omega) hb).mono fun e w' h => par_yes h hm rfl
  have HA' := hid HA
  have HLo := hid fun w => refline_any o w hD hA hB hE hC
  have hin := in_may o hC
  rw [decide_eq_true hk.1, decide_eq_true hk.2, Bool.and_true] at hin
  have hq1 := hk.1
  have hq2 := hk.2
  rw [decide_eq_true hm] at hin
  have HLp := hid fun w => refline_any p w ⟨by have := hp.2.1; omega, by have := hp.2.1; omega⟩ ⟨by have := hp.2.2.1; omega, by have := hp.2.2.1; omega⟩ ⟨by have := hp.2.2.2.1; omega, by have := hp.2.2.2.1; omega⟩ ⟨by have := hp.2.2.2.2.1; omega, by have := hp.2.2.2.2.1; omega⟩ hp.2.2.2.2.2
  rw [hl] at HLp
  have hk1 : ¬ p.K < 1 := by have := hp.1; omega
  have hk2 : ¬ 12 < p.K := by have := hp.1; omega
  clear HP HA hm hk hp hl
  obtain ⟨K, D, A, B, E, C⟩ := o
  obtain ⟨pK, pD, pA, pB, pE, pC⟩ := p
  generalize sB (lnL ⟨K, D, A, B, E, C⟩) = L at *
  simp only at *
  have HBo := hid (fun w' => bo_box (w := W) (w' := w') (K := K) (D := D) (A := A) (B := B) (E := E) (C := C))
  have hb1 : Below W.heap.size W (W.alloc (.cells #[.int .i64 K, .int .i64 D, .int .i64 A, .int .i64 B, .int .i64 E, .int .u64 (C : Int)] 24)) := (Below.refl _ _).alloc (Nat.le_refl _) _
  have HP1a := hid (HP1.out _ hb1)
  have HB1 := hid hb1
  obtain ⟨w1, hw1⟩ : ∃ w1, W.alloc (.cells #[.int .i64 K, .int .i64 D, .int .i64 A, .int .i64 B, .int .i64 E, .int .u64 (C : Int)] 24) = w1 := ⟨_, rfl⟩
  rw [hw1] at HBo HB1
  have HW1 := hid hw1
  clear hw1 hb1 HP1
  have HIN := hid hin
  clear hin
  go_enter Tryd.func3, Tryd.ntmps3
  go_wp2_with (go_at_call 5; (with_reducible refine (HP1a.out).mono ?_); rintro e w2 ⟨rfl, h2⟩; have H2 : Hid (Below w1.heap.size w1 w2) := hid (by rw [← HW1.out]; exact h2); clear h2; refine Hid.out ?_)
  refine hid ?_
  have hb2 := HB1.out.trans (H2.out.mono HB1.out.size)
  have hbx : Below w2.heap.size w2 (w2.alloc (.cells #[.int .i64 pK, .int .i64 pD, .int .i64 pA, .int .i64 pB, .int .i64 pE, .int .u64 (pC : Int)] 24)) := (Below.refl _ _).alloc (Nat.le_refl _) _
  have HX := hid (hb2.trans (hbx.mono hb2.size))
  have HX1 := hid (H2.out.trans (hbx.mono H2.out.size))
  clear hb2 hbx
  go_wp2_with (go_at_call 6; (with_reducible refine (HLp.out _).mono ?_); rintro e w4 ⟨rfl, h4⟩; have BX := bo_box h4; have kx := BX.k; have HB4 := hid (HX.out.trans (h4.mono HX.out.size)); have H14 := hid (HX1.out.trans (h4.mono HX1.out.size)); clear h4 BX; have BO := HBo.out w4 H14.out; have qk := BO.k; have qd := BO.d; have qa := BO.a; have qb := BO.b; have qe := BO.e; have qc := BO.c; clear BO; refine Hid.out ?_)
  refine hid ?_
  go_wp2_with (first
    | (go_at_call 6; (with_reducible refine (HLo.out _).mono ?_); rintro e w5 ⟨rfl, h5⟩; have HB5 := hid (HB4.out.trans (h5.mono HB4.out.size)); have H15 := hid (H14.out.trans (h5.mono H14.out.size)); clear h5)
    | (go_at_call 5; (with_reducible refine (HP2.out w5 HB5.out).mono ?_); rintro e w6 ⟨rfl, h6⟩; have HB6 := hid (HB5.out.trans (h6.mono HB5.out.size)); have H16 := hid (H15.out.trans (h6.mono H15.out.size)); clear h6; refine Hid.out ?_))
  refine hid ?_
  have hy7 : Below w6.heap.size w6 (w6.alloc (.cells #[.int .i64 K, .int .i64 D, .int .i64 A, .int .i64 B, .int .i64 E, .int .u64 (C : Int)] 24)) := (Below.refl _ _).alloc (Nat.le_refl _) _
  have hy8 : Below w6.heap.size w6 ((w6.alloc (.cells #[.int .i64 K, .int .i64 D, .int .i64 A, .int .i64 B, .int .i64 E, .int .u64 (C : Int)] 24)).alloc (.cells #[.int .i64 D, .int .i64 A, .int .i64 B, .int .i64 E] 29)) := hy7.alloc (by simp) _
  have H17 := H16.out.trans (hy7.mono H16.out.size)
  have H18 := H16.out.trans (hy8.mono H16.out.size)
  have HB8 := hid (HB6.out.trans (hy8.mono HB6.out.size))
  have BO := HBo.out _ H17
  have rk := BO.k; have rd := BO.d; have ra := BO.a; have rb := BO.b; have re := BO.e; have rc := BO.c; clear BO
  have BO := HBo.out _ H18
  have uk := BO.k; have ud := BO.d; have ua := BO.a; have ub := BO.b; have ue := BO.e; have uc := BO.c; clear BO
  have hyb : ((w6.alloc (.cells #[.int .i64 K, .int .i64 D, .int .i64 A, .int .i64 B, .int .i64 E, .int .u64 (C : Int)] 24)).alloc (.cells #[.int .i64 D, .int .i64 A, .int .i64 B, .int .i64 E] 29)).heap[w6.heap.size]? = some (.cells #[.int .i64 K, .int .i64 D, .int .i64 A, .int .i64 B, .int .i64 E, .int .u64 (C : Int)] 24 (0, 0)) := by
    rw [Below.heap_alloc _ _ _ (by simp)]; exact heap_alloc_new w6 (.cells #[.int .i64 K, .int .i64 D, .int .i64 A, .int .i64 B, .int .i64 E, .int .u64 (C : Int)] 24)
  have hab : ((w6.alloc (.cells #[.int .i64 K, .int .i64 D, .int .i64 A, .int .i64 B, .int .i64 E, .int .u64 (C : Int)] 24)).alloc (.cells #[.int .i64 D, .int .i64 A, .int .i64 B, .int .i64 E] 29)).heap[w6.heap.size + 1]? = some (.cells #[.int .i64 D, .int .i64 A, .int .i64 B, .int .i64 E] 29 (0, 0)) := by
    have := heap_alloc_new (w6.alloc (.cells #[.int .i64 K, .int .i64 D, .int .i64 A, .int .i64 B, .int .i64 E, .int .u64 (C : Int)] 24)) (.cells #[.int .i64 D, .int .i64 A, .int .i64 B, .int .i64 E] 29); simpa using this
  have BY := hid (bo_of hyb)
  have HAb := hid (el_of hab)
  clear hyb hab hy7 hy8 H17 H18
  go_wp2
  generalize (w6.alloc (.cells #[.int .i64 K, .int .i64 D, .int .i64 A, .int .i64 B, .int .i64 E, .int .u64 (C : Int)] 24)).alloc (.cells #[.int .i64 D, .int .i64 A, .int .i64 B, .int .i64 E] 29) = w8 at *
  clear rk rd ra rb re rc qk qd qa qb qe qc
  have HA8 := hid (HA'.out w8 HB8.out)
  go_loop [10, 11] (fun b i => ∃ j : Nat, j ≤ 4 ∧ i = .int .i64 j ∧ b = .bool (inB D A B E true j)) (fun _ i => 4 - (intOf i).toNat)
  case atStart => exact ⟨0, by omega, rfl, by first | rfl | (show Value.bool (decide (K < 13)) = Value.bool false; rw [decide_eq_false (by omega)])⟩
  case round =>
    obtain ⟨j, hj, rfl, rfl⟩ := hrel
    by_cases hlt : j < 4
    · have hc := HAb.out j hlt
      have HS : Hid (inB D A B E true (j + 1) = (inB D A B E true j && decide (elA D A B E j ≤ 4611686018427387904) && decide (-4611686018427387904 ≤ elA D A B E j))) := hid rfl
      have j1 : (0 : Int) ≤ (j : Int) := by omega
      have j2 : (j : Int) < 4 := by omega
      generalize elA D A B E j = x at *
      obtain ⟨v, hv⟩ : ∃ v, inB D A B E true j = v := ⟨_, rfl⟩
      rw [hv] at HS ⊢
      clear hv
      cases v
      · go_wp2
        go_round
        case rel => exact ⟨j + 1, by omega, by go_num, by rw [HS.out]; rfl⟩
        case measure => simp [intOf]; omega
      · by_cases x1 : x ≤ 4611686018427387904
        · by_cases x2 : -4611686018427387904 ≤ x
          · have e : inB D A B E true (j + 1) = true := by rw [HS.out, decide_eq_true x1, decide_eq_true x2]; rfl
            have He := hid e
            clear e
            go_wp2
            go_round
            case rel => exact ⟨j + 1, by omega, by go_num, by rw [He.out]⟩
            case measure => simp [intOf]; omega
          · have e : inB D A B E true (j + 1) = false := by rw [HS.out, decide_eq_true x1, decide_eq_false x2]; rfl
            have He := hid e
            clear e
            go_wp2
            go_round
            case rel => exact ⟨j + 1, by omega, by go_num, by rw [He.out]⟩
            case measure => simp [intOf]; omega
        · have e : inB D A B E true (j + 1) = false := by rw [HS.out, decide_eq_false x1]; rfl
          have He := hid e
          clear e
          go_wp2
          go_round
          case rel => exact ⟨j + 1, by omega, by go_num, by rw [He.out]⟩
          case measure => simp [intOf]; omega
    · obtain rfl : j = 4 := by omega
      rw [HIN.out]
      have BYo := BY.out
      have yk := BYo.k; have yd := BYo.d; have ya := BYo.a; have yb := BYo.b; have ye := BYo.e; have yc := BYo.c; clear BYo
      go_wp2_with (go_at_call 4; (with_reducible refine (HA8.out).mono ?_); rintro e w9 ⟨rfl, h9⟩; have H9 := hid (HB8.out.trans (h9.mono HB8.out.size)); clear h9)
      go_ret
      exact ⟨rfl, H9.out⟩
set_option maxHeartbeats 3200000 in
theorem oreads_nyr (o : Op6) (s : ByteArray) (W : World) (hn : ∀ p, mayP p → sB (lnL p) ≠ s) (hm : mayP o) (hk : 0 < o.K ∧ o.K < 13) (hs : ¬ 1000 < s.size)
    (hD : -9223372036854775808 ≤ o.D ∧ o.D ≤ 9223372036854775807) (hA : -9223372036854775808 ≤ o.A ∧ o.A ≤ 9223372036854775807) (hB : -9223372036854775808 ≤ o.B ∧ o.B ≤ 9223372036854775807) (hE : -9223372036854775808 ≤ o.E ∧ o.E ≤ 9223372036854775807) (hC : o.C < 18446744073709551616)
    (HP : ∀ (s : ByteArray) (w : World), s.size ≤ 1000 → Below W.heap.size W w → Calls Tryd.prog 5 #[.string s] w (ParP s w))
    (HA : ∀ w, Below W.heap.size W w → Calls Tryd.prog 4 #[] w fun e w' => e = .returned (.bool true) ∧ Below w.heap.size w w') :
    Calls Tryd.prog 3 #[opW o, .string s] W fun e w' => e = .returned (.bool true) ∧ Below W.heap.size W w' := by
  have HP1 := hid fun w hb => (HP s w (by omega) hb).mono fun e w' h => par_no h hn
  have HP2 := hid fun w hb => (HP (sB (lnL o)) w (by have := ln_len o hD hA hB hE hC; omega) hb).mono fun e w' h => par_yes h hm rfl
  have HA' := hid HA
  have HLo := hid fun w => refline_any o w hD hA hB hE hC
  have hin := in_may o hC
  rw [decide_eq_true hk.1, decide_eq_true hk.2, Bool.and_true] at hin
  have hq1 := hk.1
  have hq2 := hk.2
  rw [decide_eq_true hm] at hin
  clear HP HA hm hk hn
  obtain ⟨K, D, A, B, E, C⟩ := o
  generalize sB (lnL ⟨K, D, A, B, E, C⟩) = L at *
  simp only at *
  have HBo := hid (fun w' => bo_box (w := W) (w' := w') (K := K) (D := D) (A := A) (B := B) (E := E) (C := C))
  have hb1 : Below W.heap.size W (W.alloc (.cells #[.int .i64 K, .int .i64 D, .int .i64 A, .int .i64 B, .int .i64 E, .int .u64 (C : Int)] 24)) := (Below.refl _ _).alloc (Nat.le_refl _) _
  have HP1a := hid (HP1.out _ hb1)
  have HB1 := hid hb1
  obtain ⟨w1, hw1⟩ : ∃ w1, W.alloc (.cells #[.int .i64 K, .int .i64 D, .int .i64 A, .int .i64 B, .int .i64 E, .int .u64 (C : Int)] 24) = w1 := ⟨_, rfl⟩
  rw [hw1] at HBo HB1
  have HW1 := hid hw1
  clear hw1 hb1 HP1
  have HIN := hid hin
  clear hin
  go_enter Tryd.func3, Tryd.ntmps3
  go_wp2_with (go_at_call 5; (with_reducible refine (HP1a.out).mono ?_); rintro e w2 ⟨rfl, h2⟩; have H2 : Hid (Below w1.heap.size w1 w2) := hid (by rw [← HW1.out]; exact h2); clear h2; refine Hid.out ?_)
  refine hid ?_
  have hb2 := HB1.out.trans (H2.out.mono HB1.out.size)
  have hbx : Below w2.heap.size w2 (w2.alloc (.cells #[.int .i64 0, .int .i64 0, .int .i64 0, .int .i64 0, .int .i64 0, .int .u64 0] 24)) := (Below.refl _ _).alloc (Nat.le_refl _) _
  have HX := hid (hb2.trans (hbx.mono hb2.size))
  have HX1 := hid (H2.out.trans (hbx.mono H2.out.size))
  clear hb2 hbx
  have HB4 := HX
  have H14 := HX1
  have BO := HBo.out _ H14.out
  have qk := BO.k; have qd := BO.d; have qa := BO.a; have qb := BO.b; have qe := BO.e; have qc := BO.c; clear BO
  go_wp2_with (first
    | (go_at_call 6; (with_reducible refine (HLo.out _).mono ?_); rintro e w5 ⟨rfl, h5⟩; have HB5 := hid (HB4.out.trans (h5.mono HB4.out.size)); have H15 := hid (H14.out.trans (h5.mono H14.out.size)); clear h5)
    | (go_at_call 5; (with_reducible refine (HP2.out w5 HB5.out).mono ?_); rintro e w6 ⟨rfl, h6⟩; have HB6 := hid (HB5.out.trans (h6.mono HB5.out.size)); have H16 := hid (H15.out.trans (h6.mono H15.out.size)); clear h6; refine Hid.out ?_))
  refine hid ?_
  have hy7 : Below w6.heap.size w6 (w6.alloc (.cells #[.int .i64 K, .int .i64 D, .int .i64 A, .int .i64 B, .int .i64 E, .int .u64 (C : Int)] 24)) := (Below.refl _ _).alloc (Nat.le_refl _) _
  have hy8 : Below w6.heap.size w6 ((w6.alloc (.cells #[.int .i64 K, .int .i64 D, .int .i64 A, .int .i64 B, .int .i64 E, .int .u64 (C : Int)] 24)).alloc (.cells #[.int .i64 D, .int .i64 A, .int .i64 B, .int .i64 E] 29)) := hy7.alloc (by simp) _
  have H17 := H16.out.trans (hy7.mono H16.out.size)
  have H18 := H16.out.trans (hy8.mono H16.out.size)
  have HB8 := hid (HB6.out.trans (hy8.mono HB6.out.size))
  have BO := HBo.out _ H17
  have rk := BO.k; have rd := BO.d; have ra := BO.a; have rb := BO.b; have re := BO.e; have rc := BO.c; clear BO
  have BO := HBo.out _ H18
  have uk := BO.k; have ud := BO.d; have ua := BO.a; have ub := BO.b; have ue := BO.e; have uc := BO.c; clear BO
  have hyb : ((w6.alloc (.cells #[.int .i64 K, .int .i64 D, .int .i64 A, .int .i64 B, .int .i64 E, .int .u64 (C : Int)] 24)).alloc (.cells #[.int .i64 D, .int .i64 A, .int .i64 B, .int .i64 E] 29)).heap[w6.heap.size]? = some (.cells #[.int .i64 K, .int .i64 D, .int .i64 A, .int .i64 B, .int .i64 E, .int .u64 (C : Int)] 24 (0, 0)) := by
    rw [Below.heap_alloc _ _ _ (by simp)]; exact heap_alloc_new w6 (.cells #[.int .i64 K, .int .i64 D, .int .i64 A, .int .i64 B, .int .i64 E, .int .u64 (C : Int)] 24)
  have hab : ((w6.alloc (.cells #[.int .i64 K, .int .i64 D, .int .i64 A, .int .i64 B, .int .i64 E, .int .u64 (C : Int)] 24)).alloc (.cells #[.int .i64 D, .int .i64 A, .int .i64 B, .int .i64 E] 29)).heap[w6.heap.size + 1]? = some (.cells #[.int .i64 D, .int .i64 A, .int .i64 B, .int .i64 E] 29 (0, 0)) := by
    have := heap_alloc_new (w6.alloc (.cells #[.int .i64 K, .int .i64 D, .int .i64 A, .int .i64 B, .int .i64 E, .int .u64 (C : Int)] 24)) (.cells #[.int .i64 D, .int .i64 A, .int .i64 B, .int .i64 E] 29); simpa using this
  have BY := hid (bo_of hyb)
  have HAb := hid (el_of hab)
  clear hyb hab hy7 hy8 H17 H18
  go_wp2
  generalize (w6.alloc (.cells #[.int .i64 K, .int .i64 D, .int .i64 A, .int .i64 B, .int .i64 E, .int .u64 (C : Int)] 24)).alloc (.cells #[.int .i64 D, .int .i64 A, .int .i64 B, .int .i64 E] 29) = w8 at *
  clear rk rd ra rb re rc qk qd qa qb qe qc
  have HA8 := hid (HA'.out w8 HB8.out)
  go_loop [10, 11] (fun b i => ∃ j : Nat, j ≤ 4 ∧ i = .int .i64 j ∧ b = .bool (inB D A B E true j)) (fun _ i => 4 - (intOf i).toNat)
  case atStart => exact ⟨0, by omega, rfl, by first | rfl | (show Value.bool (decide (K < 13)) = Value.bool false; rw [decide_eq_false (by omega)])⟩
  case round =>
    obtain ⟨j, hj, rfl, rfl⟩ := hrel
    by_cases hlt : j < 4
    · have hc := HAb.out j hlt
      have HS : Hid (inB D A B E true (j + 1) = (inB D A B E true j && decide (elA D A B E j ≤ 4611686018427387904) && decide (-4611686018427387904 ≤ elA D A B E j))) := hid rfl
      have j1 : (0 : Int) ≤ (j : Int) := by omega
      have j2 : (j : Int) < 4 := by omega
      generalize elA D A B E j = x at *
      obtain ⟨v, hv⟩ : ∃ v, inB D A B E true j = v := ⟨_, rfl⟩
      rw [hv] at HS ⊢
      clear hv
      cases v
      · go_wp2
        go_round
        case rel => exact ⟨j + 1, by omega, by go_num, by rw [HS.out]; rfl⟩
        case measure => simp [intOf]; omega
      · by_cases x1 : x ≤ 4611686018427387904
        · by_cases x2 : -4611686018427387904 ≤ x
          · have e : inB D A B E true (j + 1) = true := by rw [HS.out, decide_eq_true x1, decide_eq_true x2]; rfl
            have He := hid e
            clear e
            go_wp2
            go_round
            case rel => exact ⟨j + 1, by omega, by go_num, by rw [He.out]⟩
            case measure => simp [intOf]; omega
          · have e : inB D A B E true (j + 1) = false := by rw [HS.out, decide_eq_true x1, decide_eq_false x2]; rfl
            have He := hid e
            clear e
            go_wp2
            go_round
            case rel => exact ⟨j + 1, by omega, by go_num, by rw [He.out]⟩
            case measure => simp [intOf]; omega
        · have e : inB D A B E true (j + 1) = false := by rw [HS.out, decide_eq_false x1]; rfl
          have He := hid e
          clear e
          go_wp2
          go_round
          case rel => exact ⟨j + 1, by omega, by go_num, by rw [He.out]⟩
          case measure => simp [intOf]; omega
    · obtain rfl : j = 4 := by omega
      rw [HIN.out]
      have BYo := BY.out
      have yk := BYo.k; have yd := BYo.d; have ya := BYo.a; have yb := BYo.b; have ye := BYo.e; have yc := BYo.c; clear BYo
      go_wp2_with (go_at_call 4; (with_reducible refine (HA8.out).mono ?_); rintro e w9 ⟨rfl, h9⟩; have H9 := hid (HB8.out.trans (h9.mono HB8.out.size)); clear h9)
      go_ret
      exact ⟨rfl, H9.out⟩
set_option maxHeartbeats 3200000 in
theorem oreads_ynr (o : Op6) (s : ByteArray) (W : World) (p : Op6) (hp : mayP p) (hl : sB (lnL p) = s) (hm : ¬ mayP o) (hk : 0 < o.K ∧ o.K < 13) (hs : ¬ 1000 < s.size)
    (hD : -9223372036854775808 ≤ o.D ∧ o.D ≤ 9223372036854775807) (hA : -9223372036854775808 ≤ o.A ∧ o.A ≤ 9223372036854775807) (hB : -9223372036854775808 ≤ o.B ∧ o.B ≤ 9223372036854775807) (hE : -9223372036854775808 ≤ o.E ∧ o.E ≤ 9223372036854775807) (hC : o.C < 18446744073709551616)
    (HP : ∀ (s : ByteArray) (w : World), s.size ≤ 1000 → Below W.heap.size W w → Calls Tryd.prog 5 #[.string s] w (ParP s w))
    (HA : ∀ w, Below W.heap.size W w → Calls Tryd.prog 4 #[] w fun e w' => e = .returned (.bool true) ∧ Below w.heap.size w w') :
    Calls Tryd.prog 3 #[opW o, .string s] W fun e w' => e = .returned (.bool true) ∧ Below W.heap.size W w' := by
  have HP1 := hid fun w hb => (HP s w (by omega) hb).mono fun e w' h => par_yes h hp hl
  have HP2 := hid fun w hb => (HP (sB (lnL o)) w (by have := ln_len o hD hA hB hE hC; omega) hb).mono fun e w' h => par_no h (no_line hm)
  have HA' := hid HA
  have HLo := hid fun w => refline_any o w hD hA hB hE hC
  have hin := in_may o hC
  rw [decide_eq_true hk.1, decide_eq_true hk.2, Bool.and_true] at hin
  have hq1 := hk.1
  have hq2 := hk.2
  rw [decide_eq_false hm] at hin
  have HLp := hid fun w => refline_any p w ⟨by have := hp.2.1; omega, by have := hp.2.1; omega⟩ ⟨by have := hp.2.2.1; omega, by have := hp.2.2.1; omega⟩ ⟨by have := hp.2.2.2.1; omega, by have := hp.2.2.2.1; omega⟩ ⟨by have := hp.2.2.2.2.1; omega, by have := hp.2.2.2.2.1; omega⟩ hp.2.2.2.2.2
  rw [hl] at HLp
  have hk1 : ¬ p.K < 1 := by have := hp.1; omega
  have hk2 : ¬ 12 < p.K := by have := hp.1; omega
  clear HP HA hm hk hp hl
  obtain ⟨K, D, A, B, E, C⟩ := o
  obtain ⟨pK, pD, pA, pB, pE, pC⟩ := p
  generalize sB (lnL ⟨K, D, A, B, E, C⟩) = L at *
  simp only at *
  have HBo := hid (fun w' => bo_box (w := W) (w' := w') (K := K) (D := D) (A := A) (B := B) (E := E) (C := C))
  have hb1 : Below W.heap.size W (W.alloc (.cells #[.int .i64 K, .int .i64 D, .int .i64 A, .int .i64 B, .int .i64 E, .int .u64 (C : Int)] 24)) := (Below.refl _ _).alloc (Nat.le_refl _) _
  have HP1a := hid (HP1.out _ hb1)
  have HB1 := hid hb1
  obtain ⟨w1, hw1⟩ : ∃ w1, W.alloc (.cells #[.int .i64 K, .int .i64 D, .int .i64 A, .int .i64 B, .int .i64 E, .int .u64 (C : Int)] 24) = w1 := ⟨_, rfl⟩
  rw [hw1] at HBo HB1
  have HW1 := hid hw1
  clear hw1 hb1 HP1
  have HIN := hid hin
  clear hin
  go_enter Tryd.func3, Tryd.ntmps3
  go_wp2_with (go_at_call 5; (with_reducible refine (HP1a.out).mono ?_); rintro e w2 ⟨rfl, h2⟩; have H2 : Hid (Below w1.heap.size w1 w2) := hid (by rw [← HW1.out]; exact h2); clear h2; refine Hid.out ?_)
  refine hid ?_
  have hb2 := HB1.out.trans (H2.out.mono HB1.out.size)
  have hbx : Below w2.heap.size w2 (w2.alloc (.cells #[.int .i64 pK, .int .i64 pD, .int .i64 pA, .int .i64 pB, .int .i64 pE, .int .u64 (pC : Int)] 24)) := (Below.refl _ _).alloc (Nat.le_refl _) _
  have HX := hid (hb2.trans (hbx.mono hb2.size))
  have HX1 := hid (H2.out.trans (hbx.mono H2.out.size))
  clear hb2 hbx
  go_wp2_with (go_at_call 6; (with_reducible refine (HLp.out _).mono ?_); rintro e w4 ⟨rfl, h4⟩; have BX := bo_box h4; have kx := BX.k; have HB4 := hid (HX.out.trans (h4.mono HX.out.size)); have H14 := hid (HX1.out.trans (h4.mono HX1.out.size)); clear h4 BX; have BO := HBo.out w4 H14.out; have qk := BO.k; have qd := BO.d; have qa := BO.a; have qb := BO.b; have qe := BO.e; have qc := BO.c; clear BO; refine Hid.out ?_)
  refine hid ?_
  go_wp2_with (first
    | (go_at_call 6; (with_reducible refine (HLo.out _).mono ?_); rintro e w5 ⟨rfl, h5⟩; have HB5 := hid (HB4.out.trans (h5.mono HB4.out.size)); have H15 := hid (H14.out.trans (h5.mono H14.out.size)); clear h5)
    | (go_at_call 5; (with_reducible refine (HP2.out w5 HB5.out).mono ?_); rintro e w6 ⟨rfl, h6⟩; have HB6 := hid (HB5.out.trans (h6.mono HB5.out.size)); have H16 := hid (H15.out.trans (h6.mono H15.out.size)); clear h6; refine Hid.out ?_))
  refine hid ?_
  have hy7 : Below w6.heap.size w6 (w6.alloc (.cells #[.int .i64 0, .int .i64 0, .int .i64 0, .int .i64 0, .int .i64 0, .int .u64 0] 24)) := (Below.refl _ _).alloc (Nat.le_refl _) _
  have hy8 : Below w6.heap.size w6 ((w6.alloc (.cells #[.int .i64 0, .int .i64 0, .int .i64 0, .int .i64 0, .int .i64 0, .int .u64 0] 24)).alloc (.cells #[.int .i64 D, .int .i64 A, .int .i64 B, .int .i64 E] 29)) := hy7.alloc (by simp) _
  have H17 := H16.out.trans (hy7.mono H16.out.size)
  have H18 := H16.out.trans (hy8.mono H16.out.size)
  have HB8 := hid (HB6.out.trans (hy8.mono HB6.out.size))
  have BO := HBo.out _ H17
  have rk := BO.k; have rd := BO.d; have ra := BO.a; have rb := BO.b; have re := BO.e; have rc := BO.c; clear BO
  have BO := HBo.out _ H18
  have uk := BO.k; have ud := BO.d; have ua := BO.a; have ub := BO.b; have ue := BO.e; have uc := BO.c; clear BO
  have hyb : ((w6.alloc (.cells #[.int .i64 0, .int .i64 0, .int .i64 0, .int .i64 0, .int .i64 0, .int .u64 0] 24)).alloc (.cells #[.int .i64 D, .int .i64 A, .int .i64 B, .int .i64 E] 29)).heap[w6.heap.size]? = some (.cells #[.int .i64 0, .int .i64 0, .int .i64 0, .int .i64 0, .int .i64 0, .int .u64 0] 24 (0, 0)) := by
    rw [Below.heap_alloc _ _ _ (by simp)]; exact heap_alloc_new w6 (.cells #[.int .i64 0, .int .i64 0, .int .i64 0, .int .i64 0, .int .i64 0, .int .u64 0] 24)
  have hab : ((w6.alloc (.cells #[.int .i64 0, .int .i64 0, .int .i64 0, .int .i64 0, .int .i64 0, .int .u64 0] 24)).alloc (.cells #[.int .i64 D, .int .i64 A, .int .i64 B, .int .i64 E] 29)).heap[w6.heap.size + 1]? = some (.cells #[.int .i64 D, .int .i64 A, .int .i64 B, .int .i64 E] 29 (0, 0)) := by
    have := heap_alloc_new (w6.alloc (.cells #[.int .i64 0, .int .i64 0, .int .i64 0, .int .i64 0, .int .i64 0, .int .u64 0] 24)) (.cells #[.int .i64 D, .int .i64 A, .int .i64 B, .int .i64 E] 29); simpa using this
  have BY := hid (bo_of hyb)
  have HAb := hid (el_of hab)
  clear hyb hab hy7 hy8 H17 H18
  go_wp2
  generalize (w6.alloc (.cells #[.int .i64 0, .int .i64 0, .int .i64 0, .int .i64 0, .int .i64 0, .int .u64 0] 24)).alloc (.cells #[.int .i64 D, .int .i64 A, .int .i64 B, .int .i64 E] 29) = w8 at *
  clear rk rd ra rb re rc qk qd qa qb qe qc
  have HA8 := hid (HA'.out w8 HB8.out)
  go_loop [10, 11] (fun b i => ∃ j : Nat, j ≤ 4 ∧ i = .int .i64 j ∧ b = .bool (inB D A B E true j)) (fun _ i => 4 - (intOf i).toNat)
  case atStart => exact ⟨0, by omega, rfl, by first | rfl | (show Value.bool (decide (K < 13)) = Value.bool false; rw [decide_eq_false (by omega)])⟩
  case round =>
    obtain ⟨j, hj, rfl, rfl⟩ := hrel
    by_cases hlt : j < 4
    · have hc := HAb.out j hlt
      have HS : Hid (inB D A B E true (j + 1) = (inB D A B E true j && decide (elA D A B E j ≤ 4611686018427387904) && decide (-4611686018427387904 ≤ elA D A B E j))) := hid rfl
      have j1 : (0 : Int) ≤ (j : Int) := by omega
      have j2 : (j : Int) < 4 := by omega
      generalize elA D A B E j = x at *
      obtain ⟨v, hv⟩ : ∃ v, inB D A B E true j = v := ⟨_, rfl⟩
      rw [hv] at HS ⊢
      clear hv
      cases v
      · go_wp2
        go_round
        case rel => exact ⟨j + 1, by omega, by go_num, by rw [HS.out]; rfl⟩
        case measure => simp [intOf]; omega
      · by_cases x1 : x ≤ 4611686018427387904
        · by_cases x2 : -4611686018427387904 ≤ x
          · have e : inB D A B E true (j + 1) = true := by rw [HS.out, decide_eq_true x1, decide_eq_true x2]; rfl
            have He := hid e
            clear e
            go_wp2
            go_round
            case rel => exact ⟨j + 1, by omega, by go_num, by rw [He.out]⟩
            case measure => simp [intOf]; omega
          · have e : inB D A B E true (j + 1) = false := by rw [HS.out, decide_eq_true x1, decide_eq_false x2]; rfl
            have He := hid e
            clear e
            go_wp2
            go_round
            case rel => exact ⟨j + 1, by omega, by go_num, by rw [He.out]⟩
            case measure => simp [intOf]; omega
        · have e : inB D A B E true (j + 1) = false := by rw [HS.out, decide_eq_false x1]; rfl
          have He := hid e
          clear e
          go_wp2
          go_round
          case rel => exact ⟨j + 1, by omega, by go_num, by rw [He.out]⟩
          case measure => simp [intOf]; omega
    · obtain rfl : j = 4 := by omega
      rw [HIN.out]
      have BYo := BY.out
      have yk := BYo.k; have yd := BYo.d; have ya := BYo.a; have yb := BYo.b; have ye := BYo.e; have yc := BYo.c; clear BYo
      go_wp2_with (go_at_call 4; (with_reducible refine (HA8.out).mono ?_); rintro e w9 ⟨rfl, h9⟩; have H9 := hid (HB8.out.trans (h9.mono HB8.out.size)); clear h9)
      go_ret
      exact ⟨rfl, H9.out⟩
set_option maxHeartbeats 3200000 in
theorem oreads_ynl (o : Op6) (s : ByteArray) (W : World) (p : Op6) (hp : mayP p) (hl : sB (lnL p) = s) (hm : ¬ mayP o) (hk : ¬ 0 < o.K) (hs : ¬ 1000 < s.size)
    (hD : -9223372036854775808 ≤ o.D ∧ o.D ≤ 9223372036854775807) (hA : -9223372036854775808 ≤ o.A ∧ o.A ≤ 9223372036854775807) (hB : -9223372036854775808 ≤ o.B ∧ o.B ≤ 9223372036854775807) (hE : -9223372036854775808 ≤ o.E ∧ o.E ≤ 9223372036854775807) (hC : o.C < 18446744073709551616)
    (HP : ∀ (s : ByteArray) (w : World), s.size ≤ 1000 → Below W.heap.size W w → Calls Tryd.prog 5 #[.string s] w (ParP s w))
    (HA : ∀ w, Below W.heap.size W w → Calls Tryd.prog 4 #[] w fun e w' => e = .returned (.bool true) ∧ Below w.heap.size w w') :
    Calls Tryd.prog 3 #[opW o, .string s] W fun e w' => e = .returned (.bool true) ∧ Below W.heap.size W w' := by
  have HP1 := hid fun w hb => (HP s w (by omega) hb).mono fun e w' h => par_yes h hp hl
  have HP2 := hid fun w hb => (HP (sB (lnL o)) w (by have := ln_len o hD hA hB hE hC; omega) hb).mono fun e w' h => par_no h (no_line hm)
  have HA' := hid HA
  have HLo := hid fun w => refline_any o w hD hA hB hE hC
  have hin := in_may o hC
  rw [decide_eq_false hk, Bool.false_and] at hin
  have hq1 := hk
  rw [decide_eq_false hm] at hin
  have HLp := hid fun w => refline_any p w ⟨by have := hp.2.1; omega, by have := hp.2.1; omega⟩ ⟨by have := hp.2.2.1; omega, by have := hp.2.2.1; omega⟩ ⟨by have := hp.2.2.2.1; omega, by have := hp.2.2.2.1; omega⟩ ⟨by have := hp.2.2.2.2.1; omega, by have := hp.2.2.2.2.1; omega⟩ hp.2.2.2.2.2
  rw [hl] at HLp
  have hk1 : ¬ p.K < 1 := by have := hp.1; omega
  have hk2 : ¬ 12 < p.K := by have := hp.1; omega
  clear HP HA hm hk hp hl
  obtain ⟨K, D, A, B, E, C⟩ := o
  obtain ⟨pK, pD, pA, pB, pE, pC⟩ := p
  generalize sB (lnL ⟨K, D, A, B, E, C⟩) = L at *
  simp only at *
  have HBo := hid (fun w' => bo_box (w := W) (w' := w') (K := K) (D := D) (A := A) (B := B) (E := E) (C := C))
  have hb1 : Below W.heap.size W (W.alloc (.cells #[.int .i64 K, .int .i64 D, .int .i64 A, .int .i64 B, .int .i64 E, .int .u64 (C : Int)] 24)) := (Below.refl _ _).alloc (Nat.le_refl _) _
  have HP1a := hid (HP1.out _ hb1)
  have HB1 := hid hb1
  obtain ⟨w1, hw1⟩ : ∃ w1, W.alloc (.cells #[.int .i64 K, .int .i64 D, .int .i64 A, .int .i64 B, .int .i64 E, .int .u64 (C : Int)] 24) = w1 := ⟨_, rfl⟩
  rw [hw1] at HBo HB1
  have HW1 := hid hw1
  clear hw1 hb1 HP1
  have HIN := hid hin
  clear hin
  go_enter Tryd.func3, Tryd.ntmps3
  go_wp2_with (go_at_call 5; (with_reducible refine (HP1a.out).mono ?_); rintro e w2 ⟨rfl, h2⟩; have H2 : Hid (Below w1.heap.size w1 w2) := hid (by rw [← HW1.out]; exact h2); clear h2; refine Hid.out ?_)
  refine hid ?_
  have hb2 := HB1.out.trans (H2.out.mono HB1.out.size)
  have hbx : Below w2.heap.size w2 (w2.alloc (.cells #[.int .i64 pK, .int .i64 pD, .int .i64 pA, .int .i64 pB, .int .i64 pE, .int .u64 (pC : Int)] 24)) := (Below.refl _ _).alloc (Nat.le_refl _) _
  have HX := hid (hb2.trans (hbx.mono hb2.size))
  have HX1 := hid (H2.out.trans (hbx.mono H2.out.size))
  clear hb2 hbx
  go_wp2_with (go_at_call 6; (with_reducible refine (HLp.out _).mono ?_); rintro e w4 ⟨rfl, h4⟩; have BX := bo_box h4; have kx := BX.k; have HB4 := hid (HX.out.trans (h4.mono HX.out.size)); have H14 := hid (HX1.out.trans (h4.mono HX1.out.size)); clear h4 BX; have BO := HBo.out w4 H14.out; have qk := BO.k; have qd := BO.d; have qa := BO.a; have qb := BO.b; have qe := BO.e; have qc := BO.c; clear BO; refine Hid.out ?_)
  refine hid ?_
  go_wp2_with (first
    | (go_at_call 6; (with_reducible refine (HLo.out _).mono ?_); rintro e w5 ⟨rfl, h5⟩; have HB5 := hid (HB4.out.trans (h5.mono HB4.out.size)); have H15 := hid (H14.out.trans (h5.mono H14.out.size)); clear h5)
    | (go_at_call 5; (with_reducible refine (HP2.out w5 HB5.out).mono ?_); rintro e w6 ⟨rfl, h6⟩; have HB6 := hid (HB5.out.trans (h6.mono HB5.out.size)); have H16 := hid (H15.out.trans (h6.mono H15.out.size)); clear h6; refine Hid.out ?_))
  refine hid ?_
  have hy7 : Below w6.heap.size w6 (w6.alloc (.cells #[.int .i64 0, .int .i64 0, .int .i64 0, .int .i64 0, .int .i64 0, .int .u64 0] 24)) := (Below.refl _ _).alloc (Nat.le_refl _) _
  have hy8 : Below w6.heap.size w6 ((w6.alloc (.cells #[.int .i64 0, .int .i64 0, .int .i64 0, .int .i64 0, .int .i64 0, .int .u64 0] 24)).alloc (.cells #[.int .i64 D, .int .i64 A, .int .i64 B, .int .i64 E] 29)) := hy7.alloc (by simp) _
  have H17 := H16.out.trans (hy7.mono H16.out.size)
  have H18 := H16.out.trans (hy8.mono H16.out.size)
  have HB8 := hid (HB6.out.trans (hy8.mono HB6.out.size))
  have BO := HBo.out _ H17
  have rk := BO.k; have rd := BO.d; have ra := BO.a; have rb := BO.b; have re := BO.e; have rc := BO.c; clear BO
  have BO := HBo.out _ H18
  have uk := BO.k; have ud := BO.d; have ua := BO.a; have ub := BO.b; have ue := BO.e; have uc := BO.c; clear BO
  have hyb : ((w6.alloc (.cells #[.int .i64 0, .int .i64 0, .int .i64 0, .int .i64 0, .int .i64 0, .int .u64 0] 24)).alloc (.cells #[.int .i64 D, .int .i64 A, .int .i64 B, .int .i64 E] 29)).heap[w6.heap.size]? = some (.cells #[.int .i64 0, .int .i64 0, .int .i64 0, .int .i64 0, .int .i64 0, .int .u64 0] 24 (0, 0)) := by
    rw [Below.heap_alloc _ _ _ (by simp)]; exact heap_alloc_new w6 (.cells #[.int .i64 0, .int .i64 0, .int .i64 0, .int .i64 0, .int .i64 0, .int .u64 0] 24)
  have hab : ((w6.alloc (.cells #[.int .i64 0, .int .i64 0, .int .i64 0, .int .i64 0, .int .i64 0, .int .u64 0] 24)).alloc (.cells #[.int .i64 D, .int .i64 A, .int .i64 B, .int .i64 E] 29)).heap[w6.heap.size + 1]? = some (.cells #[.int .i64 D, .int .i64 A, .int .i64 B, .int .i64 E] 29 (0, 0)) := by
    have := heap_alloc_new (w6.alloc (.cells #[.int .i64 0, .int .i64 0, .int .i64 0, .int .i64 0, .int .i64 0, .int .u64 0] 24)) (.cells #[.int .i64 D, .int .i64 A, .int .i64 B, .int .i64 E] 29); simpa using this
  have BY := hid (bo_of hyb)
  have HAb := hid (el_of hab)
  clear hyb hab hy7 hy8 H17 H18
  go_wp2
  generalize (w6.alloc (.cells #[.int .i64 0, .int .i64 0, .int .i64 0, .int .i64 0, .int .i64 0, .int .u64 0] 24)).alloc (.cells #[.int .i64 D, .int .i64 A, .int .i64 B, .int .i64 E] 29) = w8 at *
  clear rk rd ra rb re rc qk qd qa qb qe qc
  have HA8 := hid (HA'.out w8 HB8.out)
  go_loop [10, 11] (fun b i => ∃ j : Nat, j ≤ 4 ∧ i = .int .i64 j ∧ b = .bool (inB D A B E false j)) (fun _ i => 4 - (intOf i).toNat)
  case atStart => exact ⟨0, by omega, rfl, by first | rfl | (show Value.bool (decide (K < 13)) = Value.bool false; rw [decide_eq_false (by omega)])⟩
  case round =>
    obtain ⟨j, hj, rfl, rfl⟩ := hrel
    by_cases hlt : j < 4
    · have hc := HAb.out j hlt
      have HS : Hid (inB D A B E false (j + 1) = (inB D A B E false j && decide (elA D A B E j ≤ 4611686018427387904) && decide (-4611686018427387904 ≤ elA D A B E j))) := hid rfl
      have j1 : (0 : Int) ≤ (j : Int) := by omega
      have j2 : (j : Int) < 4 := by omega
      generalize elA D A B E j = x at *
      obtain ⟨v, hv⟩ : ∃ v, inB D A B E false j = v := ⟨_, rfl⟩
      rw [hv] at HS ⊢
      clear hv
      cases v
      · go_wp2
        go_round
        case rel => exact ⟨j + 1, by omega, by go_num, by rw [HS.out]; rfl⟩
        case measure => simp [intOf]; omega
      · by_cases x1 : x ≤ 4611686018427387904
        · by_cases x2 : -4611686018427387904 ≤ x
          · have e : inB D A B E false (j + 1) = true := by rw [HS.out, decide_eq_true x1, decide_eq_true x2]; rfl
            have He := hid e
            clear e
            go_wp2
            go_round
            case rel => exact ⟨j + 1, by omega, by go_num, by rw [He.out]⟩
            case measure => simp [intOf]; omega
          · have e : inB D A B E false (j + 1) = false := by rw [HS.out, decide_eq_true x1, decide_eq_false x2]; rfl
            have He := hid e
            clear e
            go_wp2
            go_round
            case rel => exact ⟨j + 1, by omega, by go_num, by rw [He.out]⟩
            case measure => simp [intOf]; omega
        · have e : inB D A B E false (j + 1) = false := by rw [HS.out, decide_eq_false x1]; rfl
          have He := hid e
          clear e
          go_wp2
          go_round
          case rel => exact ⟨j + 1, by omega, by go_num, by rw [He.out]⟩
          case measure => simp [intOf]; omega
    · obtain rfl : j = 4 := by omega
      rw [HIN.out]
      have BYo := BY.out
      have yk := BYo.k; have yd := BYo.d; have ya := BYo.a; have yb := BYo.b; have ye := BYo.e; have yc := BYo.c; clear BYo
      go_wp2_with (go_at_call 4; (with_reducible refine (HA8.out).mono ?_); rintro e w9 ⟨rfl, h9⟩; have H9 := hid (HB8.out.trans (h9.mono HB8.out.size)); clear h9)
      go_ret
      exact ⟨rfl, H9.out⟩
set_option maxHeartbeats 3200000 in
theorem oreads_yng (o : Op6) (s : ByteArray) (W : World) (p : Op6) (hp : mayP p) (hl : sB (lnL p) = s) (hm : ¬ mayP o) (hk : 0 < o.K ∧ ¬ o.K < 13) (hs : ¬ 1000 < s.size)
    (hD : -9223372036854775808 ≤ o.D ∧ o.D ≤ 9223372036854775807) (hA : -9223372036854775808 ≤ o.A ∧ o.A ≤ 9223372036854775807) (hB : -9223372036854775808 ≤ o.B ∧ o.B ≤ 9223372036854775807) (hE : -9223372036854775808 ≤ o.E ∧ o.E ≤ 9223372036854775807) (hC : o.C < 18446744073709551616)
    (HP : ∀ (s : ByteArray) (w : World), s.size ≤ 1000 → Below W.heap.size W w → Calls Tryd.prog 5 #[.string s] w (ParP s w))
    (HA : ∀ w, Below W.heap.size W w → Calls Tryd.prog 4 #[] w fun e w' => e = .returned (.bool true) ∧ Below w.heap.size w w') :
    Calls Tryd.prog 3 #[opW o, .string s] W fun e w' => e = .returned (.bool true) ∧ Below W.heap.size W w' := by
  have HP1 := hid fun w hb => (HP s w (by omega) hb).mono fun e w' h => par_yes h hp hl
  have HP2 := hid fun w hb => (HP (sB (lnL o)) w (by have := ln_len o hD hA hB hE hC; omega) hb).mono fun e w' h => par_no h (no_line hm)
  have HA' := hid HA
  have HLo := hid fun w => refline_any o w hD hA hB hE hC
  have hin := in_may o hC
  rw [decide_eq_true hk.1, decide_eq_false hk.2, Bool.and_false] at hin
  have hq1 := hk.1
  have hq2 := hk.2
  rw [decide_eq_false hm] at hin
  have HLp := hid fun w => refline_any p w ⟨by have := hp.2.1; omega, by have := hp.2.1; omega⟩ ⟨by have := hp.2.2.1; omega, by have := hp.2.2.1; omega⟩ ⟨by have := hp.2.2.2.1; omega, by have := hp.2.2.2.1; omega⟩ ⟨by have := hp.2.2.2.2.1; omega, by have := hp.2.2.2.2.1; omega⟩ hp.2.2.2.2.2
  rw [hl] at HLp
  have hk1 : ¬ p.K < 1 := by have := hp.1; omega
  have hk2 : ¬ 12 < p.K := by have := hp.1; omega
  clear HP HA hm hk hp hl
  obtain ⟨K, D, A, B, E, C⟩ := o
  obtain ⟨pK, pD, pA, pB, pE, pC⟩ := p
  generalize sB (lnL ⟨K, D, A, B, E, C⟩) = L at *
  simp only at *
  have HBo := hid (fun w' => bo_box (w := W) (w' := w') (K := K) (D := D) (A := A) (B := B) (E := E) (C := C))
  have hb1 : Below W.heap.size W (W.alloc (.cells #[.int .i64 K, .int .i64 D, .int .i64 A, .int .i64 B, .int .i64 E, .int .u64 (C : Int)] 24)) := (Below.refl _ _).alloc (Nat.le_refl _) _
  have HP1a := hid (HP1.out _ hb1)
  have HB1 := hid hb1
  obtain ⟨w1, hw1⟩ : ∃ w1, W.alloc (.cells #[.int .i64 K, .int .i64 D, .int .i64 A, .int .i64 B, .int .i64 E, .int .u64 (C : Int)] 24) = w1 := ⟨_, rfl⟩
  rw [hw1] at HBo HB1
  have HW1 := hid hw1
  clear hw1 hb1 HP1
  have HIN := hid hin
  clear hin
  go_enter Tryd.func3, Tryd.ntmps3
  go_wp2_with (go_at_call 5; (with_reducible refine (HP1a.out).mono ?_); rintro e w2 ⟨rfl, h2⟩; have H2 : Hid (Below w1.heap.size w1 w2) := hid (by rw [← HW1.out]; exact h2); clear h2; refine Hid.out ?_)
  refine hid ?_
  have hb2 := HB1.out.trans (H2.out.mono HB1.out.size)
  have hbx : Below w2.heap.size w2 (w2.alloc (.cells #[.int .i64 pK, .int .i64 pD, .int .i64 pA, .int .i64 pB, .int .i64 pE, .int .u64 (pC : Int)] 24)) := (Below.refl _ _).alloc (Nat.le_refl _) _
  have HX := hid (hb2.trans (hbx.mono hb2.size))
  have HX1 := hid (H2.out.trans (hbx.mono H2.out.size))
  clear hb2 hbx
  go_wp2_with (go_at_call 6; (with_reducible refine (HLp.out _).mono ?_); rintro e w4 ⟨rfl, h4⟩; have BX := bo_box h4; have kx := BX.k; have HB4 := hid (HX.out.trans (h4.mono HX.out.size)); have H14 := hid (HX1.out.trans (h4.mono HX1.out.size)); clear h4 BX; have BO := HBo.out w4 H14.out; have qk := BO.k; have qd := BO.d; have qa := BO.a; have qb := BO.b; have qe := BO.e; have qc := BO.c; clear BO; refine Hid.out ?_)
  refine hid ?_
  go_wp2_with (first
    | (go_at_call 6; (with_reducible refine (HLo.out _).mono ?_); rintro e w5 ⟨rfl, h5⟩; have HB5 := hid (HB4.out.trans (h5.mono HB4.out.size)); have H15 := hid (H14.out.trans (h5.mono H14.out.size)); clear h5)
    | (go_at_call 5; (with_reducible refine (HP2.out w5 HB5.out).mono ?_); rintro e w6 ⟨rfl, h6⟩; have HB6 := hid (HB5.out.trans (h6.mono HB5.out.size)); have H16 := hid (H15.out.trans (h6.mono H15.out.size)); clear h6; refine Hid.out ?_))
  refine hid ?_
  have hy7 : Below w6.heap.size w6 (w6.alloc (.cells #[.int .i64 0, .int .i64 0, .int .i64 0, .int .i64 0, .int .i64 0, .int .u64 0] 24)) := (Below.refl _ _).alloc (Nat.le_refl _) _
  have hy8 : Below w6.heap.size w6 ((w6.alloc (.cells #[.int .i64 0, .int .i64 0, .int .i64 0, .int .i64 0, .int .i64 0, .int .u64 0] 24)).alloc (.cells #[.int .i64 D, .int .i64 A, .int .i64 B, .int .i64 E] 29)) := hy7.alloc (by simp) _
  have H17 := H16.out.trans (hy7.mono H16.out.size)
  have H18 := H16.out.trans (hy8.mono H16.out.size)
  have HB8 := hid (HB6.out.trans (hy8.mono HB6.out.size))
  have BO := HBo.out _ H17
  have rk := BO.k; have rd := BO.d; have ra := BO.a; have rb := BO.b; have re := BO.e; have rc := BO.c; clear BO
  have BO := HBo.out _ H18
  have uk := BO.k; have ud := BO.d; have ua := BO.a; have ub := BO.b; have ue := BO.e; have uc := BO.c; clear BO
  have hyb : ((w6.alloc (.cells #[.int .i64 0, .int .i64 0, .int .i64 0, .int .i64 0, .int .i64 0, .int .u64 0] 24)).alloc (.cells #[.int .i64 D, .int .i64 A, .int .i64 B, .int .i64 E] 29)).heap[w6.heap.size]? = some (.cells #[.int .i64 0, .int .i64 0, .int .i64 0, .int .i64 0, .int .i64 0, .int .u64 0] 24 (0, 0)) := by
    rw [Below.heap_alloc _ _ _ (by simp)]; exact heap_alloc_new w6 (.cells #[.int .i64 0, .int .i64 0, .int .i64 0, .int .i64 0, .int .i64 0, .int .u64 0] 24)
  have hab : ((w6.alloc (.cells #[.int .i64 0, .int .i64 0, .int .i64 0, .int .i64 0, .int .i64 0, .int .u64 0] 24)).alloc (.cells #[.int .i64 D, .int .i64 A, .int .i64 B, .int .i64 E] 29)).heap[w6.heap.size + 1]? = some (.cells #[.int .i64 D, .int .i64 A, .int .i64 B, .int .i64 E] 29 (0, 0)) := by
    have := heap_alloc_new (w6.alloc (.cells #[.int .i64 0, .int .i64 0, .int .i64 0, .int .i64 0, .int .i64 0, .int .u64 0] 24)) (.cells #[.int .i64 D, .int .i64 A, .int .i64 B, .int .i64 E] 29); simpa using this
  have BY := hid (bo_of hyb)
  have HAb := hid (el_of hab)
  clear hyb hab hy7 hy8 H17 H18
  go_wp2
  generalize (w6.alloc (.cells #[.int .i64 0, .int .i64 0, .int .i64 0, .int .i64 0, .int .i64 0, .int .u64 0] 24)).alloc (.cells #[.int .i64 D, .int .i64 A, .int .i64 B, .int .i64 E] 29) = w8 at *
  clear rk rd ra rb re rc qk qd qa qb qe qc
  have HA8 := hid (HA'.out w8 HB8.out)
  go_loop [10, 11] (fun b i => ∃ j : Nat, j ≤ 4 ∧ i = .int .i64 j ∧ b = .bool (inB D A B E false j)) (fun _ i => 4 - (intOf i).toNat)
  case atStart => exact ⟨0, by omega, rfl, by first | rfl | (show Value.bool (decide (K < 13)) = Value.bool false; rw [decide_eq_false (by omega)])⟩
  case round =>
    obtain ⟨j, hj, rfl, rfl⟩ := hrel
    by_cases hlt : j < 4
    · have hc := HAb.out j hlt
      have HS : Hid (inB D A B E false (j + 1) = (inB D A B E false j && decide (elA D A B E j ≤ 4611686018427387904) && decide (-4611686018427387904 ≤ elA D A B E j))) := hid rfl
      have j1 : (0 : Int) ≤ (j : Int) := by omega
      have j2 : (j : Int) < 4 := by omega
      generalize elA D A B E j = x at *
      obtain ⟨v, hv⟩ : ∃ v, inB D A B E false j = v := ⟨_, rfl⟩
      rw [hv] at HS ⊢
      clear hv
      cases v
      · go_wp2
        go_round
        case rel => exact ⟨j + 1, by omega, by go_num, by rw [HS.out]; rfl⟩
        case measure => simp [intOf]; omega
      · by_cases x1 : x ≤ 4611686018427387904
        · by_cases x2 : -4611686018427387904 ≤ x
          · have e : inB D A B E false (j + 1) = true := by rw [HS.out, decide_eq_true x1, decide_eq_true x2]; rfl
            have He := hid e
            clear e
            go_wp2
            go_round
            case rel => exact ⟨j + 1, by omega, by go_num, by rw [He.out]⟩
            case measure => simp [intOf]; omega
          · have e : inB D A B E false (j + 1) = false := by rw [HS.out, decide_eq_true x1, decide_eq_false x2]; rfl
            have He := hid e
            clear e
            go_wp2
            go_round
            case rel => exact ⟨j + 1, by omega, by go_num, by rw [He.out]⟩
            case measure => simp [intOf]; omega
        · have e : inB D A B E false (j + 1) = false := by rw [HS.out, decide_eq_false x1]; rfl
          have He := hid e
          clear e
          go_wp2
          go_round
          case rel => exact ⟨j + 1, by omega, by go_num, by rw [He.out]⟩
          case measure => simp [intOf]; omega
    · obtain rfl : j = 4 := by omega
      rw [HIN.out]
      have BYo := BY.out
      have yk := BYo.k; have yd := BYo.d; have ya := BYo.a; have yb := BYo.b; have ye := BYo.e; have yc := BYo.c; clear BYo
      go_wp2_with (go_at_call 4; (with_reducible refine (HA8.out).mono ?_); rintro e w9 ⟨rfl, h9⟩; have H9 := hid (HB8.out.trans (h9.mono HB8.out.size)); clear h9)
      go_ret
      exact ⟨rfl, H9.out⟩
set_option maxHeartbeats 3200000 in
theorem oreads_nnr (o : Op6) (s : ByteArray) (W : World) (hn : ∀ p, mayP p → sB (lnL p) ≠ s) (hm : ¬ mayP o) (hk : 0 < o.K ∧ o.K < 13) (hs : ¬ 1000 < s.size)
    (hD : -9223372036854775808 ≤ o.D ∧ o.D ≤ 9223372036854775807) (hA : -9223372036854775808 ≤ o.A ∧ o.A ≤ 9223372036854775807) (hB : -9223372036854775808 ≤ o.B ∧ o.B ≤ 9223372036854775807) (hE : -9223372036854775808 ≤ o.E ∧ o.E ≤ 9223372036854775807) (hC : o.C < 18446744073709551616)
    (HP : ∀ (s : ByteArray) (w : World), s.size ≤ 1000 → Below W.heap.size W w → Calls Tryd.prog 5 #[.string s] w (ParP s w))
    (HA : ∀ w, Below W.heap.size W w → Calls Tryd.prog 4 #[] w fun e w' => e = .returned (.bool true) ∧ Below w.heap.size w w') :
    Calls Tryd.prog 3 #[opW o, .string s] W fun e w' => e = .returned (.bool true) ∧ Below W.heap.size W w' := by
  have HP1 := hid fun w hb => (HP s w (by omega) hb).mono fun e w' h => par_no h hn
  have HP2 := hid fun w hb => (HP (sB (lnL o)) w (by have := ln_len o hD hA hB hE hC; omega) hb).mono fun e w' h => par_no h (no_line hm)
  have HA' := hid HA
  have HLo := hid fun w => refline_any o w hD hA hB hE hC
  have hin := in_may o hC
  rw [decide_eq_true hk.1, decide_eq_true hk.2, Bool.and_true] at hin
  have hq1 := hk.1
  have hq2 := hk.2
  rw [decide_eq_false hm] at hin
  clear HP HA hm hk hn
  obtain ⟨K, D, A, B, E, C⟩ := o
  generalize sB (lnL ⟨K, D, A, B, E, C⟩) = L at *
  simp only at *
  have HBo := hid (fun w' => bo_box (w := W) (w' := w') (K := K) (D := D) (A := A) (B := B) (E := E) (C := C))
  have hb1 : Below W.heap.size W (W.alloc (.cells #[.int .i64 K, .int .i64 D, .int .i64 A, .int .i64 B, .int .i64 E, .int .u64 (C : Int)] 24)) := (Below.refl _ _).alloc (Nat.le_refl _) _
  have HP1a := hid (HP1.out _ hb1)
  have HB1 := hid hb1
  obtain ⟨w1, hw1⟩ : ∃ w1, W.alloc (.cells #[.int .i64 K, .int .i64 D, .int .i64 A, .int .i64 B, .int .i64 E, .int .u64 (C : Int)] 24) = w1 := ⟨_, rfl⟩
  rw [hw1] at HBo HB1
  have HW1 := hid hw1
  clear hw1 hb1 HP1
  have HIN := hid hin
  clear hin
  go_enter Tryd.func3, Tryd.ntmps3
  go_wp2_with (go_at_call 5; (with_reducible refine (HP1a.out).mono ?_); rintro e w2 ⟨rfl, h2⟩; have H2 : Hid (Below w1.heap.size w1 w2) := hid (by rw [← HW1.out]; exact h2); clear h2; refine Hid.out ?_)
  refine hid ?_
  have hb2 := HB1.out.trans (H2.out.mono HB1.out.size)
  have hbx : Below w2.heap.size w2 (w2.alloc (.cells #[.int .i64 0, .int .i64 0, .int .i64 0, .int .i64 0, .int .i64 0, .int .u64 0] 24)) := (Below.refl _ _).alloc (Nat.le_refl _) _
  have HX := hid (hb2.trans (hbx.mono hb2.size))
  have HX1 := hid (H2.out.trans (hbx.mono H2.out.size))
  clear hb2 hbx
  have HB4 := HX
  have H14 := HX1
  have BO := HBo.out _ H14.out
  have qk := BO.k; have qd := BO.d; have qa := BO.a; have qb := BO.b; have qe := BO.e; have qc := BO.c; clear BO
  go_wp2_with (first
    | (go_at_call 6; (with_reducible refine (HLo.out _).mono ?_); rintro e w5 ⟨rfl, h5⟩; have HB5 := hid (HB4.out.trans (h5.mono HB4.out.size)); have H15 := hid (H14.out.trans (h5.mono H14.out.size)); clear h5)
    | (go_at_call 5; (with_reducible refine (HP2.out w5 HB5.out).mono ?_); rintro e w6 ⟨rfl, h6⟩; have HB6 := hid (HB5.out.trans (h6.mono HB5.out.size)); have H16 := hid (H15.out.trans (h6.mono H15.out.size)); clear h6; refine Hid.out ?_))
  refine hid ?_
  have hy7 : Below w6.heap.size w6 (w6.alloc (.cells #[.int .i64 0, .int .i64 0, .int .i64 0, .int .i64 0, .int .i64 0, .int .u64 0] 24)) := (Below.refl _ _).alloc (Nat.le_refl _) _
  have hy8 : Below w6.heap.size w6 ((w6.alloc (.cells #[.int .i64 0, .int .i64 0, .int .i64 0, .int .i64 0, .int .i64 0, .int .u64 0] 24)).alloc (.cells #[.int .i64 D, .int .i64 A, .int .i64 B, .int .i64 E] 29)) := hy7.alloc (by simp) _
  have H17 := H16.out.trans (hy7.mono H16.out.size)
  have H18 := H16.out.trans (hy8.mono H16.out.size)
  have HB8 := hid (HB6.out.trans (hy8.mono HB6.out.size))
  have BO := HBo.out _ H17
  have rk := BO.k; have rd := BO.d; have ra := BO.a; have rb := BO.b; have re := BO.e; have rc := BO.c; clear BO
  have BO := HBo.out _ H18
  have uk := BO.k; have ud := BO.d; have ua := BO.a; have ub := BO.b; have ue := BO.e; have uc := BO.c; clear BO
  have hyb : ((w6.alloc (.cells #[.int .i64 0, .int .i64 0, .int .i64 0, .int .i64 0, .int .i64 0, .int .u64 0] 24)).alloc (.cells #[.int .i64 D, .int .i64 A, .int .i64 B, .int .i64 E] 29)).heap[w6.heap.size]? = some (.cells #[.int .i64 0, .int .i64 0, .int .i64 0, .int .i64 0, .int .i64 0, .int .u64 0] 24 (0, 0)) := by
    rw [Below.heap_alloc _ _ _ (by simp)]; exact heap_alloc_new w6 (.cells #[.int .i64 0, .int .i64 0, .int .i64 0, .int .i64 0, .int .i64 0, .int .u64 0] 24)
  have hab : ((w6.alloc (.cells #[.int .i64 0, .int .i64 0, .int .i64 0, .int .i64 0, .int .i64 0, .int .u64 0] 24)).alloc (.cells #[.int .i64 D, .int .i64 A, .int .i64 B, .int .i64 E] 29)).heap[w6.heap.size + 1]? = some (.cells #[.int .i64 D, .int .i64 A, .int .i64 B, .int .i64 E] 29 (0, 0)) := by
    have := heap_alloc_new (w6.alloc (.cells #[.int .i64 0, .int .i64 0, .int .i64 0, .int .i64 0, .int .i64 0, .int .u64 0] 24)) (.cells #[.int .i64 D, .int .i64 A, .int .i64 B, .int .i64 E] 29); simpa using this
  have BY := hid (bo_of hyb)
  have HAb := hid (el_of hab)
  clear hyb hab hy7 hy8 H17 H18
  go_wp2
  generalize (w6.alloc (.cells #[.int .i64 0, .int .i64 0, .int .i64 0, .int .i64 0, .int .i64 0, .int .u64 0] 24)).alloc (.cells #[.int .i64 D, .int .i64 A, .int .i64 B, .int .i64 E] 29) = w8 at *
  clear rk rd ra rb re rc qk qd qa qb qe qc
  have HA8 := hid (HA'.out w8 HB8.out)
  go_loop [10, 11] (fun b i => ∃ j : Nat, j ≤ 4 ∧ i = .int .i64 j ∧ b = .bool (inB D A B E true j)) (fun _ i => 4 - (intOf i).toNat)
  case atStart => exact ⟨0, by omega, rfl, by first | rfl | (show Value.bool (decide (K < 13)) = Value.bool false; rw [decide_eq_false (by omega)])⟩
  case round =>
    obtain ⟨j, hj, rfl, rfl⟩ := hrel
    by_cases hlt : j < 4
    · have hc := HAb.out j hlt
      have HS : Hid (inB D A B E true (j + 1) = (inB D A B E true j && decide (elA D A B E j ≤ 4611686018427387904) && decide (-4611686018427387904 ≤ elA D A B E j))) := hid rfl
      have j1 : (0 : Int) ≤ (j : Int) := by omega
      have j2 : (j : Int) < 4 := by omega
      generalize elA D A B E j = x at *
      obtain ⟨v, hv⟩ : ∃ v, inB D A B E true j = v := ⟨_, rfl⟩
      rw [hv] at HS ⊢
      clear hv
      cases v
      · go_wp2
        go_round
        case rel => exact ⟨j + 1, by omega, by go_num, by rw [HS.out]; rfl⟩
        case measure => simp [intOf]; omega
      · by_cases x1 : x ≤ 4611686018427387904
        · by_cases x2 : -4611686018427387904 ≤ x
          · have e : inB D A B E true (j + 1) = true := by rw [HS.out, decide_eq_true x1, decide_eq_true x2]; rfl
            have He := hid e
            clear e
            go_wp2
            go_round
            case rel => exact ⟨j + 1, by omega, by go_num, by rw [He.out]⟩
            case measure => simp [intOf]; omega
          · have e : inB D A B E true (j + 1) = false := by rw [HS.out, decide_eq_true x1, decide_eq_false x2]; rfl
            have He := hid e
            clear e
            go_wp2
            go_round
            case rel => exact ⟨j + 1, by omega, by go_num, by rw [He.out]⟩
            case measure => simp [intOf]; omega
        · have e : inB D A B E true (j + 1) = false := by rw [HS.out, decide_eq_false x1]; rfl
          have He := hid e
          clear e
          go_wp2
          go_round
          case rel => exact ⟨j + 1, by omega, by go_num, by rw [He.out]⟩
          case measure => simp [intOf]; omega
    · obtain rfl : j = 4 := by omega
      rw [HIN.out]
      have BYo := BY.out
      have yk := BYo.k; have yd := BYo.d; have ya := BYo.a; have yb := BYo.b; have ye := BYo.e; have yc := BYo.c; clear BYo
      go_wp2_with (go_at_call 4; (with_reducible refine (HA8.out).mono ?_); rintro e w9 ⟨rfl, h9⟩; have H9 := hid (HB8.out.trans (h9.mono HB8.out.size)); clear h9)
      go_ret
      exact ⟨rfl, H9.out⟩
set_option maxHeartbeats 3200000 in
theorem oreads_nnl (o : Op6) (s : ByteArray) (W : World) (hn : ∀ p, mayP p → sB (lnL p) ≠ s) (hm : ¬ mayP o) (hk : ¬ 0 < o.K) (hs : ¬ 1000 < s.size)
    (hD : -9223372036854775808 ≤ o.D ∧ o.D ≤ 9223372036854775807) (hA : -9223372036854775808 ≤ o.A ∧ o.A ≤ 9223372036854775807) (hB : -9223372036854775808 ≤ o.B ∧ o.B ≤ 9223372036854775807) (hE : -9223372036854775808 ≤ o.E ∧ o.E ≤ 9223372036854775807) (hC : o.C < 18446744073709551616)
    (HP : ∀ (s : ByteArray) (w : World), s.size ≤ 1000 → Below W.heap.size W w → Calls Tryd.prog 5 #[.string s] w (ParP s w))
    (HA : ∀ w, Below W.heap.size W w → Calls Tryd.prog 4 #[] w fun e w' => e = .returned (.bool true) ∧ Below w.heap.size w w') :
    Calls Tryd.prog 3 #[opW o, .string s] W fun e w' => e = .returned (.bool true) ∧ Below W.heap.size W w' := by
  have HP1 := hid fun w hb => (HP s w (by omega) hb).mono fun e w' h => par_no h hn
  have HP2 := hid fun w hb => (HP (sB (lnL o)) w (by have := ln_len o hD hA hB hE hC; omega) hb).mono fun e w' h => par_no h (no_line hm)
  have HA' := hid HA
  have HLo := hid fun w => refline_any o w hD hA hB hE hC
  have hin := in_may o hC
  rw [decide_eq_false hk, Bool.false_and] at hin
  have hq1 := hk
  rw [decide_eq_false hm] at hin
  clear HP HA hm hk hn
  obtain ⟨K, D, A, B, E, C⟩ := o
  generalize sB (lnL ⟨K, D, A, B, E, C⟩) = L at *
  simp only at *
  have HBo := hid (fun w' => bo_box (w := W) (w' := w') (K := K) (D := D) (A := A) (B := B) (E := E) (C := C))
  have hb1 : Below W.heap.size W (W.alloc (.cells #[.int .i64 K, .int .i64 D, .int .i64 A, .int .i64 B, .int .i64 E, .int .u64 (C : Int)] 24)) := (Below.refl _ _).alloc (Nat.le_refl _) _
  have HP1a := hid (HP1.out _ hb1)
  have HB1 := hid hb1
  obtain ⟨w1, hw1⟩ : ∃ w1, W.alloc (.cells #[.int .i64 K, .int .i64 D, .int .i64 A, .int .i64 B, .int .i64 E, .int .u64 (C : Int)] 24) = w1 := ⟨_, rfl⟩
  rw [hw1] at HBo HB1
  have HW1 := hid hw1
  clear hw1 hb1 HP1
  have HIN := hid hin
  clear hin
  go_enter Tryd.func3, Tryd.ntmps3
  go_wp2_with (go_at_call 5; (with_reducible refine (HP1a.out).mono ?_); rintro e w2 ⟨rfl, h2⟩; have H2 : Hid (Below w1.heap.size w1 w2) := hid (by rw [← HW1.out]; exact h2); clear h2; refine Hid.out ?_)
  refine hid ?_
  have hb2 := HB1.out.trans (H2.out.mono HB1.out.size)
  have hbx : Below w2.heap.size w2 (w2.alloc (.cells #[.int .i64 0, .int .i64 0, .int .i64 0, .int .i64 0, .int .i64 0, .int .u64 0] 24)) := (Below.refl _ _).alloc (Nat.le_refl _) _
  have HX := hid (hb2.trans (hbx.mono hb2.size))
  have HX1 := hid (H2.out.trans (hbx.mono H2.out.size))
  clear hb2 hbx
  have HB4 := HX
  have H14 := HX1
  have BO := HBo.out _ H14.out
  have qk := BO.k; have qd := BO.d; have qa := BO.a; have qb := BO.b; have qe := BO.e; have qc := BO.c; clear BO
  go_wp2_with (first
    | (go_at_call 6; (with_reducible refine (HLo.out _).mono ?_); rintro e w5 ⟨rfl, h5⟩; have HB5 := hid (HB4.out.trans (h5.mono HB4.out.size)); have H15 := hid (H14.out.trans (h5.mono H14.out.size)); clear h5)
    | (go_at_call 5; (with_reducible refine (HP2.out w5 HB5.out).mono ?_); rintro e w6 ⟨rfl, h6⟩; have HB6 := hid (HB5.out.trans (h6.mono HB5.out.size)); have H16 := hid (H15.out.trans (h6.mono H15.out.size)); clear h6; refine Hid.out ?_))
  refine hid ?_
  have hy7 : Below w6.heap.size w6 (w6.alloc (.cells #[.int .i64 0, .int .i64 0, .int .i64 0, .int .i64 0, .int .i64 0, .int .u64 0] 24)) := (Below.refl _ _).alloc (Nat.le_refl _) _
  have hy8 : Below w6.heap.size w6 ((w6.alloc (.cells #[.int .i64 0, .int .i64 0, .int .i64 0, .int .i64 0, .int .i64 0, .int .u64 0] 24)).alloc (.cells #[.int .i64 D, .int .i64 A, .int .i64 B, .int .i64 E] 29)) := hy7.alloc (by simp) _
  have H17 := H16.out.trans (hy7.mono H16.out.size)
  have H18 := H16.out.trans (hy8.mono H16.out.size)
  have HB8 := hid (HB6.out.trans (hy8.mono HB6.out.size))
  have BO := HBo.out _ H17
  have rk := BO.k; have rd := BO.d; have ra := BO.a; have rb := BO.b; have re := BO.e; have rc := BO.c; clear BO
  have BO := HBo.out _ H18
  have uk := BO.k; have ud := BO.d; have ua := BO.a; have ub := BO.b; have ue := BO.e; have uc := BO.c; clear BO
  have hyb : ((w6.alloc (.cells #[.int .i64 0, .int .i64 0, .int .i64 0, .int .i64 0, .int .i64 0, .int .u64 0] 24)).alloc (.cells #[.int .i64 D, .int .i64 A, .int .i64 B, .int .i64 E] 29)).heap[w6.heap.size]? = some (.cells #[.int .i64 0, .int .i64 0, .int .i64 0, .int .i64 0, .int .i64 0, .int .u64 0] 24 (0, 0)) := by
    rw [Below.heap_alloc _ _ _ (by simp)]; exact heap_alloc_new w6 (.cells #[.int .i64 0, .int .i64 0, .int .i64 0, .int .i64 0, .int .i64 0, .int .u64 0] 24)
  have hab : ((w6.alloc (.cells #[.int .i64 0, .int .i64 0, .int .i64 0, .int .i64 0, .int .i64 0, .int .u64 0] 24)).alloc (.cells #[.int .i64 D, .int .i64 A, .int .i64 B, .int .i64 E] 29)).heap[w6.heap.size + 1]? = some (.cells #[.int .i64 D, .int .i64 A, .int .i64 B, .int .i64 E] 29 (0, 0)) := by
    have := heap_alloc_new (w6.alloc (.cells #[.int .i64 0, .int .i64 0, .int .i64 0, .int .i64 0, .int .i64 0, .int .u64 0] 24)) (.cells #[.int .i64 D, .int .i64 A, .int .i64 B, .int .i64 E] 29); simpa using this
  have BY := hid (bo_of hyb)
  have HAb := hid (el_of hab)
  clear hyb hab hy7 hy8 H17 H18
  go_wp2
  generalize (w6.alloc (.cells #[.int .i64 0, .int .i64 0, .int .i64 0, .int .i64 0, .int .i64 0, .int .u64 0] 24)).alloc (.cells #[.int .i64 D, .int .i64 A, .int .i64 B, .int .i64 E] 29) = w8 at *
  clear rk rd ra rb re rc qk qd qa qb qe qc
  have HA8 := hid (HA'.out w8 HB8.out)
  go_loop [10, 11] (fun b i => ∃ j : Nat, j ≤ 4 ∧ i = .int .i64 j ∧ b = .bool (inB D A B E false j)) (fun _ i => 4 - (intOf i).toNat)
  case atStart => exact ⟨0, by omega, rfl, by first | rfl | (show Value.bool (decide (K < 13)) = Value.bool false; rw [decide_eq_false (by omega)])⟩
  case round =>
    obtain ⟨j, hj, rfl, rfl⟩ := hrel
    by_cases hlt : j < 4
    · have hc := HAb.out j hlt
      have HS : Hid (inB D A B E false (j + 1) = (inB D A B E false j && decide (elA D A B E j ≤ 4611686018427387904) && decide (-4611686018427387904 ≤ elA D A B E j))) := hid rfl
      have j1 : (0 : Int) ≤ (j : Int) := by omega
      have j2 : (j : Int) < 4 := by omega
      generalize elA D A B E j = x at *
      obtain ⟨v, hv⟩ : ∃ v, inB D A B E false j = v := ⟨_, rfl⟩
      rw [hv] at HS ⊢
      clear hv
      cases v
      · go_wp2
        go_round
        case rel => exact ⟨j + 1, by omega, by go_num, by rw [HS.out]; rfl⟩
        case measure => simp [intOf]; omega
      · by_cases x1 : x ≤ 4611686018427387904
        · by_cases x2 : -4611686018427387904 ≤ x
          · have e : inB D A B E false (j + 1) = true := by rw [HS.out, decide_eq_true x1, decide_eq_true x2]; rfl
            have He := hid e
            clear e
            go_wp2
            go_round
            case rel => exact ⟨j + 1, by omega, by go_num, by rw [He.out]⟩
            case measure => simp [intOf]; omega
          · have e : inB D A B E false (j + 1) = false := by rw [HS.out, decide_eq_true x1, decide_eq_false x2]; rfl
            have He := hid e
            clear e
            go_wp2
            go_round
            case rel => exact ⟨j + 1, by omega, by go_num, by rw [He.out]⟩
            case measure => simp [intOf]; omega
        · have e : inB D A B E false (j + 1) = false := by rw [HS.out, decide_eq_false x1]; rfl
          have He := hid e
          clear e
          go_wp2
          go_round
          case rel => exact ⟨j + 1, by omega, by go_num, by rw [He.out]⟩
          case measure => simp [intOf]; omega
    · obtain rfl : j = 4 := by omega
      rw [HIN.out]
      have BYo := BY.out
      have yk := BYo.k; have yd := BYo.d; have ya := BYo.a; have yb := BYo.b; have ye := BYo.e; have yc := BYo.c; clear BYo
      go_wp2_with (go_at_call 4; (with_reducible refine (HA8.out).mono ?_); rintro e w9 ⟨rfl, h9⟩; have H9 := hid (HB8.out.trans (h9.mono HB8.out.size)); clear h9)
      go_ret
      exact ⟨rfl, H9.out⟩
set_option maxHeartbeats 3200000 in
theorem oreads_nng (o : Op6) (s : ByteArray) (W : World) (hn : ∀ p, mayP p → sB (lnL p) ≠ s) (hm : ¬ mayP o) (hk : 0 < o.K ∧ ¬ o.K < 13) (hs : ¬ 1000 < s.size)
    (hD : -9223372036854775808 ≤ o.D ∧ o.D ≤ 9223372036854775807) (hA : -9223372036854775808 ≤ o.A ∧ o.A ≤ 9223372036854775807) (hB : -9223372036854775808 ≤ o.B ∧ o.B ≤ 9223372036854775807) (hE : -9223372036854775808 ≤ o.E ∧ o.E ≤ 9223372036854775807) (hC : o.C < 18446744073709551616)
    (HP : ∀ (s : ByteArray) (w : World), s.size ≤ 1000 → Below W.heap.size W w → Calls Tryd.prog 5 #[.string s] w (ParP s w))
    (HA : ∀ w, Below W.heap.size W w → Calls Tryd.prog 4 #[] w fun e w' => e = .returned (.bool true) ∧ Below w.heap.size w w') :
    Calls Tryd.prog 3 #[opW o, .string s] W fun e w' => e = .returned (.bool true) ∧ Below W.heap.size W w' := by
  have HP1 := hid fun w hb => (HP s w (by omega) hb).mono fun e w' h => par_no h hn
  have HP2 := hid fun w hb => (HP (sB (lnL o)) w (by have := ln_len o hD hA hB hE hC; omega) hb).mono fun e w' h => par_no h (no_line hm)
  have HA' := hid HA
  have HLo := hid fun w => refline_any o w hD hA hB hE hC
  have hin := in_may o hC
  rw [decide_eq_true hk.1, decide_eq_false hk.2, Bool.and_false] at hin
  have hq1 := hk.1
  have hq2 := hk.2
  rw [decide_eq_false hm] at hin
  clear HP HA hm hk hn
  obtain ⟨K, D, A, B, E, C⟩ := o
  generalize sB (lnL ⟨K, D, A, B, E, C⟩) = L at *
  simp only at *
  have HBo := hid (fun w' => bo_box (w := W) (w' := w') (K := K) (D := D) (A := A) (B := B) (E := E) (C := C))
  have hb1 : Below W.heap.size W (W.alloc (.cells #[.int .i64 K, .int .i64 D, .int .i64 A, .int .i64 B, .int .i64 E, .int .u64 (C : Int)] 24)) := (Below.refl _ _).alloc (Nat.le_refl _) _
  have HP1a := hid (HP1.out _ hb1)
  have HB1 := hid hb1
  obtain ⟨w1, hw1⟩ : ∃ w1, W.alloc (.cells #[.int .i64 K, .int .i64 D, .int .i64 A, .int .i64 B, .int .i64 E, .int .u64 (C : Int)] 24) = w1 := ⟨_, rfl⟩
  rw [hw1] at HBo HB1
  have HW1 := hid hw1
  clear hw1 hb1 HP1
  have HIN := hid hin
  clear hin
  go_enter Tryd.func3, Tryd.ntmps3
  go_wp2_with (go_at_call 5; (with_reducible refine (HP1a.out).mono ?_); rintro e w2 ⟨rfl, h2⟩; have H2 : Hid (Below w1.heap.size w1 w2) := hid (by rw [← HW1.out]; exact h2); clear h2; refine Hid.out ?_)
  refine hid ?_
  have hb2 := HB1.out.trans (H2.out.mono HB1.out.size)
  have hbx : Below w2.heap.size w2 (w2.alloc (.cells #[.int .i64 0, .int .i64 0, .int .i64 0, .int .i64 0, .int .i64 0, .int .u64 0] 24)) := (Below.refl _ _).alloc (Nat.le_refl _) _
  have HX := hid (hb2.trans (hbx.mono hb2.size))
  have HX1 := hid (H2.out.trans (hbx.mono H2.out.size))
  clear hb2 hbx
  have HB4 := HX
  have H14 := HX1
  have BO := HBo.out _ H14.out
  have qk := BO.k; have qd := BO.d; have qa := BO.a; have qb := BO.b; have qe := BO.e; have qc := BO.c; clear BO
  go_wp2_with (first
    | (go_at_call 6; (with_reducible refine (HLo.out _).mono ?_); rintro e w5 ⟨rfl, h5⟩; have HB5 := hid (HB4.out.trans (h5.mono HB4.out.size)); have H15 := hid (H14.out.trans (h5.mono H14.out.size)); clear h5)
    | (go_at_call 5; (with_reducible refine (HP2.out w5 HB5.out).mono ?_); rintro e w6 ⟨rfl, h6⟩; have HB6 := hid (HB5.out.trans (h6.mono HB5.out.size)); have H16 := hid (H15.out.trans (h6.mono H15.out.size)); clear h6; refine Hid.out ?_))
  refine hid ?_
  have hy7 : Below w6.heap.size w6 (w6.alloc (.cells #[.int .i64 0, .int .i64 0, .int .i64 0, .int .i64 0, .int .i64 0, .int .u64 0] 24)) := (Below.refl _ _).alloc (Nat.le_refl _) _
  have hy8 : Below w6.heap.size w6 ((w6.alloc (.cells #[.int .i64 0, .int .i64 0, .int .i64 0, .int .i64 0, .int .i64 0, .int .u64 0] 24)).alloc (.cells #[.int .i64 D, .int .i64 A, .int .i64 B, .int .i64 E] 29)) := hy7.alloc (by simp) _
  have H17 := H16.out.trans (hy7.mono H16.out.size)
  have H18 := H16.out.trans (hy8.mono H16.out.size)
  have HB8 := hid (HB6.out.trans (hy8.mono HB6.out.size))
  have BO := HBo.out _ H17
  have rk := BO.k; have rd := BO.d; have ra := BO.a; have rb := BO.b; have re := BO.e; have rc := BO.c; clear BO
  have BO := HBo.out _ H18
  have uk := BO.k; have ud := BO.d; have ua := BO.a; have ub := BO.b; have ue := BO.e; have uc := BO.c; clear BO
  have hyb : ((w6.alloc (.cells #[.int .i64 0, .int .i64 0, .int .i64 0, .int .i64 0, .int .i64 0, .int .u64 0] 24)).alloc (.cells #[.int .i64 D, .int .i64 A, .int .i64 B, .int .i64 E] 29)).heap[w6.heap.size]? = some (.cells #[.int .i64 0, .int .i64 0, .int .i64 0, .int .i64 0, .int .i64 0, .int .u64 0] 24 (0, 0)) := by
    rw [Below.heap_alloc _ _ _ (by simp)]; exact heap_alloc_new w6 (.cells #[.int .i64 0, .int .i64 0, .int .i64 0, .int .i64 0, .int .i64 0, .int .u64 0] 24)
  have hab : ((w6.alloc (.cells #[.int .i64 0, .int .i64 0, .int .i64 0, .int .i64 0, .int .i64 0, .int .u64 0] 24)).alloc (.cells #[.int .i64 D, .int .i64 A, .int .i64 B, .int .i64 E] 29)).heap[w6.heap.size + 1]? = some (.cells #[.int .i64 D, .int .i64 A, .int .i64 B, .int .i64 E] 29 (0, 0)) := by
    have := heap_alloc_new (w6.alloc (.cells #[.int .i64 0, .int .i64 0, .int .i64 0, .int .i64 0, .int .i64 0, .int .u64 0] 24)) (.cells #[.int .i64 D, .int .i64 A, .int .i64 B, .int .i64 E] 29); simpa using this
  have BY := hid (bo_of hyb)
  have HAb := hid (el_of hab)
  clear hyb hab hy7 hy8 H17 H18
  go_wp2
  generalize (w6.alloc (.cells #[.int .i64 0, .int .i64 0, .int .i64 0, .int .i64 0, .int .i64 0, .int .u64 0] 24)).alloc (.cells #[.int .i64 D, .int .i64 A, .int .i64 B, .int .i64 E] 29) = w8 at *
  clear rk rd ra rb re rc qk qd qa qb qe qc
  have HA8 := hid (HA'.out w8 HB8.out)
  go_loop [10, 11] (fun b i => ∃ j : Nat, j ≤ 4 ∧ i = .int .i64 j ∧ b = .bool (inB D A B E false j)) (fun _ i => 4 - (intOf i).toNat)
  case atStart => exact ⟨0, by omega, rfl, by first | rfl | (show Value.bool (decide (K < 13)) = Value.bool false; rw [decide_eq_false (by omega)])⟩
  case round =>
    obtain ⟨j, hj, rfl, rfl⟩ := hrel
    by_cases hlt : j < 4
    · have hc := HAb.out j hlt
      have HS : Hid (inB D A B E false (j + 1) = (inB D A B E false j && decide (elA D A B E j ≤ 4611686018427387904) && decide (-4611686018427387904 ≤ elA D A B E j))) := hid rfl
      have j1 : (0 : Int) ≤ (j : Int) := by omega
      have j2 : (j : Int) < 4 := by omega
      generalize elA D A B E j = x at *
      obtain ⟨v, hv⟩ : ∃ v, inB D A B E false j = v := ⟨_, rfl⟩
      rw [hv] at HS ⊢
      clear hv
      cases v
      · go_wp2
        go_round
        case rel => exact ⟨j + 1, by omega, by go_num, by rw [HS.out]; rfl⟩
        case measure => simp [intOf]; omega
      · by_cases x1 : x ≤ 4611686018427387904
        · by_cases x2 : -4611686018427387904 ≤ x
          · have e : inB D A B E false (j + 1) = true := by rw [HS.out, decide_eq_true x1, decide_eq_true x2]; rfl
            have He := hid e
            clear e
            go_wp2
            go_round
            case rel => exact ⟨j + 1, by omega, by go_num, by rw [He.out]⟩
            case measure => simp [intOf]; omega
          · have e : inB D A B E false (j + 1) = false := by rw [HS.out, decide_eq_true x1, decide_eq_false x2]; rfl
            have He := hid e
            clear e
            go_wp2
            go_round
            case rel => exact ⟨j + 1, by omega, by go_num, by rw [He.out]⟩
            case measure => simp [intOf]; omega
        · have e : inB D A B E false (j + 1) = false := by rw [HS.out, decide_eq_false x1]; rfl
          have He := hid e
          clear e
          go_wp2
          go_round
          case rel => exact ⟨j + 1, by omega, by go_num, by rw [He.out]⟩
          case measure => simp [intOf]; omega
    · obtain rfl : j = 4 := by omega
      rw [HIN.out]
      have BYo := BY.out
      have yk := BYo.k; have yd := BYo.d; have ya := BYo.a; have yb := BYo.b; have ye := BYo.e; have yc := BYo.c; clear BYo
      go_wp2_with (go_at_call 4; (with_reducible refine (HA8.out).mono ?_); rintro e w9 ⟨rfl, h9⟩; have H9 := hid (HB8.out.trans (h9.mono HB8.out.size)); clear h9)
      go_ret
      exact ⟨rfl, H9.out⟩
theorem oreads_long (o : Op6) (s : ByteArray) (W : World) (hs : 1000 < s.size)
    (HA : ∀ w, Below W.heap.size W w → Calls Tryd.prog 4 #[] w fun e w' => e = .returned (.bool true) ∧ Below w.heap.size w w') :
    Calls Tryd.prog 3 #[opW o, .string s] W fun e w' => e = .returned (.bool true) ∧ Below W.heap.size W w' := by
  obtain ⟨K, D, A, B, E, C⟩ := o
  have hb1 : Below W.heap.size W (W.alloc (.cells #[.int .i64 K, .int .i64 D, .int .i64 A, .int .i64 B, .int .i64 E, .int .u64 (C : Int)] 24)) := (Below.refl _ _).alloc (Nat.le_refl _) _
  have HA1 := hid (HA _ hb1)
  have HB1 := hid hb1
  clear hb1 HA
  go_enter Tryd.func3, Tryd.ntmps3
  go_wp2_with (go_at_call 4; (with_reducible refine (HA1.out).mono ?_); rintro e w9 ⟨rfl, h9⟩; have H9 := hid (HB1.out.trans (h9.mono HB1.out.size)); clear h9)
  go_ret
  exact ⟨rfl, H9.out⟩
theorem oreads_core (o : Op6) (s : ByteArray) (W : World)
    (hD : -9223372036854775808 ≤ o.D ∧ o.D ≤ 9223372036854775807) (hA : -9223372036854775808 ≤ o.A ∧ o.A ≤ 9223372036854775807) (hB : -9223372036854775808 ≤ o.B ∧ o.B ≤ 9223372036854775807) (hE : -9223372036854775808 ≤ o.E ∧ o.E ≤ 9223372036854775807) (hC : o.C < 18446744073709551616)
    (HP : ∀ (s : ByteArray) (w : World), s.size ≤ 1000 → Below W.heap.size W w → Calls Tryd.prog 5 #[.string s] w (ParP s w))
    (HA : ∀ w, Below W.heap.size W w → Calls Tryd.prog 4 #[] w fun e w' => e = .returned (.bool true) ∧ Below w.heap.size w w') :
    Calls Tryd.prog 3 #[opW o, .string s] W fun e w' => e = .returned (.bool true) ∧ Below W.heap.size W w' := by
  by_cases hs : 1000 < s.size
  · exact oreads_long o s W hs HA
  · by_cases hy : ∃ p, mayP p ∧ sB (lnL p) = s
    · obtain ⟨p, hp, hl⟩ := hy
      by_cases hm : mayP o
      · exact oreads_yyr o s W p hp hl hm (by have := hm.1; omega) hs hD hA hB hE hC HP HA
      · by_cases h0 : 0 < o.K
        · by_cases h1 : o.K < 13
          · exact oreads_ynr o s W p hp hl hm ⟨h0, h1⟩ hs hD hA hB hE hC HP HA
          · exact oreads_yng o s W p hp hl hm ⟨h0, h1⟩ hs hD hA hB hE hC HP HA
        · exact oreads_ynl o s W p hp hl hm h0 hs hD hA hB hE hC HP HA
    · have hn : ∀ p, mayP p → sB (lnL p) ≠ s := fun p hp hl => hy ⟨p, hp, hl⟩
      by_cases hm : mayP o
      · exact oreads_nyr o s W hn hm (by have := hm.1; omega) hs hD hA hB hE hC HP HA
      · by_cases h0 : 0 < o.K
        · by_cases h1 : o.K < 13
          · exact oreads_nnr o s W hn hm ⟨h0, h1⟩ hs hD hA hB hE hC HP HA
          · exact oreads_nng o s W hn hm ⟨h0, h1⟩ hs hD hA hB hE hC HP HA
        · exact oreads_nnl o s W hn hm h0 hs hD hA hB hE hC HP HA
end Go.Proofs.YthfgpjebmhbedaaDoor
