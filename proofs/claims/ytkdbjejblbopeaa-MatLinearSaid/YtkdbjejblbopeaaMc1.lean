import Derived.Test.YtkdbjejblbopeaaMb3
import Derived.Test.YtkdbjejblbopeaaReg
namespace Go.Proofs.Ytkdbjejblbopeaa
open Go.RowKit

/-- Two matrices that came in. -/
structure AB (a b : Nat → Nat) (w wr : World) : Prop where
  low : Below w.heap.size w wr
  fst : M wr w.heap.size a
  snd : M wr (w.heap.size + 1) b
theorem AB.start (a b : Nat → Nat) (w : World) : AB a b w ((w.alloc (.cells (ba 8 a) 23)).alloc (.cells (ba 8 b) 23)) := by
  refine ⟨((Below.refl _ _).alloc (Nat.le_refl _) _).alloc (by simp) _, (At.new w 8 23 a).alloc _, ?_⟩
  have := At.new (w.alloc (.cells (ba 8 a) 23)) 8 23 b
  rw [World.size_alloc] at this
  exact this
theorem AB.on {a b : Nat → Nat} {w wr w1 : World} (h : AB a b w wr) (hb : Below wr.heap.size wr w1) : AB a b w w1 := ⟨h.low.trans (hb.mono h.low.size), h.fst.self hb, h.snd.self hb⟩
theorem AB.drew {a b : Nat → Nat} {w wr : World} (h : AB a b w wr) : AB a b w wr.drew := ⟨h.low.drew, h.fst, h.snd⟩
theorem AB.cells {a b : Nat → Nat} {w wr : World} (h : AB a b w wr) : Cells wr w.heap.size a ∧ Cells wr (w.heap.size + 1) b := ⟨h.fst.cells, h.snd.cells⟩
/-- .. and one that was made. -/
structure ABC (c : Nat) (a b i : Nat → Nat) (w wr : World) : Prop extends AB a b w wr where
  trd : M wr c i
  far : w.heap.size + 2 ≤ c
theorem ABC.on {c : Nat} {a b i : Nat → Nat} {w wr w1 : World} (h : ABC c a b i w wr) (hb : Below wr.heap.size wr w1) : ABC c a b i w w1 := ⟨h.toAB.on hb, h.trd.self hb, h.far⟩
theorem ABC.drew {c : Nat} {a b i : Nat → Nat} {w wr : World} (h : ABC c a b i w wr) : ABC c a b i w wr.drew := ⟨h.toAB.drew, h.trd, h.far⟩
theorem ABC.cells {c : Nat} {a b i : Nat → Nat} {w wr : World} (h : ABC c a b i w wr) : Cells wr w.heap.size a ∧ Cells wr (w.heap.size + 1) b ∧ Cells wr c i := ⟨h.fst.cells, h.snd.cells, h.trd.cells⟩
theorem ABC.start {a b i : Nat → Nat} {w wr : World} (h : AB a b w wr) : ABC wr.heap.size a b i w ((wr.alloc (.cells (ba 8 (fun _ => 0)) 23)).setRow wr.heap.size (ba 8 i)) := by
  have l1 := h.fst.lt; have l2 := h.snd.lt
  exact ⟨⟨below_setRow (h.low.alloc (by omega) _) (by omega) _, (h.fst.alloc _).rowApart (by omega) _, (h.snd.alloc _).rowApart (by omega) _⟩, (At.new wr 8 23 _).row i, by omega⟩

set_option maxRecDepth 20000 in
set_option maxHeartbeats 4000000 in
theorem linear_core (a b : Nat → Nat) (x y : Nat) (w : World) (ha : By a) (hb : By b) (hx : x < 256) (hy : y < 256) :
    Calls Try.prog 4 #[.agg (ba 8 a), .agg (ba 8 b), .int .u8 (x : Int), .int .u8 (y : Int)] w fun e w' => e = .returned (.bool true) ∧ Below w.heap.size w w' := by
  have HS := hid (AB.start a b w)
  have hguard := guard23
  have hxy := xor8 hx hy
  have hxl := xor_lt hx hy
  have huv := xor8 (ap_lt a x) (ap_lt a y)
  rw [← ap_xor] at huv
  have HZ : Hid (∀ w, Calls Try.prog 10 #[.agg (ex a), .int .u8 ((x ^^^ y : Nat) : Int)] w fun e w' => e = .returned (.int .u8 (ap a (x ^^^ y) : Nat)) ∧ Below w.heap.size w w') := hid (fun w => apply_any a _ w ha hxl)
  have HU : Hid (∀ w, Calls Try.prog 10 #[.agg (ex a), .int .u8 (x : Int)] w fun e w' => e = .returned (.int .u8 (ap a x : Nat)) ∧ Below w.heap.size w w') := hid (fun w => apply_any a x w ha hx)
  have HV : Hid (∀ w, Calls Try.prog 10 #[.agg (ex a), .int .u8 (y : Int)] w fun e w' => e = .returned (.int .u8 (ap a y : Nat)) ∧ Below w.heap.size w w') := hid (fun w => apply_any a y w ha hy)
  have HP : Hid (∀ w, Calls Try.prog 12 #[.agg (ex a), .agg (ex b)] w fun e w' => e = .returned (.agg (ba 8 (mu a b))) ∧ Below w.heap.size w w') := hid (fun w => mul_any a b w ha hb)
  have hmb := mu_by a hb
  have HPX : Hid (∀ w, Calls Try.prog 10 #[.agg (ba 8 (mu a b)), .int .u8 (x : Int)] w fun e w' => e = .returned (.int .u8 (ap a (ap b x) : Nat)) ∧ Below w.heap.size w w') := hid (fun w => by
    have := apply_any (mu a b) x w hmb hx; rw [ap_mu] at this; exact this)
  have HBX : Hid (∀ w, Calls Try.prog 10 #[.agg (ex b), .int .u8 (x : Int)] w fun e w' => e = .returned (.int .u8 (ap b x : Nat)) ∧ Below w.heap.size w w') := hid (fun w => apply_any b x w hb hx)
  have HABX : Hid (∀ w, Calls Try.prog 10 #[.agg (ex a), .int .u8 (ap b x : Nat)] w fun e w' => e = .returned (.int .u8 (ap a (ap b x) : Nat)) ∧ Below w.heap.size w w') := hid (fun w => apply_any a _ w ha (ap_lt _ _))
  have HF : Hid (∀ w, Calls Try.prog 8 #[.agg (ex a)] w fun e w' => e = .returned (.agg (ba 8 (flip a))) ∧ Below w.heap.size w w') := hid (fun w => flip_any a w ha)
  have HFF : Hid (∀ w, Calls Try.prog 8 #[.agg (ba 8 (flip a))] w fun e w' => e = .returned (.agg (ba 8 a)) ∧ Below w.heap.size w w') := hid (fun w => by
    have := flip_any (flip a) w (flip_by a); rw [ba_ext (flip_flip ha)] at this; exact this)
  have HEQ : ∀ w, (Op.equalIn 10000 23 (.agg (ba 8 a)) (.agg (ex a))).run Try.prog w = .ok true w := fun w => eqB (f := a) (g := a) (by simp) w
  have HI : Hid (∀ w, Calls Try.prog 6 #[.agg (ba 8 a)] w fun e w' => e = .returned (.tuple #[.agg (ba 8 (inv a)), .bool (decide (rk a = 8))]) ∧ Below w.heap.size w w') := hid (fun w => inv_any a w ha)
  have HRA : Hid (∀ w, Calls Try.prog 17 #[.agg (ex a)] w fun e w' => e = .returned (.int .i64 (rk a : Nat)) ∧ Below w.heap.size w w') := hid (fun w => rank_any a w ha)
  have HRP : Hid (∀ w, Calls Try.prog 17 #[.agg (ba 8 (mu a b))] w fun e w' => e = .returned (.int .i64 (rk (mu a b) : Nat)) ∧ Below w.heap.size w w') := hid (fun w => rank_any _ w hmb)
  have HRF : Hid (∀ w, Calls Try.prog 17 #[.agg (ba 8 (flip a))] w fun e w' => e = .returned (.int .i64 (rk a : Nat)) ∧ Below w.heap.size w w') := hid (fun w => by
    have := rank_any (flip a) w (flip_by a); rw [rk_flip ha] at this; exact this)
  have HIX : Hid (rk a = 8 → ∀ w, Calls Try.prog 10 #[.agg (ex (inv a)), .int .u8 (ap a x : Nat)] w fun e w' => e = .returned (.int .u8 (x : Int)) ∧ Below w.heap.size w w') := hid (fun hr w => by
    have := apply_any (inv a) (ap a x) w (inv_by a) (ap_lt _ _); rw [inv_left ha hr x hx] at this; exact this)
  have HMI : Hid (rk a = 8 → ∀ w, Calls Try.prog 12 #[.agg (ex a), .agg (ex (inv a))] w fun e w' => e = .returned (.agg (ba 8 one)) ∧ Below w.heap.size w w') := hid (fun hr w => by
    have := mul_any a (inv a) w ha (inv_by a); rw [ba_ext (mu_inv ha hr)] at this; exact this)
  have HON : Hid (∀ w, Calls Try.prog 16 #[] w fun e w' => e = .returned (.agg (ba 8 one)) ∧ Below w.heap.size w w') := hid (fun w => one_any w)
  have HEO : ∀ w, (Op.equalIn 10000 23 (.agg (ba 8 one)) (.agg (ba 8 one))).run Try.prog w = .ok true w := fun w => eqB (f := one) (g := one) (by simp) w
  have HW : Hid (∀ w, Calls Try.prog 19 #[] w fun e w' => e = .returned (.bool true) ∧ Below w.heap.size w w') := hid (fun w => awake_any w)
  have hle : ¬ rk a < rk (mu a b) := by have := rk_mu_le ha hb; omega
  have hq8 : ((rk a : Int) == 8) = decide (rk a = 8) := by
    by_cases h : rk a = 8
    · rw [decide_eq_true h]; exact eqT (y := 8) h
    · rw [decide_eq_false h]; exact eqF (y := 8) h
  generalize ap a (x ^^^ y) = t at HZ huv
  generalize x ^^^ y = z at HZ hxy hxl
  generalize ap a x = u at HU huv HIX
  generalize ap a y = v at HV huv
  generalize ap a (ap b x) = r at HPX HABX
  generalize ap b x = s at HBX HABX
  generalize mu a b = p at HP HPX HRP hle hmb
  generalize flip a = fl at HF HFF HRF
  generalize inv a = iv at HI HIX HMI
  generalize rk a = ra at HI HRA HRF HIX HMI hle hq8
  generalize rk p = rp at HRP hle
  obtain ⟨q, hq⟩ : ∃ q, decide (ra = 8) = q := ⟨_, rfl⟩
  rw [hq] at HI hq8
  have HQ := hid hq
  generalize one = on at HMI HON HEO
  clear ha hb hmb hq
  go_enter Try.func4, Try.ntmps4
  go_wp2
  have HM0 := hid HS.out.drew
  have K0 := HM0.out.cells
  go_region_held3 (fun w' => Cells w' w.heap.size a ∧ Cells w' (w.heap.size + 1) b) (first
    | with_reducible assumption) (first
      | (go_at_call 10; (with_reducible refine (HZ.out _).mono ?_); rintro e w1 ⟨rfl, hlow⟩; have HM1 := hid (HM0.out.on hlow); have K1 := HM1.out.cells; clear hlow)
      | (go_at_call 10; (with_reducible refine (HU.out _).mono ?_); rintro e w2 ⟨rfl, hlow⟩; have HM2 := hid (HM1.out.on hlow); have K2 := HM2.out.cells; clear hlow)
      | (go_at_call 10; (with_reducible refine (HV.out _).mono ?_); rintro e w3 ⟨rfl, hlow⟩; have HM3 := hid (HM2.out.on hlow); have K3 := HM3.out.cells; clear hlow)
      | (go_at_call 12; (with_reducible refine (HP.out _).mono ?_); rintro e w4 ⟨rfl, hlow⟩; have HM4 := hid (HM3.out.on hlow); have K4 := HM4.out.cells; clear hlow)
      | (go_at_call 10; (with_reducible refine (HPX.out _).mono ?_); rintro e w5 ⟨rfl, hlow⟩; have HM5 := hid (HM4.out.on hlow); have K5 := HM5.out.cells; clear hlow)
      | (go_at_call 10; (with_reducible refine (HBX.out _).mono ?_); rintro e w6 ⟨rfl, hlow⟩; have HM6 := hid (HM5.out.on hlow); have K6 := HM6.out.cells; clear hlow)
      | (go_at_call 10; (with_reducible refine (HABX.out _).mono ?_); rintro e w7 ⟨rfl, hlow⟩; have HM7 := hid (HM6.out.on hlow); have K7 := HM7.out.cells; clear hlow)
      | (go_at_call 8; (with_reducible refine (HF.out _).mono ?_); rintro e w8 ⟨rfl, hlow⟩; have HM8 := hid (HM7.out.on hlow); have K8 := HM8.out.cells; clear hlow)
      | (go_at_call 8; (with_reducible refine (HFF.out _).mono ?_); rintro e w9 ⟨rfl, hlow⟩; have HM9 := hid (HM8.out.on hlow); have K9 := HM9.out.cells; clear hlow))
  clear K0 K1 K2 K3 K4 K5 K6 K7 K8 K9 HM0 HM1 HM2 HM3 HM4 HM5 HM6 HM7 HM8
  go_wp2_with (first
    | (refine step_load_ba rfl 23 _ rfl w.heap.size 8 23 5 a rfl HM9.out.fst Try.underlying23 info23 ?_)
    | (go_at_call 6; (with_reducible refine (HI.out _).mono ?_); rintro e w10 ⟨rfl, hlow⟩; have HM10 := hid (HM9.out.on hlow); have HN := hid (ABC.start (i := iv) HM10.out); clear hlow)
    | (refine step_store_ba rfl 23 _ _ rfl w10.heap.size 8 23 (fun _ => 0) iv rfl rfl (At.new w10 8 23 (fun _ => 0)) info23 ?_))
  have HN0 := hid HN.out.drew
  have K0 := HN0.out.cells
  go_region_held3 (fun w' => Cells w' w.heap.size a ∧ Cells w' (w.heap.size + 1) b ∧ Cells w' w10.heap.size iv) (first
    | with_reducible assumption
    | exact K0) (first
      | (go_at_call 17; (with_reducible refine (HRA.out _).mono ?_); rintro e w1 ⟨rfl, hlow⟩; have HN1 := hid (HN0.out.on hlow); have K1 := HN1.out.cells; clear hlow)
      | (go_at_call 12; (with_reducible refine (HP.out _).mono ?_); rintro e w2 ⟨rfl, hlow⟩; have HN2 := hid (HN1.out.on hlow); have K2 := HN2.out.cells; clear hlow)
      | (go_at_call 17; (with_reducible refine (HRP.out _).mono ?_); rintro e w3 ⟨rfl, hlow⟩; have HN3 := hid (HN2.out.on hlow); have K3 := HN3.out.cells; clear hlow)
      | (go_at_call 17; (with_reducible refine (HRA.out _).mono ?_); rintro e w4 ⟨rfl, hlow⟩; have HN4 := hid (HN3.out.on hlow); have K4 := HN4.out.cells; clear hlow)
      | (go_at_call 8; (with_reducible refine (HF.out _).mono ?_); rintro e w5 ⟨rfl, hlow⟩; have HN5 := hid (HN4.out.on hlow); have K5 := HN5.out.cells; clear hlow)
      | (go_at_call 17; (with_reducible refine (HRF.out _).mono ?_); rintro e w6 ⟨rfl, hlow⟩; have HN6 := hid (HN5.out.on hlow); have K6 := HN6.out.cells; clear hlow)
      | (go_at_call 17; (with_reducible refine (HRA.out _).mono ?_); rintro e w7 ⟨rfl, hlow⟩; have HN7 := hid (HN6.out.on hlow); have K7 := HN7.out.cells; clear hlow))
  clear K0 K1 K2 K3 K4 K5 K6 K7 HN0 HN1 HN2 HN3 HN4 HN5 HN6
  go_wp2
  have HO7 := hid HN7.out.drew
  have K7 := HO7.out.cells
  cases q
  · refine wp_region_noPanic ?_
    refine wp_region_held_drew (S := fun _ => True) (by kernel_rfl) trivial (fun _ => ?_)
    refine wpAnyH_take (i := 0) rfl (by kernel_rfl) (by kernel_rfl) (by kernel_rfl) (fun _ _ _ h => h) (y_move (by rfl) _ rfl) trivial ?_
    simp only [Act.put, List.getElem_toArray, List.getElem_cons_zero, List.getElem_cons_succ, List.setIfInBounds_toArray, List.set_cons_zero, List.set_cons_succ]
    refine wpAnyH_take (i := 1) rfl (by kernel_rfl) (by kernel_rfl) (by kernel_rfl) (fun _ _ _ h => h) (y_not (by rfl) _ _ false rfl rfl) trivial ?_
    simp only [Act.put, List.getElem_toArray, List.getElem_cons_zero, List.getElem_cons_succ, List.setIfInBounds_toArray, List.set_cons_zero, List.set_cons_succ]
    refine wpAnyH_take (i := 2) rfl (by kernel_rfl) (by kernel_rfl) (by kernel_rfl) (fun _ _ _ h => h) (y_move (by rfl) _ rfl) trivial ?_
    simp only [Act.put, List.getElem_toArray, List.getElem_cons_zero, List.getElem_cons_succ, List.setIfInBounds_toArray, List.set_cons_zero, List.set_cons_succ]
    refine wpAnyH_take (i := 3) rfl (by kernel_rfl) (by kernel_rfl) (by kernel_rfl) (fun _ _ _ h => h) (y_skip (by rfl)) trivial ?_
    simp only [Act.put, List.getElem_toArray, List.getElem_cons_zero, List.getElem_cons_succ, List.setIfInBounds_toArray, List.set_cons_zero, List.set_cons_succ]
    refine wpAnyH_take (i := 4) rfl (by kernel_rfl) (by kernel_rfl) (by kernel_rfl) (fun _ _ _ h => h) (y_skip (by rfl)) trivial ?_
    simp only [Act.put, List.getElem_toArray, List.getElem_cons_zero, List.getElem_cons_succ, List.setIfInBounds_toArray, List.set_cons_zero, List.set_cons_succ]
    refine wpAnyH_take (i := 5) rfl (by kernel_rfl) (by kernel_rfl) (by kernel_rfl) (fun _ _ _ h => h) (y_skip (by rfl)) trivial ?_
    simp only [Act.put, List.getElem_toArray, List.getElem_cons_zero, List.getElem_cons_succ, List.setIfInBounds_toArray, List.set_cons_zero, List.set_cons_succ]
    refine wpAnyH_take (i := 6) rfl (by kernel_rfl) (by kernel_rfl) (by kernel_rfl) (fun _ _ _ h => h) (y_skip (by rfl)) trivial ?_
    simp only [Act.put, List.getElem_toArray, List.getElem_cons_zero, List.getElem_cons_succ, List.setIfInBounds_toArray, List.set_cons_zero, List.set_cons_succ]
    refine wpAnyH_take (i := 7) rfl (by kernel_rfl) (by kernel_rfl) (by kernel_rfl) (fun _ _ _ h => h) (y_skip (by rfl)) trivial ?_
    simp only [Act.put, List.getElem_toArray, List.getElem_cons_zero, List.getElem_cons_succ, List.setIfInBounds_toArray, List.set_cons_zero, List.set_cons_succ]
    refine wpAnyH_take (i := 8) rfl (by kernel_rfl) (by kernel_rfl) (by kernel_rfl) (fun _ _ _ h => h) (y_skip (by rfl)) trivial ?_
    simp only [Act.put, List.getElem_toArray, List.getElem_cons_zero, List.getElem_cons_succ, List.setIfInBounds_toArray, List.set_cons_zero, List.set_cons_succ]
    refine wpAnyH_take (i := 9) rfl (by kernel_rfl) (by kernel_rfl) (by kernel_rfl) (fun _ _ _ h => h) (y_skip (by rfl)) trivial ?_
    simp only [Act.put, List.getElem_toArray, List.getElem_cons_zero, List.getElem_cons_succ, List.setIfInBounds_toArray, List.set_cons_zero, List.set_cons_succ]
    refine wpAnyH_take (i := 10) rfl (by kernel_rfl) (by kernel_rfl) (by kernel_rfl) (fun _ _ _ h => h) (y_skip (by rfl)) trivial ?_
    simp only [Act.put, List.getElem_toArray, List.getElem_cons_zero, List.getElem_cons_succ, List.setIfInBounds_toArray, List.set_cons_zero, List.set_cons_succ]
    refine wpAnyH_take (i := 11) rfl (by kernel_rfl) (by kernel_rfl) (by kernel_rfl) (fun _ _ _ h => h) (y_skip (by rfl)) trivial ?_
    simp only [Act.put, List.getElem_toArray, List.getElem_cons_zero, List.getElem_cons_succ, List.setIfInBounds_toArray, List.set_cons_zero, List.set_cons_succ]
    refine wpAnyH_take (i := 12) rfl (by kernel_rfl) (by kernel_rfl) (by kernel_rfl) (fun _ _ _ h => h) (y_skip (by rfl)) trivial ?_
    simp only [Act.put, List.getElem_toArray, List.getElem_cons_zero, List.getElem_cons_succ, List.setIfInBounds_toArray, List.set_cons_zero, List.set_cons_succ]
    refine wpAnyH_take (i := 13) rfl (by kernel_rfl) (by kernel_rfl) (by kernel_rfl) (fun _ _ _ h => h) (y_skip (by rfl)) trivial ?_
    simp only [Act.put, List.getElem_toArray, List.getElem_cons_zero, List.getElem_cons_succ, List.setIfInBounds_toArray, List.set_cons_zero, List.set_cons_succ]
    refine wpAnyH_take (i := 14) rfl (by kernel_rfl) (by kernel_rfl) (by kernel_rfl) (fun _ _ _ h => h) (y_skip (by rfl)) trivial ?_
    simp only [Act.put, List.getElem_toArray, List.getElem_cons_zero, List.getElem_cons_succ, List.setIfInBounds_toArray, List.set_cons_zero, List.set_cons_succ]
    refine wpAnyH_take (i := 15) rfl (by kernel_rfl) (by kernel_rfl) (by kernel_rfl) (fun _ _ _ h => h) (y_skip (by rfl)) trivial ?_
    simp only [Act.put, List.getElem_toArray, List.getElem_cons_zero, List.getElem_cons_succ, List.setIfInBounds_toArray, List.set_cons_zero, List.set_cons_succ]
    refine wpAnyH_take (i := 16) rfl (by kernel_rfl) (by kernel_rfl) (by kernel_rfl) (fun _ _ _ h => h) (y_skip (by rfl)) trivial ?_
    simp only [Act.put, List.getElem_toArray, List.getElem_cons_zero, List.getElem_cons_succ, List.setIfInBounds_toArray, List.set_cons_zero, List.set_cons_succ]
    refine wpAnyH_take (i := 17) rfl (by kernel_rfl) (by kernel_rfl) (by kernel_rfl) (fun _ _ _ h => h) (y_pick (by rfl) _ _ _ true (.bool true) rfl rfl rfl) trivial ?_
    simp only [Act.put, List.getElem_toArray, List.getElem_cons_zero, List.getElem_cons_succ, List.setIfInBounds_toArray, List.set_cons_zero, List.set_cons_succ]
    refine wpAnyH_take (i := 18) rfl (by kernel_rfl) (by kernel_rfl) (by kernel_rfl) (fun _ _ _ h => h) (y_move (by rfl) _ rfl) trivial ?_
    simp only [Act.put, List.getElem_toArray, List.getElem_cons_zero, List.getElem_cons_succ, List.setIfInBounds_toArray, List.set_cons_zero, List.set_cons_succ]
    refine wpAnyH_ready (rs := [19]) (by kernel_rfl) (by simp) (AllReadyH.cons rfl (fun K hK => ?_) AllReadyH.nil)
    go_simp
    go_at_call 19
    (with_reducible refine (HW.out _).mono ?_); rintro e w8 ⟨rfl, hlow⟩; have HO8 := hid (HO7.out.on hlow); clear hlow
    refine hK.out _ _ trivial (fun _ => ?_)
    try simp only [Act.put, List.getElem_toArray, List.getElem_cons_zero, List.getElem_cons_succ, List.setIfInBounds_toArray, List.set_cons_zero, List.set_cons_succ]
    refine wpAnyH_take (i := 20) rfl (by kernel_rfl) (by kernel_rfl) (by kernel_rfl) (fun _ _ _ h => h) (y_pick (by rfl) _ _ _ true (.bool true) rfl rfl rfl) trivial ?_
    simp only [Act.put, List.getElem_toArray, List.getElem_cons_zero, List.getElem_cons_succ, List.setIfInBounds_toArray, List.set_cons_zero, List.set_cons_succ]
    refine wpAnyH_take (i := 21) rfl (by kernel_rfl) (by kernel_rfl) (by kernel_rfl) (fun _ _ _ h => h) (y_assign (by rfl) _ rfl) trivial ?_
    simp only [Act.put, List.getElem_toArray, List.getElem_cons_zero, List.getElem_cons_succ, List.setIfInBounds_toArray, List.set_cons_zero, List.set_cons_succ]
    refine wpAnyH_done (by kernel_rfl) ?_ _
    refine NoPanic.normal ?_
    go_wp2
    go_ret
    exact ⟨rfl, HO8.out.low⟩
  · have hr8 : ra = 8 := of_decide_eq_true HQ.out
    have HJX := hid (HIX.out hr8)
    have HJM := hid (HMI.out hr8)
    clear hr8
    go_region_held3 (fun w' => Cells w' w.heap.size a ∧ Cells w' (w.heap.size + 1) b ∧ Cells w' w10.heap.size iv) (first
      | with_reducible assumption) (first
      | (go_at_call 10; (with_reducible refine (HU.out _).mono ?_); rintro e w8 ⟨rfl, hlow⟩; have HO8 := hid (HO7.out.on hlow); have K8 := HO8.out.cells; clear hlow)
      | (go_at_call 10; (with_reducible refine (HJX.out _).mono ?_); rintro e w9 ⟨rfl, hlow⟩; have HO9 := hid (HO8.out.on hlow); have K9 := HO9.out.cells; clear hlow)
      | (go_at_call 12; (with_reducible refine (HJM.out _).mono ?_); rintro e w10 ⟨rfl, hlow⟩; have HO10 := hid (HO9.out.on hlow); have K10 := HO10.out.cells; clear hlow)
      | (go_at_call 16; (with_reducible refine (HON.out _).mono ?_); rintro e w11 ⟨rfl, hlow⟩; have HO11 := hid (HO10.out.on hlow); have K11 := HO11.out.cells; clear hlow)
      | (go_at_call 19; (with_reducible refine (HW.out _).mono ?_); rintro e w12 ⟨rfl, hlow⟩; have HO12 := hid (HO11.out.on hlow); have K12 := HO12.out.cells; clear hlow))
    go_wp2
    go_ret
    exact ⟨rfl, HO12.out.low⟩
end Go.Proofs.Ytkdbjejblbopeaa
