import Derived.Test.YtkdbjejblbopeaaMb3
import Derived.Test.YtkdbjejblbopeaaReg
namespace Go.Proofs.Ytkdbjejblbopeaa
open Go.RowKit

/-- Matrices in blocks of their own. -/
structure Ms (l : List (Nat × (Nat → Nat))) (w wr : World) : Prop where
  low : Below w.heap.size w wr
  all : ∀ p, p ∈ l → M wr p.1 p.2
theorem Ms.on {l : List (Nat × (Nat → Nat))} {w wr w1 : World} (h : Ms l w wr) (hb : Below wr.heap.size wr w1) : Ms l w w1 := ⟨h.low.trans (hb.mono h.low.size), fun p hp => (h.all p hp).self hb⟩
theorem Ms.drew {l : List (Nat × (Nat → Nat))} {w wr : World} (h : Ms l w wr) : Ms l w wr.drew := ⟨h.low.drew, fun p hp => h.all p hp⟩
theorem Ms.store {l : List (Nat × (Nat → Nat))} {w wr : World} (h : Ms l w wr) (g : Nat → Nat) : Ms ((wr.heap.size, g) :: l) w ((wr.alloc (.cells (ba 8 (fun _ => 0)) 23)).setRow wr.heap.size (ba 8 g)) := by
  have hs := h.low.size
  refine ⟨below_setRow (h.low.alloc hs _) hs _, fun p hp => ?_⟩
  rcases List.mem_cons.1 hp with rfl | hp
  · exact (At.new wr 8 23 _).row g
  · have h1 := h.all p hp
    have := h1.lt
    exact (h1.alloc _).rowApart (by omega) _
theorem Ms.start2 (a b : Nat → Nat) (w : World) : Ms [(w.heap.size, a), (w.heap.size + 1, b)] w ((w.alloc (.cells (ba 8 a) 23)).alloc (.cells (ba 8 b) 23)) := by
  refine ⟨((Below.refl _ _).alloc (Nat.le_refl _) _).alloc (by simp) _, fun p hp => ?_⟩
  rcases List.mem_cons.1 hp with rfl | hp
  · exact (At.new w 8 23 a).alloc _
  · obtain rfl := List.mem_singleton.1 hp
    have := At.new (w.alloc (.cells (ba 8 a) 23)) 8 23 b
    rw [World.size_alloc] at this
    exact this

set_option maxRecDepth 20000 in
set_option maxHeartbeats 4000000 in
theorem tells_core (a b : Nat → Nat) (x : Nat) (w : World) (ha : By a) (hb : By b) (hx : x < 256) :
    Calls Try.prog 3 #[.agg (ba 8 a), .agg (ba 8 b), .int .u8 (x : Int)] w fun e w' => e = .returned (.bool true) ∧ Below w.heap.size w w' := by
  have HS := hid (Ms.start2 a b w)
  have hguard := guard23
  have HI : Hid (∀ w, Calls Try.prog 6 #[.agg (ba 8 a)] w fun e w' => e = .returned (.tuple #[.agg (ba 8 (inv a)), .bool (decide (rk a = 8))]) ∧ Below w.heap.size w w') := hid (fun w => inv_any a w ha)
  have HJ : Hid (∀ w, Calls Try.prog 7 #[.agg (ba 8 a)] w fun e w' => e = .returned (.tuple #[.agg (ba 8 (inv a)), .bool (decide (rk a = 8))]) ∧ Below w.heap.size w w') := hid (fun w => refinv_any a w ha)
  have HF : Hid (∀ w, Calls Try.prog 8 #[.agg (ba 8 a)] w fun e w' => e = .returned (.agg (ba 8 (flip a))) ∧ Below w.heap.size w w') := hid (fun w => flip_any a w ha)
  have HB1 : Hid (∀ (i j : Nat) (w : World), i < 8 → j < 8 → Calls Try.prog 9 #[.agg (ex (flip a)), .int .i64 (i : Int), .int .i64 (j : Int)] w fun e w' => e = .returned (.bool ((a j).testBit i)) ∧ Below w.heap.size w w') := hid (fun i j w hi hj => by
    have := bit_any (flip a) i j w (flip_by a) hi hj; rw [flip_bit _ _ hj] at this; exact this)
  have HB2 : Hid (∀ (i j : Nat) (w : World), i < 8 → j < 8 → Calls Try.prog 9 #[.agg (ex a), .int .i64 (i : Int), .int .i64 (j : Int)] w fun e w' => e = .returned (.bool ((a i).testBit j)) ∧ Below w.heap.size w w') := hid (fun i j w hi hj => bit_any a i j w ha hi hj)
  have HU : Hid (∀ w, Calls Try.prog 10 #[.agg (ex a), .int .u8 (x : Int)] w fun e w' => e = .returned (.int .u8 (ap a x : Nat)) ∧ Below w.heap.size w w') := hid (fun w => apply_any a x w ha hx)
  have HV : Hid (∀ w, Calls Try.prog 11 #[.agg (ex a), .int .u8 (x : Int)] w fun e w' => e = .returned (.int .u8 (ap a x : Nat)) ∧ Below w.heap.size w w') := hid (fun w => refapply_any a x w ha hx)
  have HP : Hid (∀ w, Calls Try.prog 12 #[.agg (ex a), .agg (ex b)] w fun e w' => e = .returned (.agg (ba 8 (mu a b))) ∧ Below w.heap.size w w') := hid (fun w => mul_any a b w ha hb)
  have HQ : Hid (∀ w, Calls Try.prog 13 #[.agg (ex a), .agg (ex b)] w fun e w' => e = .returned (.agg (ba 8 (mu a b))) ∧ Below w.heap.size w w') := hid (fun w => refmul_any a b w ha hb)
  have HC : Hid (∀ w, Calls Try.prog 14 #[.agg (ex a)] w fun e w' => e = .returned (.agg (ba 8 (flip a))) ∧ Below w.heap.size w w') := hid (fun w => columns_any a w ha)
  have HD : Hid (∀ w, Calls Try.prog 15 #[.agg (ex a)] w fun e w' => e = .returned (.agg (ba 8 (flip a))) ∧ Below w.heap.size w w') := hid (fun w => refcolumns_any a w ha)
  have HON : Hid (∀ w, Calls Try.prog 16 #[] w fun e w' => e = .returned (.agg (ba 8 one)) ∧ Below w.heap.size w w') := hid (fun w => one_any w)
  have HOX : Hid (∀ w, Calls Try.prog 10 #[.agg (ba 8 one), .int .u8 (x : Int)] w fun e w' => e = .returned (.int .u8 (x : Int)) ∧ Below w.heap.size w w') := hid (fun w => by
    have := apply_any one x w one_by hx; rw [ap_one hx] at this; exact this)
  have HRA : Hid (∀ w, Calls Try.prog 17 #[.agg (ex a)] w fun e w' => e = .returned (.int .i64 (rk a : Nat)) ∧ Below w.heap.size w w') := hid (fun w => rank_any a w ha)
  have HRB : Hid (∀ w, Calls Try.prog 18 #[.agg (ex a)] w fun e w' => e = .returned (.int .i64 (rk a : Nat)) ∧ Below w.heap.size w w') := hid (fun w => refrank_any a w ha)
  have HW : Hid (∀ w, Calls Try.prog 19 #[] w fun e w' => e = .returned (.bool true) ∧ Below w.heap.size w w') := hid (fun w => awake_any w)
  have HEP : ∀ w, (Op.equalIn 10000 23 (.agg (ba 8 (mu a b))) (.agg (ba 8 (mu a b)))).run Try.prog w = .ok true w := fun w => eqB (f := mu a b) (g := mu a b) (by simp) w
  have HEF : ∀ w, (Op.equalIn 10000 23 (.agg (ba 8 (flip a))) (.agg (ba 8 (flip a)))).run Try.prog w = .ok true w := fun w => eqB (f := flip a) (g := flip a) (by simp) w
  have HEI : ∀ w, (Op.equalIn 10000 23 (.agg (ex (inv a))) (.agg (ex (inv a)))).run Try.prog w = .ok true w := fun w => eqB (f := inv a) (g := inv a) (by simp) w
  generalize ap a x = u at HU HV
  generalize mu a b = p at HP HQ HEP
  generalize flip a = fl at HF HC HD HEF HB1
  generalize inv a = iv at HI HJ HEI
  generalize decide (rk a = 8) = q at HI HJ
  generalize rk a = ra at HRA HRB
  generalize one = on at HON HOX
  clear ha hb
  go_enter Try.func3, Try.ntmps3
  go_wp2_with (first
    | (refine step_load_ba rfl 23 _ rfl w.heap.size 8 23 5 a rfl (HS.out.all (w.heap.size, a) (by simp)) Try.underlying23 info23 ?_)
    | (go_at_call 6; (with_reducible refine (HI.out _).mono ?_); rintro e w1 ⟨rfl, hlow⟩; have HM1 := hid ((HS.out.on hlow).store iv); clear hlow)
    | (refine step_store_ba rfl 23 _ _ rfl w1.heap.size 8 23 (fun _ => 0) iv rfl rfl (At.new w1 8 23 (fun _ => 0)) info23 ?_)
    | (refine step_load_ba rfl 23 _ rfl w.heap.size 8 23 5 a rfl (HM1.out.all (w.heap.size, a) (by simp)) Try.underlying23 info23 ?_)
    | (go_at_call 7; (with_reducible refine (HJ.out _).mono ?_); rintro e w2 ⟨rfl, hlow⟩; have HM2 := hid ((HM1.out.on hlow).store iv); clear hlow)
    | (refine step_store_ba rfl 23 _ _ rfl w2.heap.size 8 23 (fun _ => 0) iv rfl rfl (At.new w2 8 23 (fun _ => 0)) info23 ?_)
    | (refine step_load_ba rfl 23 _ rfl w.heap.size 8 23 5 a rfl (HM2.out.all (w.heap.size, a) (by simp)) Try.underlying23 info23 ?_)
    | (go_at_call 8; (with_reducible refine (HF.out _).mono ?_); rintro e w3 ⟨rfl, hlow⟩; have HM3 := hid ((HM2.out.on hlow).store fl); clear hlow)
    | (refine step_store_ba rfl 23 _ _ rfl w3.heap.size 8 23 (fun _ => 0) fl rfl rfl (At.new w3 8 23 (fun _ => 0)) info23 ?_))
  go_loopw [12] (fun kv wr => ∃ k : Nat, k ≤ 64 ∧ kv = .int .i64 k ∧ Ms [(w3.heap.size, fl), (w2.heap.size, iv), (w1.heap.size, iv), (w.heap.size, a), (w.heap.size + 1, b)] w wr) (fun kv _ => 64 - (intOf kv).toNat)
  case atStart => exact ⟨0, by omega, rfl, HM3.out⟩
  case round =>
    obtain ⟨k, hk, rfl, hM⟩ := hrel
    have HM := hid hM
    clear hM
    have HM0 := hid HM.out.drew
    have HCL : Hid (∀ w', Ms [(w3.heap.size, fl), (w2.heap.size, iv), (w1.heap.size, iv), (w.heap.size, a), (w.heap.size + 1, b)] w w' → Cells w' w.heap.size a ∧ Cells w' (w.heap.size + 1) b ∧ Cells w' w1.heap.size iv ∧ Cells w' w2.heap.size iv ∧ Cells w' w3.heap.size fl) := hid (fun w' h =>
      ⟨(h.all (w.heap.size, a) (by simp)).cells, (h.all (w.heap.size + 1, b) (by simp)).cells, (h.all (w1.heap.size, iv) (by simp)).cells, (h.all (w2.heap.size, iv) (by simp)).cells, (h.all (w3.heap.size, fl) (by simp)).cells⟩)
    have K0 := HCL.out _ HM0.out
    by_cases hlt : k < 64
    · obtain ⟨k1, hk1⟩ : ∃ k1, k / 8 = k1 := ⟨_, rfl⟩
      obtain ⟨k2, hk2⟩ : ∃ k2, k % 8 = k2 := ⟨_, rfl⟩
      have e1 : (k : Int) / 8 = (k1 : Int) := by omega
      have e2 : (k : Int) % 8 = (k2 : Int) := by omega
      have e3 : (k : Int).tdiv 8 = (k1 : Int) := by rw [Int.tdiv_eq_ediv_of_nonneg (by omega)]; exact e1
      have e4 : (k : Int).tmod 8 = (k2 : Int) := by rw [Int.tmod_eq_emod_of_nonneg (by omega)]; exact e2
      have h1 : k1 < 8 := by omega
      have h2 : k2 < 8 := by omega
      have e5 : IntKind.i64.wrap (k1 : Int) = (k1 : Int) := by rw [IntKind.wrap_i64]; omega
      have e6 : IntKind.i64.wrap (k2 : Int) = (k2 : Int) := by rw [IntKind.wrap_i64]; omega
      have HA1 := hid (fun w => HB1.out k1 k2 w h1 h2)
      have HA2 := hid (fun w => HB2.out k2 k1 w h2 h1)
      generalize (a k2).testBit k1 = bt at HA1 HA2
      clear hk1 hk2
      go_wp2
      go_region_held3 (fun w' => Cells w' w.heap.size a ∧ Cells w' (w.heap.size + 1) b ∧ Cells w' w1.heap.size iv ∧ Cells w' w2.heap.size iv ∧ Cells w' w3.heap.size fl) (first
        | with_reducible assumption) (first
        | (go_at_call 9; (with_reducible refine (HA1.out _).mono ?_); rintro e w4 ⟨rfl, hlow⟩; have HN1 := hid (HM0.out.on hlow); have K1 := HCL.out _ HN1.out; clear hlow)
        | (go_at_call 9; (with_reducible refine (HA2.out _).mono ?_); rintro e w5 ⟨rfl, hlow⟩; have HN2 := hid (HN1.out.on hlow); have K2 := HCL.out _ HN2.out; clear hlow))
      clear K0 K1 K2 e1 e2 e3 e4 e5 e6
      go_wp2
      go_roundw
      case rel => exact ⟨k + 1, by omega, by go_num, HN2.out⟩
      case measure => simp [intOf]; omega
    · have HO0 := HM0
      go_wp2
      go_region_held3 (fun w' => Cells w' w.heap.size a ∧ Cells w' (w.heap.size + 1) b ∧ Cells w' w1.heap.size iv ∧ Cells w' w2.heap.size iv ∧ Cells w' w3.heap.size fl) (first
        | with_reducible assumption) (first
      | (go_at_call 10; (with_reducible refine (HU.out _).mono ?_); rintro e w1 ⟨rfl, hlow⟩; have HO1 := hid (HO0.out.on hlow); have K1 := HCL.out _ HO1.out; clear hlow)
      | (go_at_call 11; (with_reducible refine (HV.out _).mono ?_); rintro e w2 ⟨rfl, hlow⟩; have HO2 := hid (HO1.out.on hlow); have K2 := HCL.out _ HO2.out; clear hlow)
      | (go_at_call 12; (with_reducible refine (HP.out _).mono ?_); rintro e w3 ⟨rfl, hlow⟩; have HO3 := hid (HO2.out.on hlow); have K3 := HCL.out _ HO3.out; clear hlow)
      | (go_at_call 13; (with_reducible refine (HQ.out _).mono ?_); rintro e w4 ⟨rfl, hlow⟩; have HO4 := hid (HO3.out.on hlow); have K4 := HCL.out _ HO4.out; clear hlow)
      | (go_at_call 14; (with_reducible refine (HC.out _).mono ?_); rintro e w5 ⟨rfl, hlow⟩; have HO5 := hid (HO4.out.on hlow); have K5 := HCL.out _ HO5.out; clear hlow)
      | (go_at_call 15; (with_reducible refine (HD.out _).mono ?_); rintro e w6 ⟨rfl, hlow⟩; have HO6 := hid (HO5.out.on hlow); have K6 := HCL.out _ HO6.out; clear hlow)
      | (go_at_call 16; (with_reducible refine (HON.out _).mono ?_); rintro e w7 ⟨rfl, hlow⟩; have HO7 := hid (HO6.out.on hlow); have K7 := HCL.out _ HO7.out; clear hlow)
      | (go_at_call 10; (with_reducible refine (HOX.out _).mono ?_); rintro e w8 ⟨rfl, hlow⟩; have HO8 := hid (HO7.out.on hlow); have K8 := HCL.out _ HO8.out; clear hlow)
      | (go_at_call 17; (with_reducible refine (HRA.out _).mono ?_); rintro e w9 ⟨rfl, hlow⟩; have HO9 := hid (HO8.out.on hlow); have K9 := HCL.out _ HO9.out; clear hlow)
      | (go_at_call 18; (with_reducible refine (HRB.out _).mono ?_); rintro e w10 ⟨rfl, hlow⟩; have HO10 := hid (HO9.out.on hlow); have K10 := HCL.out _ HO10.out; clear hlow)
      | (go_at_call 19; (with_reducible refine (HW.out _).mono ?_); rintro e w11 ⟨rfl, hlow⟩; have HO11 := hid (HO10.out.on hlow); have K11 := HCL.out _ HO11.out; clear hlow))
      go_wp2
      go_ret
      exact ⟨rfl, HO11.out.low⟩
end Go.Proofs.Ytkdbjejblbopeaa
