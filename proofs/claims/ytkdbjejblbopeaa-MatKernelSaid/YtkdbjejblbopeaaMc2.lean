import Derived.Test.YtkdbjejblbopeaaMb3
import Derived.Test.YtkdbjejblbopeaaReg
namespace Go.Proofs.Ytkdbjejblbopeaa
open Go.RowKit

/-- The n-th of what is turned into 0. -/
def kth (f : Nat → Nat) (n : Nat) : Nat := (ker f 256).getD n 0
theorem kth_mem {f : Nat → Nat} {n : Nat} (h : n < (ker f 256).length) : kth f n < 256 ∧ ap f (kth f n) = 0 := by
  unfold kth; rw [getD_in h]; exact mem_ker.1 (List.getElem_mem h)
theorem kth_nth {f : Nat → Nat} {n : Nat} (h : n < (ker f 256).length) : nth (kz f 256) n = (kth f n : Int) := by
  unfold nth kz kth
  rw [getD_in h]
  simp [List.getD, h]
theorem kth_lt {f : Nat → Nat} {n : Nat} (h : n + 1 < (ker f 256).length) : kth f n < kth f (n + 1) := by
  unfold kth; rw [getD_in h, getD_in (show n < (ker f 256).length by omega)]
  exact List.pairwise_iff_getElem.1 (ker_sorted f 256) n (n + 1) (by omega) h (by omega)
/-- One matrix that came in, and a slice. -/
structure MK (f : Nat → Nat) (v : Value) (zs : List Int) (w wr : World) : Prop where
  low : Below w.heap.size w wr
  src : M wr w.heap.size f
  row : Rd .u8 wr v zs
theorem MK.on {f : Nat → Nat} {v : Value} {zs : List Int} {w wr w1 : World} (h : MK f v zs w wr) (hb : Below wr.heap.size wr w1) : MK f v zs w w1 := ⟨h.low.trans (hb.mono h.low.size), h.src.self hb, h.row.self hb⟩
theorem MK.drew {f : Nat → Nat} {v : Value} {zs : List Int} {w wr : World} (h : MK f v zs w wr) : MK f v zs w wr.drew := ⟨h.low.drew, h.src, h.row⟩

theorem MK.cell {f : Nat → Nat} {b off l c : Nat} {zs : List Int} {w wr : World} (h : MK f (.slice (some ⟨b, off, none⟩) l c) zs w wr) {j : Nat} (hj : j < zs.length) : wr.cell? ⟨b, off + j, none⟩ = some (.int .u8 (nth zs j)) := by
  obtain ⟨a, cap, h1, _, _, h4⟩ := h.row
  obtain ⟨b', off', e, _, hc⟩ := h4 (by omega)
  subst e
  injection h1 with e1 _ _
  injection e1 with e1
  injection e1 with e1 e2 _
  subst e1 e2
  exact hc j hj

set_option maxRecDepth 20000 in
set_option maxHeartbeats 4000000 in
theorem kernel_core (f : Nat → Nat) (x n : Nat) (w : World) (hf : By f) (hx : x < 256) (hn : n < 256) :
    Calls Try.prog 5 #[.agg (ba 8 f), .int .u8 (x : Int), .int .u8 (n : Int)] w fun e w' => e = .returned (.bool true) ∧ Below w.heap.size w w' := by
  have HB0 := hid ((Below.refl w.heap.size w).alloc (Nat.le_refl _) (.cells (ba 8 f) 23))
  have HM0 := hid (At.new w 8 23 f)
  have hguard := guard23
  have HK := hid (fun w => kernel_any f w hf)
  have HRR := hid (fun w => refrank_any f w hf)
  have HPN := hid (fun w => pow_neg_any f (-1) w (by decide))
  have HW := hid (fun w => awake_any w)
  have HLEN := hid (show (kz f 256).length = 2 ^ (8 - rk f) by unfold kz; rw [List.length_map, ker_len hf])
  have hr8 := rk_le hf
  have HEQ : ∀ w, (Op.equalIn 10000 23 (.agg (ba 8 (fun _ => 0))) (.agg #[.int .u8 0, .int .u8 0, .int .u8 0, .int .u8 0, .int .u8 0, .int .u8 0, .int .u8 0, .int .u8 0])).run Try.prog w = .ok true w := fun w => eqB (f := fun _ => 0) (g := fun _ => 0) (by simp) w
  have HKT : Hid (∀ i, i < (kz f 256).length → nth (kz f 256) i = (kth f i : Int) ∧ kth f i < 256 ∧ ap f (kth f i) = 0) := hid (fun i hi => by
    have hi' : i < (ker f 256).length := by unfold kz at hi; rwa [List.length_map] at hi
    exact ⟨kth_nth hi', (kth_mem hi').1, (kth_mem hi').2⟩)
  have HKS : Hid (∀ i, i + 1 < (kz f 256).length → kth f i < kth f (i + 1)) := hid (fun i hi => by
    have hi' : i + 1 < (ker f 256).length := by unfold kz at hi; rwa [List.length_map] at hi
    exact kth_lt hi')
  have HRA : Hid (∀ (y : Nat) (w : World), y < 256 → Calls Try.prog 11 #[.agg (ba 8 f), .int .u8 (y : Int)] w fun e w' => e = .returned (.int .u8 (ap f y : Nat)) ∧ Below w.heap.size w w') := hid (fun y w hy => refapply_any f y w hf hy)
  have HFB := hid hf
  generalize kth f = kt at HKT HKS
  generalize kz f 256 = K at HK HLEN HKT HKS
  generalize rk f = r at HRR HLEN hr8
  obtain ⟨d, hd⟩ : ∃ d, 8 - r = d := ⟨_, rfl⟩
  have hd8 : d ≤ 8 := by omega
  have hsub : (8 : Int) - (r : Int) = (d : Int) := by omega
  rw [hd] at HLEN
  clear hf hd
  go_enter Try.func5, Try.ntmps5
  go_wp2_with (first
    | (refine step_load_ba rfl 23 _ rfl w.heap.size 8 23 5 f rfl HM0.out Try.underlying23 info23 ?_)
    | (go_at_call 20; (with_reducible refine (HK.out _).mono ?_); rintro e w1 ⟨v, rfl, hrd, hlow⟩; have HM1 := hid (show MK f v K w w1 from ⟨HB0.out.trans (hlow.mono (by simp)), HM0.out.self hlow, hrd⟩); obtain ⟨va, vc, rfl, _⟩ := hrd; clear hlow)
    | (refine step_load_ba rfl 23 _ rfl w.heap.size 8 23 5 f rfl HM1.out.src Try.underlying23 info23 ?_)
    | (go_at_call 18; (with_reducible refine (HRR.out _).mono ?_); rintro e w2 ⟨rfl, hlow⟩; have HM2 := hid (HM1.out.on hlow); clear hlow)
    | (refine step_shl_one rfl _ _ _ _ rfl d K.length rfl rfl hd8 HLEN.out ?_)
    | (refine step_load_ba_want rfl 23 _ rfl w.heap.size 8 23 5 f rfl HM2.out.src Try.underlying23 info23 ?_)
    | (go_at_call 21; (with_reducible refine (HPN.out _).mono ?_); rintro e w3 ⟨rfl, hlow⟩; have HM3 := hid (HM2.out.on hlow); clear hlow))
  have hLp : 0 < K.length := by rw [HLEN.out]; exact Nat.two_pow_pos d
  have hL9 : K.length ≤ 256 := by rw [HLEN.out]; exact pow_le_256 hd8
  obtain ⟨b, off, rfl⟩ : ∃ b off, va = some ⟨b, off, none⟩ := by
    obtain ⟨a, cap, h1, _, _, h4⟩ := HM3.out.row
    obtain ⟨b', off', e, _, _⟩ := h4 hLp
    injection h1 with e1 _ _
    exact ⟨b', off', by rw [e1, e]⟩
  have HU := hid (fun z (hz : ap f z = 0) => show ap f (z ^^^ x) = ap f x by rw [ap_xor, hz, Nat.zero_xor])
  obtain ⟨u, hu⟩ : ∃ u, ap f x = u := ⟨_, rfl⟩
  rw [hu] at HU
  have HX : Hid (∀ w, Calls Try.prog 11 #[.agg (ex f), .int .u8 (x : Int)] w fun e w' => e = .returned (.int .u8 (u : Int)) ∧ Below w.heap.size w w') := hid (fun w => by
    have := HRA.out x w hx; rw [hu] at this; exact this)
  have HUU := hid hu
  clear hu hsub hd8 hr8 HLEN HM1 HM2
  go_loopw [8] (fun iv wr => ∃ i : Nat, i ≤ K.length ∧ iv = .int .i64 i ∧ MK f (.slice (some ⟨b, off, none⟩) K.length vc) K w wr) (fun iv _ => K.length - (intOf iv).toNat)
  case atStart => exact ⟨0, by omega, rfl, HM3.out⟩
  case round =>
    obtain ⟨i, hi, rfl, hM⟩ := hrel
    have HM := hid hM
    clear hM
    by_cases hlt : i < K.length
    · obtain ⟨k1, k2, k3⟩ := HKT.out i hlt
      have c1 := HM.out.cell hlt
      rw [k1] at c1
      have hxz := xor8 k2 hx
      have hzl := xor_lt k2 hx
      have HUZ := hid (HU.out _ k3)
      have HA1 : Hid (∀ w, Calls Try.prog 11 #[.agg (ex f), .int .u8 (kt i : Int)] w fun e w' => e = .returned (.int .u8 0) ∧ Below w.heap.size w w') := hid (fun w => by
        have := HRA.out (kt i) w k2; rw [k3] at this; exact this)
      have HA2 : Hid (∀ w, Calls Try.prog 11 #[.agg (ex f), .int .u8 ((kt i ^^^ x : Nat) : Int)] w fun e w' => e = .returned (.int .u8 (u : Int)) ∧ Below w.heap.size w w') := hid (fun w => by
        have := HRA.out (kt i ^^^ x) w hzl; rw [HUZ.out] at this; exact this)
      by_cases h0 : i = 0
      · subst h0
        have HC0 : Hid (∀ w' : World, MK f (.slice (some ⟨b, off, none⟩) K.length vc) K w w' → w'.cell? ⟨b, off, none⟩ = some (.int .u8 (kt 0 : Int))) := hid (fun w' h => by
          have d1 := h.cell hLp
          rw [k1] at d1
          exact d1)
        have HB1 : Hid (∀ w, Calls Try.prog 11 #[.agg (ba 8 f), .int .u8 (kt 0 : Int)] w fun e w' => e = .returned (.int .u8 0) ∧ Below w.heap.size w w') := HA1
        have HB2 : Hid (∀ w, Calls Try.prog 11 #[.agg (ba 8 f), .int .u8 ((kt 0 ^^^ x : Nat) : Int)] w fun e w' => e = .returned (.int .u8 (u : Int)) ∧ Below w.heap.size w w') := HA2
        have HBX : Hid (∀ w, Calls Try.prog 11 #[.agg (ba 8 f), .int .u8 (x : Int)] w fun e w' => e = .returned (.int .u8 (u : Int)) ∧ Below w.heap.size w w') := HX
        have hL0 : (0 : Int) < (K.length : Int) := by omega
        clear k1 k3 c1 HA1 HA2
        generalize kt 0 = p1 at *
        have HM0 := hid HM.out.drew
        go_wp2
        refine wp_region_noPanic ?_
        refine wp_region_held_drew (S := fun w' => M w' w.heap.size f ∧ w'.cell? ⟨b, off, none⟩ = some (.int .u8 (p1 : Int))) (by kernel_rfl) ⟨HM0.out.src, HC0.out _ HM0.out⟩ (fun h0 => ?_)
        refine wpAnyH_take (i := 0) rfl (by kernel_rfl) (by kernel_rfl) (by kernel_rfl) (fun _ _ _ h => h) (yields_load_ba (by rfl) 23 _ rfl w.heap.size 8 23 5 f rfl (fun w h => h.1) Try.underlying23 info23) h0 ?_
        simp only [Act.put, List.getElem_toArray, List.getElem_cons_zero, List.setIfInBounds_toArray, List.set_cons_zero, List.set_cons_succ]
        refine wpAnyH_take (i := 1) rfl (by kernel_rfl) (by kernel_rfl) (by kernel_rfl) (fun _ _ _ h => h) (y_move (by rfl) _ rfl) h0 ?_
        simp only [Act.put, List.getElem_toArray, List.getElem_cons_zero, List.getElem_cons_succ, List.setIfInBounds_toArray, List.set_cons_zero, List.set_cons_succ]
        refine wpAnyH_take (i := 2) rfl (by kernel_rfl) (by kernel_rfl) (by kernel_rfl) (fun _ _ _ h => h) (y_move (by rfl) _ rfl) h0 ?_
        simp only [Act.put, List.getElem_toArray, List.getElem_cons_zero, List.getElem_cons_succ, List.setIfInBounds_toArray, List.set_cons_zero, List.set_cons_succ]
        refine wpAnyH_take (i := 3) (v := .pointer (some ⟨b, off, none⟩)) rfl (by kernel_rfl) (by kernel_rfl) (by kernel_rfl) (fun _ _ _ h => h) (.inl ⟨by rfl, fun w hw => by go_simp⟩) h0 ?_
        simp only [Act.put, List.getElem_toArray, List.getElem_cons_zero, List.getElem_cons_succ, List.setIfInBounds_toArray, List.set_cons_zero, List.set_cons_succ]
        refine wpAnyH_take (i := 4) (v := .int .u8 (p1 : Int)) rfl (by kernel_rfl) (by kernel_rfl) (by kernel_rfl) (fun _ _ _ h => h) (.inl ⟨by rfl, fun w hw => by obtain ⟨_, hc⟩ := hw; go_simp⟩) h0 ?_
        simp only [Act.put, List.getElem_toArray, List.getElem_cons_zero, List.getElem_cons_succ, List.setIfInBounds_toArray, List.set_cons_zero, List.set_cons_succ]
        refine wpAnyH_ready (rs := [5]) (by kernel_rfl) (by simp) (AllReadyH.cons rfl (fun KK hK => ?_) AllReadyH.nil)
        go_simp
        go_at_call 11
        (with_reducible refine (HB1.out _).mono ?_); rintro e w4 ⟨rfl, hlow⟩; have HM1 := hid (HM0.out.on hlow); clear hlow
        refine hK.out _ _ ⟨HM1.out.src, HC0.out _ HM1.out⟩ (fun h1 => ?_)
        clear hK KK
        try simp only [Act.put, List.getElem_toArray, List.getElem_cons_zero, List.getElem_cons_succ, List.setIfInBounds_toArray, List.set_cons_zero, List.set_cons_succ]
        refine wpAnyH_take (i := 6) (v := .bool false) rfl (by kernel_rfl) (by kernel_rfl) (by kernel_rfl) (fun _ _ _ h => h) (.inl ⟨by rfl, fun w hw => by go_simp⟩) h1 ?_
        simp only [Act.put, List.getElem_toArray, List.getElem_cons_zero, List.getElem_cons_succ, List.setIfInBounds_toArray, List.set_cons_zero, List.set_cons_succ]
        refine wpAnyH_take (i := 7) rfl (by kernel_rfl) (by kernel_rfl) (by kernel_rfl) (fun _ _ _ h => h) (y_move (by rfl) _ rfl) h1 ?_
        simp only [Act.put, List.getElem_toArray, List.getElem_cons_zero, List.getElem_cons_succ, List.setIfInBounds_toArray, List.set_cons_zero, List.set_cons_succ]
        refine wpAnyH_take (i := 8) rfl (by kernel_rfl) (by kernel_rfl) (by kernel_rfl) (fun _ _ _ h => h) (y_move (by rfl) _ rfl) h1 ?_
        simp only [Act.put, List.getElem_toArray, List.getElem_cons_zero, List.getElem_cons_succ, List.setIfInBounds_toArray, List.set_cons_zero, List.set_cons_succ]
        refine wpAnyH_take (i := 9) (v := .bool false) rfl (by kernel_rfl) (by kernel_rfl) (by kernel_rfl) (fun _ _ _ h => h) (.inl ⟨by rfl, fun w hw => by go_simp⟩) h1 ?_
        simp only [Act.put, List.getElem_toArray, List.getElem_cons_zero, List.getElem_cons_succ, List.setIfInBounds_toArray, List.set_cons_zero, List.set_cons_succ]
        refine wpAnyH_take (i := 10) rfl (by kernel_rfl) (by kernel_rfl) (by kernel_rfl) (fun _ _ _ h => h) (y_move (by rfl) _ rfl) h1 ?_
        simp only [Act.put, List.getElem_toArray, List.getElem_cons_zero, List.getElem_cons_succ, List.setIfInBounds_toArray, List.set_cons_zero, List.set_cons_succ]
        refine wpAnyH_take (i := 11) rfl (by kernel_rfl) (by kernel_rfl) (by kernel_rfl) (fun _ _ _ h => h) (y_skip (by rfl)) h1 ?_
        simp only [Act.put, List.getElem_toArray, List.getElem_cons_zero, List.getElem_cons_succ, List.setIfInBounds_toArray, List.set_cons_zero, List.set_cons_succ]
        refine wpAnyH_take (i := 12) rfl (by kernel_rfl) (by kernel_rfl) (by kernel_rfl) (fun _ _ _ h => h) (y_skip (by rfl)) h1 ?_
        simp only [Act.put, List.getElem_toArray, List.getElem_cons_zero, List.getElem_cons_succ, List.setIfInBounds_toArray, List.set_cons_zero, List.set_cons_succ]
        refine wpAnyH_take (i := 13) rfl (by kernel_rfl) (by kernel_rfl) (by kernel_rfl) (fun _ _ _ h => h) (y_skip (by rfl)) h1 ?_
        simp only [Act.put, List.getElem_toArray, List.getElem_cons_zero, List.getElem_cons_succ, List.setIfInBounds_toArray, List.set_cons_zero, List.set_cons_succ]
        refine wpAnyH_take (i := 14) rfl (by kernel_rfl) (by kernel_rfl) (by kernel_rfl) (fun _ _ _ h => h) (y_skip (by rfl)) h1 ?_
        simp only [Act.put, List.getElem_toArray, List.getElem_cons_zero, List.getElem_cons_succ, List.setIfInBounds_toArray, List.set_cons_zero, List.set_cons_succ]
        refine wpAnyH_take (i := 15) rfl (by kernel_rfl) (by kernel_rfl) (by kernel_rfl) (fun _ _ _ h => h) (y_skip (by rfl)) h1 ?_
        simp only [Act.put, List.getElem_toArray, List.getElem_cons_zero, List.getElem_cons_succ, List.setIfInBounds_toArray, List.set_cons_zero, List.set_cons_succ]
        refine wpAnyH_take (i := 16) rfl (by kernel_rfl) (by kernel_rfl) (by kernel_rfl) (fun _ _ _ h => h) (y_skip (by rfl)) h1 ?_
        simp only [Act.put, List.getElem_toArray, List.getElem_cons_zero, List.getElem_cons_succ, List.setIfInBounds_toArray, List.set_cons_zero, List.set_cons_succ]
        refine wpAnyH_take (i := 17) rfl (by kernel_rfl) (by kernel_rfl) (by kernel_rfl) (fun _ _ _ h => h) (y_skip (by rfl)) h1 ?_
        simp only [Act.put, List.getElem_toArray, List.getElem_cons_zero, List.getElem_cons_succ, List.setIfInBounds_toArray, List.set_cons_zero, List.set_cons_succ]
        refine wpAnyH_take (i := 18) rfl (by kernel_rfl) (by kernel_rfl) (by kernel_rfl) (fun _ _ _ h => h) (y_skip (by rfl)) h1 ?_
        simp only [Act.put, List.getElem_toArray, List.getElem_cons_zero, List.getElem_cons_succ, List.setIfInBounds_toArray, List.set_cons_zero, List.set_cons_succ]
        refine wpAnyH_take (i := 19) rfl (by kernel_rfl) (by kernel_rfl) (by kernel_rfl) (fun _ _ _ h => h) (y_skip (by rfl)) h1 ?_
        simp only [Act.put, List.getElem_toArray, List.getElem_cons_zero, List.getElem_cons_succ, List.setIfInBounds_toArray, List.set_cons_zero, List.set_cons_succ]
        refine wpAnyH_take (i := 20) rfl (by kernel_rfl) (by kernel_rfl) (by kernel_rfl) (fun _ _ _ h => h) (y_skip (by rfl)) h1 ?_
        simp only [Act.put, List.getElem_toArray, List.getElem_cons_zero, List.getElem_cons_succ, List.setIfInBounds_toArray, List.set_cons_zero, List.set_cons_succ]
        refine wpAnyH_take (i := 21) rfl (by kernel_rfl) (by kernel_rfl) (by kernel_rfl) (fun _ _ _ h => h) (y_pick (by rfl) _ _ _ false (.bool false) rfl rfl rfl) h1 ?_
        simp only [Act.put, List.getElem_toArray, List.getElem_cons_zero, List.getElem_cons_succ, List.setIfInBounds_toArray, List.set_cons_zero, List.set_cons_succ]
        refine wpAnyH_take (i := 22) rfl (by kernel_rfl) (by kernel_rfl) (by kernel_rfl) (fun _ _ _ h => h) (y_pick (by rfl) _ _ _ false (.bool false) rfl rfl rfl) h1 ?_
        simp only [Act.put, List.getElem_toArray, List.getElem_cons_zero, List.getElem_cons_succ, List.setIfInBounds_toArray, List.set_cons_zero, List.set_cons_succ]
        refine wpAnyH_take (i := 23) rfl (by kernel_rfl) (by kernel_rfl) (by kernel_rfl) (fun _ _ _ h => h) (y_move (by rfl) _ rfl) h1 ?_
        simp only [Act.put, List.getElem_toArray, List.getElem_cons_zero, List.getElem_cons_succ, List.setIfInBounds_toArray, List.set_cons_zero, List.set_cons_succ]
        refine wpAnyH_take (i := 24) rfl (by kernel_rfl) (by kernel_rfl) (by kernel_rfl) (fun _ _ _ h => h) (yields_load_ba (by rfl) 23 _ rfl w.heap.size 8 23 5 f rfl (fun w h => h.1) Try.underlying23 info23) h1 ?_
        simp only [Act.put, List.getElem_toArray, List.getElem_cons_zero, List.getElem_cons_succ, List.setIfInBounds_toArray, List.set_cons_zero, List.set_cons_succ]
        refine wpAnyH_take (i := 25) rfl (by kernel_rfl) (by kernel_rfl) (by kernel_rfl) (fun _ _ _ h => h) (y_move (by rfl) _ rfl) h1 ?_
        simp only [Act.put, List.getElem_toArray, List.getElem_cons_zero, List.getElem_cons_succ, List.setIfInBounds_toArray, List.set_cons_zero, List.set_cons_succ]
        refine wpAnyH_take (i := 26) rfl (by kernel_rfl) (by kernel_rfl) (by kernel_rfl) (fun _ _ _ h => h) (y_move (by rfl) _ rfl) h1 ?_
        simp only [Act.put, List.getElem_toArray, List.getElem_cons_zero, List.getElem_cons_succ, List.setIfInBounds_toArray, List.set_cons_zero, List.set_cons_succ]
        refine wpAnyH_take (i := 27) (v := .pointer (some ⟨b, off, none⟩)) rfl (by kernel_rfl) (by kernel_rfl) (by kernel_rfl) (fun _ _ _ h => h) (.inl ⟨by rfl, fun w hw => by go_simp⟩) h1 ?_
        simp only [Act.put, List.getElem_toArray, List.getElem_cons_zero, List.getElem_cons_succ, List.setIfInBounds_toArray, List.set_cons_zero, List.set_cons_succ]
        refine wpAnyH_take (i := 28) (v := .int .u8 (p1 : Int)) rfl (by kernel_rfl) (by kernel_rfl) (by kernel_rfl) (fun _ _ _ h => h) (.inl ⟨by rfl, fun w hw => by obtain ⟨_, hc⟩ := hw; go_simp⟩) h1 ?_
        simp only [Act.put, List.getElem_toArray, List.getElem_cons_zero, List.getElem_cons_succ, List.setIfInBounds_toArray, List.set_cons_zero, List.set_cons_succ]
        refine wpAnyH_take (i := 29) rfl (by kernel_rfl) (by kernel_rfl) (by kernel_rfl) (fun _ _ _ h => h) (y_move (by rfl) _ rfl) h1 ?_
        simp only [Act.put, List.getElem_toArray, List.getElem_cons_zero, List.getElem_cons_succ, List.setIfInBounds_toArray, List.set_cons_zero, List.set_cons_succ]
        refine wpAnyH_take (i := 30) (v := .int .u8 ((p1 ^^^ x : Nat) : Int)) rfl (by kernel_rfl) (by kernel_rfl) (by kernel_rfl) (fun _ _ _ h => h) (.inl ⟨by rfl, fun w hw => by go_simp⟩) h1 ?_
        simp only [Act.put, List.getElem_toArray, List.getElem_cons_zero, List.getElem_cons_succ, List.setIfInBounds_toArray, List.set_cons_zero, List.set_cons_succ]
        refine wpAnyH_take (i := 32) rfl (by kernel_rfl) (by kernel_rfl) (by kernel_rfl) (fun _ _ _ h => h) (yields_load_ba (by rfl) 23 _ rfl w.heap.size 8 23 5 f rfl (fun w h => h.1) Try.underlying23 info23) h1 ?_
        simp only [Act.put, List.getElem_toArray, List.getElem_cons_zero, List.getElem_cons_succ, List.setIfInBounds_toArray, List.set_cons_zero, List.set_cons_succ]
        refine wpAnyH_take (i := 33) rfl (by kernel_rfl) (by kernel_rfl) (by kernel_rfl) (fun _ _ _ h => h) (y_move (by rfl) _ rfl) h1 ?_
        simp only [Act.put, List.getElem_toArray, List.getElem_cons_zero, List.getElem_cons_succ, List.setIfInBounds_toArray, List.set_cons_zero, List.set_cons_succ]
        refine wpAnyH_ready (rs := [31]) (by kernel_rfl) (by simp) (AllReadyH.cons rfl (fun KK hK => ?_) AllReadyH.nil)
        go_simp
        go_at_call 11
        (with_reducible refine (HB2.out _).mono ?_); rintro e w5 ⟨rfl, hlow⟩; have HM2 := hid (HM1.out.on hlow); clear hlow
        refine hK.out _ _ ⟨HM2.out.src, HC0.out _ HM2.out⟩ (fun h2 => ?_)
        clear hK KK
        try simp only [Act.put, List.getElem_toArray, List.getElem_cons_zero, List.getElem_cons_succ, List.setIfInBounds_toArray, List.set_cons_zero, List.set_cons_succ]
        refine wpAnyH_ready (rs := [34]) (by kernel_rfl) (by simp) (AllReadyH.cons rfl (fun KK hK => ?_) AllReadyH.nil)
        go_simp
        go_at_call 11
        (with_reducible refine (HBX.out _).mono ?_); rintro e w6 ⟨rfl, hlow⟩; have HM3 := hid (HM2.out.on hlow); clear hlow
        refine hK.out _ _ ⟨HM3.out.src, HC0.out _ HM3.out⟩ (fun h3 => ?_)
        clear hK KK
        try simp only [Act.put, List.getElem_toArray, List.getElem_cons_zero, List.getElem_cons_succ, List.setIfInBounds_toArray, List.set_cons_zero, List.set_cons_succ]
        refine wpAnyH_take (i := 35) (v := .bool false) rfl (by kernel_rfl) (by kernel_rfl) (by kernel_rfl) (fun _ _ _ h => h) (.inl ⟨by rfl, fun w hw => by go_simp⟩) h3 ?_
        simp only [Act.put, List.getElem_toArray, List.getElem_cons_zero, List.getElem_cons_succ, List.setIfInBounds_toArray, List.set_cons_zero, List.set_cons_succ]
        refine wpAnyH_take (i := 36) rfl (by kernel_rfl) (by kernel_rfl) (by kernel_rfl) (fun _ _ _ h => h) (y_pick (by rfl) _ _ _ false (.bool false) rfl rfl rfl) h3 ?_
        simp only [Act.put, List.getElem_toArray, List.getElem_cons_zero, List.getElem_cons_succ, List.setIfInBounds_toArray, List.set_cons_zero, List.set_cons_succ]
        refine wpAnyH_done (by kernel_rfl) ?_ _
        refine NoPanic.normal ?_
        clear h0 h1 h2 h3 HM0 HM1 HM2 HB1 HB2 HBX HC0
        go_wp2
        go_roundw
        case rel => exact ⟨1, by omega, rfl, HM3.out⟩
        case measure => simp [intOf]; omega
      · obtain ⟨j, rfl⟩ : ∃ j, i = j + 1 := ⟨i - 1, by omega⟩
        have k4 := HKS.out j hlt
        have hge : ¬ kt (j + 1) ≤ kt j := by omega
        obtain ⟨m1, m2, _⟩ := HKT.out j (by omega)
        have c2 := HM.out.cell (show j < K.length by omega)
        rw [m1] at c2
        have HKC : Hid (∀ w' : World, MK f (.slice (some ⟨b, off, none⟩) K.length vc) K w w' → Cells w' w.heap.size f ∧ w'.cell? ⟨b, off + (j + 1), none⟩ = some (.int .u8 (kt (j + 1) : Int)) ∧ w'.cell? ⟨b, off + j, none⟩ = some (.int .u8 (kt j : Int))) := hid (fun w' h => by
          have d1 := h.cell hlt
          have d2 := h.cell (show j < K.length by omega)
          rw [k1] at d1; rw [m1] at d2
          exact ⟨h.src.cells, d1, d2⟩)
        clear k1 k3 m1 c1 c2 k4
        generalize kt (j + 1) = p1 at *
        generalize kt j = p0 at *
        have hwj : IntKind.i64.wrap (j : Int) = (j : Int) := by rw [IntKind.wrap_i64]; omega
        have hj0 : (0 : Int) ≤ (j : Int) := by omega
        have hj1 : (j : Int) < (K.length : Int) := by omega
        have hj2 : (0 : Int) ≤ (j : Int) + 1 := by omega
        have hj3 : (j : Int) + 1 < (K.length : Int) := by omega
        have HM0 := hid HM.out.drew
        have K0 := HKC.out _ HM0.out
        go_wp2
        go_region_held3 (fun w' => Cells w' w.heap.size f ∧ w'.cell? ⟨b, off + (j + 1), none⟩ = some (.int .u8 (p1 : Int)) ∧ w'.cell? ⟨b, off + j, none⟩ = some (.int .u8 (p0 : Int))) (first
          | with_reducible assumption) (first
          | (go_at_call 11; (with_reducible refine (HA1.out _).mono ?_); rintro e w4 ⟨rfl, hlow⟩; have HM1 := hid (HM0.out.on hlow); have K1 := HKC.out _ HM1.out; clear hlow)
          | (go_at_call 11; (with_reducible refine (HA2.out _).mono ?_); rintro e w5 ⟨rfl, hlow⟩; have HM2 := hid (HM1.out.on hlow); have K2 := HKC.out _ HM2.out; clear hlow)
          | (go_at_call 11; (with_reducible refine (HX.out _).mono ?_); rintro e w6 ⟨rfl, hlow⟩; have HM3 := hid (HM2.out.on hlow); have K3 := HKC.out _ HM3.out; clear hlow))
        clear K0 K1 K2 K3 HM0 HM1 HM2 HA1 HA2 HKC hwj hj0 hj1 hj2 hj3
        go_wp2
        go_roundw
        case rel => exact ⟨j + 1 + 1, by omega, by go_num, HM3.out⟩
        case measure => simp [intOf]; omega
    · have hiL : i = K.length := by omega
      subst hiL
      clear HX HU HKT HKS
      obtain ⟨k, hk⟩ : ∃ k, n % 40 = k := ⟨_, rfl⟩
      have hk40 : k < 40 := by omega
      have hnk : (n : Int) % 40 = (k : Int) := by omega
      have HPW : Hid (∀ w, Calls Try.prog 21 #[.agg (ba 8 f), .int .i64 ((n : Int) % 40)] w fun e w' => ∃ g, e = .returned (.agg (ba 8 g)) ∧ By g ∧ (∀ x, x < 256 → ap g x = it f k x) ∧ Below w.heap.size w w') := hid (fun w => by
        have := pow_any f k w HFB.out (by omega); rw [hnk]; exact this)
      have HNK := hid hnk
      clear hnk
      clear hk
      have HIT := hid (fun i => it_lt f hx i)
      have HI0 := hid (show it f 0 x = x from rfl)
      have HIS := hid (fun i => show it f (i + 1) x = ap f (it f i x) from rfl)
      have HPG := hid (fun g (h : ∀ x, x < 256 → ap g x = it f k x) => h x hx)
      obtain ⟨I, hI⟩ : ∃ I : Nat → Nat, (fun i => it f i x) = I := ⟨_, rfl⟩
      have HII := hid (fun i => congrFun hI i)
      clear hI
      go_wp2
      go_loopw [10, 11] (fun yv iv wr => ∃ i : Nat, i ≤ k ∧ iv = .int .i64 i ∧ yv = .int .u8 (I i : Nat) ∧ MK f (.slice (some ⟨b, off, none⟩) K.length vc) K w wr) (fun _ iv _ => k - (intOf iv).toNat)
      case atStart => exact ⟨0, by omega, rfl, by rw [← HII.out 0]; rfl, HM.out⟩
      case round =>
        obtain ⟨i, hi, rfl, rfl, hM⟩ := hrel
        have HM1 := hid hM
        clear hM
        by_cases hlti : i < k
        · have hik : (i : Int) < (n : Int) % 40 := by rw [HNK.out]; omega
          have HA : Hid (∀ w, Calls Try.prog 11 #[.agg (ba 8 f), .int .u8 (I i : Nat)] w fun e w' => e = .returned (.int .u8 (I (i + 1) : Nat)) ∧ Below w.heap.size w w') := hid (fun w => by
            have := HRA.out (it f i x) w (HIT.out i)
            rw [← HIS.out i] at this
            rw [← HII.out i, ← HII.out (i + 1)]
            exact this)
          go_wp2_with (first
            | (refine step_load_ba rfl 23 _ rfl w.heap.size 8 23 5 f rfl HM1.out.src Try.underlying23 info23 ?_)
            | (go_at_call 11; (with_reducible refine (HA.out _).mono ?_); rintro e w4 ⟨rfl, hlow⟩; have HM2 := hid (HM1.out.on hlow); clear hlow))
          go_roundw
          case rel => exact ⟨i + 1, by omega, by go_num, rfl, HM2.out⟩
          case measure => simp [intOf]; omega
        · have hik : i = k := by omega
          have hnik : ¬ (i : Int) < (n : Int) % 40 := by rw [HNK.out]; omega
          subst hik
          go_wp2_with (first
            | (refine step_load_ba rfl 23 _ rfl w.heap.size 8 23 5 f rfl HM1.out.src Try.underlying23 info23 ?_)
            | (go_at_call 21; (with_reducible refine (HPW.out _).mono ?_); rintro e w4 ⟨g, rfl, hg1, hg2, hlow⟩; have HM2 := hid (HM1.out.on hlow); have HG1 := hid hg1; have HG2 := hid (show ap g x = I i by rw [← HII.out i]; exact HPG.out g hg2); clear hlow hg1 hg2)
            | (go_at_call 10; refine (apply_any g x _ HG1.out hx).mono ?_; rw [HG2.out]; rintro e w5 ⟨rfl, hlow⟩; have HM3 := hid (HM2.out.on hlow); clear hlow)
            | (go_at_call 19; (with_reducible refine (HW.out _).mono ?_); rintro e w6 ⟨rfl, hlow⟩; have HM4 := hid (HM3.out.on hlow); clear hlow))
          go_ret
          exact ⟨rfl, HM4.out.low⟩
end Go.Proofs.Ytkdbjejblbopeaa
