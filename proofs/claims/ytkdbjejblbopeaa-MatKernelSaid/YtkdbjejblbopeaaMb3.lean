import Derived.Test.YtkdbjejblbopeaaMb2
namespace Go.Proofs.Ytkdbjejblbopeaa
open Go.RowKit

theorem info8 : (Try.prog.info? 5).map (fun i => (i.zero, i.size, i.bytes)) = some (some (.int .u8 0), 1, IntKind.u8.bits / 8) := by kernel_rfl

theorem Own.self {k : IntKind} {B : Nat} {E : TypeId} {w w' : World} {v : Value} {zs : List Int} (h : Own k B E w v zs) (hb : Below w.heap.size w w') : Own k B E w' v zs := by
  have hlt := h.lt
  obtain ⟨h1, h2⟩ := h
  refine ⟨h1, ?_⟩
  rcases h2 with h2 | ⟨g, cap, cur, rfl, hg, hc, h3⟩
  · exact .inl h2
  · exact .inr ⟨g, cap, cur, rfl, hg, by rw [hb.block g (hlt g rfl).2]; exact hc, h3⟩

/-- What is turned into 0, as the program's numbers. -/
def kz (f : Nat → Nat) (n : Nat) : List Int := (ker f n).map (fun x : Nat => (x : Int))
theorem kz_len_le (f : Nat → Nat) (n : Nat) : (kz f n).length ≤ n := by
  unfold kz ker
  rw [List.length_map]
  have := List.length_filter_le (fun x => decide (ap f x = 0)) (List.range n)
  rwa [List.length_range] at this
theorem kz_hit {f : Nat → Nat} {n : Nat} (h : ap f n = 0) : kz f (n + 1) = kz f n ++ [(n : Int)] := by
  unfold kz; rw [ker_succ, if_pos h]; simp
theorem kz_miss {f : Nat → Nat} {n : Nat} (h : ap f n ≠ 0) : kz f (n + 1) = kz f n := by
  unfold kz; rw [ker_succ, if_neg h]
theorem kz_wf (f : Nat → Nat) {n : Nat} (hn : n ≤ 256) : ∀ z ∈ kz f n, (Lit.int .u8 z).wf = true := by
  intro z hz
  obtain ⟨x, hx, rfl⟩ := List.mem_map.1 hz
  have := (mem_ker.1 hx).1
  have h2 : x < 256 := by omega
  have : (Lit.int .u8 (IntKind.u8.wrap (x : Int))).wf = true := wf_wrap _ _
  rwa [IntKind.wrap_u8', show (x : Int) % 256 = x by omega] at this

set_option maxRecDepth 20000 in
set_option maxHeartbeats 1600000 in
theorem kernel_any (f : Nat → Nat) (w : World) (hf : By f) :
    Calls Try.prog 20 #[.agg (ba 8 f)] w fun e w' => ∃ v, e = .returned v ∧ Rd .u8 w' v (kz f 256) ∧ Below w.heap.size w w' := by
  have HA := hid (At.new w 8 23 f)
  have HL := hid ((Below.refl w.heap.size w).alloc (Nat.le_refl _) (.cells (ba 8 f) 23))
  have HF := hid hf
  obtain ⟨w0, hw0⟩ : ∃ w0, w.alloc (.cells (ba 8 f) 23) = w0 := ⟨_, rfl⟩
  have hs0 : w0.heap.size = w.heap.size + 1 := by rw [← hw0]; simp
  have HW0 := hid hw0
  have HS0 := hid hs0
  rw [hw0] at HA HL
  have HO := hid (own_nil .u8 (w.heap.size + 1) 5 w0)
  have HB := hid (Below.refl (w.heap.size + 1) w0)
  have HLN := hid (kz_len_le f)
  have HKW := hid (fun n hn => kz_wf f (n := n) hn)
  have HKH := hid (fun n (h : ap f n = 0) => kz_hit h)
  have HKM := hid (fun n (h : ap f n ≠ 0) => kz_miss h)
  have HK0 := hid (show kz f 0 = [] from rfl)
  generalize kz f = K at HLN HKW HKH HKM HK0 ⊢
  clear hf hw0 hs0
  go_enter Try.func20, Try.ntmps20
  go_wp2
  go_loopw [3, 5] (fun v xv wr => ∃ n : Nat, n ≤ 256 ∧ xv = .int .i64 n ∧ Own .u8 (w.heap.size + 1) 5 wr v (K n) ∧ Below (w.heap.size + 1) w0 wr) (fun _ xv _ => 256 - (intOf xv).toNat)
  case atStart => exact ⟨0, by omega, rfl, by rw [HK0.out, HW0.out]; exact HO.out, by rw [HW0.out]; exact HB.out⟩
  case round =>
    obtain ⟨n, hn, rfl, hown, hlow⟩ := hrel
    have HOW := hid hown
    have HLO := hid hlow
    have HAT := hid (HA.out.below hlow (by omega))
    have HSZ := hid (show w.heap.size + 1 ≤ wr.heap.size by have := hlow.size; rw [HS0.out] at this; exact this)
    clear hown hlow
    by_cases hltn : n < 256
    · obtain ⟨y, hy⟩ : ∃ y, ap f n = y := ⟨_, rfl⟩
      have HC : Hid (∀ w, Calls Try.prog 10 #[.agg (ba 8 f), .int .u8 (n : Int)] w fun e w' => e = .returned (.int .u8 (y : Int)) ∧ Below w.heap.size w w') := hid (fun w => by
        have := apply_any f n w HF.out hltn; rw [hy] at this; exact this)
      have HY := hid hy
      clear hy
      by_cases hy0 : y = 0
      · have he : ((y : Int) == 0) = true := eqT (y := 0) hy0
        have HKN := hid (HKH.out n (by rw [HY.out]; exact hy0))
        have HLI := hid (show ((K n).length + 1) * (IntKind.u8.bits / 8) ≤ 140737488355328 by have := HLN.out n; simp [IntKind.bits]; omega)
        clear hy0
        go_wp2_with (first
          | (refine step_load_ba rfl 23 _ rfl w.heap.size 8 23 5 f rfl HAT.out Try.underlying23 info23 ?_)
          | (go_at_call 10; (with_reducible refine (HC.out _).mono ?_); rintro e w1 ⟨rfl, hlow1⟩; have HOW1 := hid (HOW.out.self hlow1); have HLO1 := hid (HLO.out.trans (hlow1.mono HSZ.out)); have HSZ1 := hid (Nat.le_trans HSZ.out hlow1.size); clear hlow1)
          | (refine wpList_append_ints rfl (.tmp 13) (.tmp 16) 36 rfl .u8 (w.heap.size + 1) 5 Try.underlying36 info8 (by decide) _ _ rfl (HOW1.out.alloc _) _ _ _ _ rfl rfl (cell_new_int _ _ _ _) HLI.out (by have := HSZ1.out; simp; omega) _ _ (HLO1.out.alloc HSZ1.out _) (Nat.le_refl _) ?_; intro v2 w2 hO2 hL2 _))
        go_roundw
        case rel => exact ⟨n + 1, by omega, by go_num, by rw [HKN.out]; exact hO2, hL2⟩
        case measure => simp [intOf]; omega
      · have he : ((y : Int) == 0) = false := eqF (y := 0) hy0
        have HKN := hid (HKM.out n (by rw [HY.out]; exact hy0))
        clear hy0
        go_wp2_with (first
          | (refine step_load_ba rfl 23 _ rfl w.heap.size 8 23 5 f rfl HAT.out Try.underlying23 info23 ?_)
          | (go_at_call 10; (with_reducible refine (HC.out _).mono ?_); rintro e w1 ⟨rfl, hlow1⟩; have HOW1 := hid (HOW.out.self hlow1); have HLO1 := hid (HLO.out.trans (hlow1.mono HSZ.out)); clear hlow1))
        go_roundw
        case rel => exact ⟨n + 1, by omega, by go_num, by rw [HKN.out]; exact HOW1.out, HLO1.out⟩
        case measure => simp [intOf]; omega
    · have hn256 : n = 256 := by omega
      rw [hn256] at HOW
      clear hn256
      go_wp2
      go_ret
      exact ⟨_, rfl, HOW.out.rd (by have := HLN.out 256; simp [IntKind.bits]; omega) (HKW.out 256 (Nat.le_refl _)), HL.out.trans (HLO.out.mono (by omega))⟩

/-- Three blocks of a power: what is multiplied, what goes out, the product. -/
structure P3 (b : Nat) (g h : Nat → Nat) (w wr : World) : Prop where
  low : Below w.heap.size w wr
  far : w.heap.size + 2 ≤ b
  src : M wr w.heap.size h
  out : M wr (w.heap.size + 1) (fun _ => 0)
  var : M wr b g
theorem P3.start {f : Nat → Nat} {w wr w1 : World} (h : M2 23 f w wr) (hb : Below wr.heap.size wr w1) :
    P3 w1.heap.size one f w ((w1.alloc (.cells (ba 8 (fun _ => 0)) 23)).setRow w1.heap.size (ba 8 one)) := by
  have h1 := h.on hb
  have s1 := h1.src.lt; have s2 := h1.out.lt
  exact ⟨below_setRow (h1.low.alloc (by omega) _) (by omega) _, by omega, (h1.src.alloc _).rowApart (by omega) _, (h1.out.alloc _).rowApart (by omega) _, (At.new w1 8 23 _).row _⟩
theorem P3.on {b : Nat} {g h : Nat → Nat} {w wr w1 : World} (m : P3 b g h w wr) (hb : Below wr.heap.size wr w1) : P3 b g h w w1 :=
  ⟨m.low.trans (hb.mono m.low.size), m.far, m.src.self hb, m.out.self hb, m.var.self hb⟩
theorem P3.setV {b : Nat} {g h : Nat → Nat} {w wr : World} (m : P3 b g h w wr) (g' : Nat → Nat) : P3 b g' h w (wr.setRow b (ba 8 g')) :=
  have hb := m.far
  ⟨below_setRow m.low (by omega) _, m.far, m.src.rowApart (by omega) _, m.out.rowApart (by omega) _, m.var.row g'⟩
theorem P3.setM {b : Nat} {g h : Nat → Nat} {w wr : World} (m : P3 b g h w wr) (h' : Nat → Nat) : P3 b g h' w (wr.setRow w.heap.size (ba 8 h')) :=
  have hb := m.far
  ⟨below_setRow m.low (Nat.le_refl _) _, m.far, m.src.row h', m.out.rowApart (by omega) _, m.var.rowApart (by omega) _⟩

set_option maxHeartbeats 1600000 in
theorem pow_neg_any (f : Nat → Nat) (n : Int) (w : World) (hn : n < 0) :
    Calls Try.prog 21 #[.agg (ba 8 f), .int .i64 n] w fun e w' => e = .returned (.agg (ba 8 (fun _ => 0))) ∧ Below w.heap.size w w' := by
  have HA := hid (M2.start 23 f w)
  go_enter Try.func21, Try.ntmps21
  go_wp2_with (first
    | (refine step_store_ba rfl 23 _ _ rfl (w.heap.size + 1) 8 23 (fun _ => 0) (fun _ => 0) rfl rfl HA.out.out info23 ?_))
  exact ret_ba rfl rfl Try.underlying23 info23 rfl (HA.out.out.row (fun _ => 0)) ⟨rfl, below_setRow HA.out.low (by omega) _⟩

set_option maxHeartbeats 1600000 in
theorem pow_any (f : Nat → Nat) (N : Nat) (w : World) (hf : By f) (hN : N < 9223372036854775808) :
    Calls Try.prog 21 #[.agg (ba 8 f), .int .i64 (N : Int)] w fun e w' => ∃ g, e = .returned (.agg (ba 8 g)) ∧ By g ∧ (∀ x, x < 256 → ap g x = it f N x) ∧ Below w.heap.size w w' := by
  have HA := hid (M2.start 23 f w)
  have HP0 := hid (PInv.start hf N)
  clear hf
  go_enter Try.func21, Try.ntmps21
  go_wp2_with (first
    | (go_at_call 16; refine (one_any _).mono ?_; rintro e w1 ⟨rfl, hlow1⟩; have HS := hid (P3.start HA.out hlow1); clear hlow1)
    | (refine step_store_ba rfl 23 _ _ rfl w1.heap.size 8 23 (fun _ => 0) one rfl rfl (At.new w1 8 23 (fun _ => 0)) info23 ?_))
  simp only [Act.put]
  go_loopw [1] (fun nv wr => ∃ (g h : Nat → Nat) (n : Nat), nv = .int .i64 n ∧ n < 9223372036854775808 ∧ PInv f g h N n ∧ P3 w1.heap.size g h w wr) (fun nv _ => (intOf nv).toNat)
  case atStart => exact ⟨one, f, N, rfl, hN, HP0.out, HS.out⟩
  case round =>
    obtain ⟨g, h, n, rfl, hn, hP, hM⟩ := hrel
    have HP := hid hP
    have HM := hid hM
    clear hP hM
    have HGB := hid HP.out.1
    have HHB := hid HP.out.2.1
    by_cases h0 : n = 0
    · subst h0
      go_wp2_with (first
        | (refine step_load_ba rfl 23 _ rfl w1.heap.size 8 23 5 g rfl HM.out.var Try.underlying23 info23 ?_)
        | (refine step_store_ba rfl 23 _ _ rfl (w.heap.size + 1) 8 23 (fun _ => 0) g rfl rfl HM.out.out info23 ?_))
      exact ret_ba rfl rfl Try.underlying23 info23 rfl (HM.out.out.row g) ⟨g, rfl, HGB.out, HP.out.done, below_setRow HM.out.low (by omega) _⟩
    · by_cases h1 : n % 2 = 1
      · have hb1 := odd64 hn h1
        go_wp2_with (first
          | (refine step_load_ba rfl 23 _ rfl w1.heap.size 8 23 5 g rfl HM.out.var Try.underlying23 info23 ?_)
          | (with_reducible refine step_load_ba rfl 23 _ rfl w.heap.size 8 23 5 h rfl HM.out.src Try.underlying23 info23 ?_)
          | (go_at_call 12; (with_reducible refine (mul_any g h _ HGB.out HHB.out).mono ?_); rintro e w2 ⟨rfl, hlow2⟩; have HM1 := hid (HM.out.on hlow2); clear hlow2)
          | (refine step_store_ba rfl 23 _ _ rfl w1.heap.size 8 23 g (mu g h) rfl rfl HM1.out.var info23 ?_; have HM2 := hid (HM1.out.setV (mu g h)))
          | (refine step_load_ba rfl 23 _ rfl w.heap.size 8 23 5 h rfl HM2.out.src Try.underlying23 info23 ?_)
          | (go_at_call 12; (with_reducible refine (mul_any h h _ HHB.out HHB.out).mono ?_); rintro e w3 ⟨rfl, hlow3⟩; have HM3 := hid (HM2.out.on hlow3); clear hlow3)
          | (refine step_store_ba rfl 23 _ _ rfl w.heap.size 8 23 h (mu h h) rfl rfl HM3.out.src info23 ?_; have HM4 := hid (HM3.out.setM (mu h h))))
        go_roundw
        case rel => exact ⟨mu g h, mu h h, n / 2, by go_num, by omega, HP.out.odd h1, HM4.out⟩
        case measure => simp [intOf]; omega
      · have hb1 := even64 hn h1
        go_wp2_with (first
          | (refine step_load_ba rfl 23 _ rfl w.heap.size 8 23 5 h rfl HM.out.src Try.underlying23 info23 ?_)
          | (go_at_call 12; (with_reducible refine (mul_any h h _ HHB.out HHB.out).mono ?_); rintro e w3 ⟨rfl, hlow3⟩; have HM3 := hid (HM.out.on hlow3); clear hlow3)
          | (refine step_store_ba rfl 23 _ _ rfl w.heap.size 8 23 h (mu h h) rfl rfl HM3.out.src info23 ?_; have HM4 := hid (HM3.out.setM (mu h h))))
        go_roundw
        case rel => exact ⟨g, mu h h, n / 2, by go_num, by omega, HP.out.even h1, HM4.out⟩
        case measure => simp [intOf]; omega

theorem rk_one : rk one = 8 := (hits_all one_by).1 (fun j hj => (hits_iff _ _ _).2 ⟨2 ^ j, two_lt j hj, ap_one (two_lt j hj)⟩)
theorem zero_by : By (fun _ => 0) := fun _ _ => by show 0 < 256; decide
theorem ap_none (x : Nat) : ap (fun _ => 0) x = 0 := byte_ext (ap_lt _ _) (by decide) (fun i hi => by rw [ap_bit _ _ hi, dot_comm, dot_zero]; simp)
theorem rk_zero : rk (fun _ => 0) = 0 := by
  have h1 := nd_rk zero_by
  have h2 := same_len (vals_nodup (ap (fun _ => 0)) 256) (m := [0]) (by simp) (fun y => by
    rw [mem_vals, List.mem_singleton]
    constructor
    · rintro ⟨x, _, rfl⟩; exact ap_none x
    · rintro rfl; exact ⟨0, by decide, ap_none 0⟩)
  have h3 : 2 ^ rk (fun _ => 0) = 1 := by rw [← h1]; exact h2
  refine Nat.eq_zero_of_not_pos fun hp => ?_
  have := Nat.one_lt_two_pow (n := rk (fun _ => 0)) (by omega)
  omega

set_option maxHeartbeats 1600000 in
theorem awake_any (w : World) : Calls Try.prog 19 #[] w fun e w' => e = .returned (.bool true) ∧ Below w.heap.size w w' := by
  have HR1 : Hid (∀ w, Calls Try.prog 17 #[.agg (ba 8 one)] w fun e w' => e = .returned (.int .i64 8) ∧ Below w.heap.size w w') := hid (fun w => by
    have := rank_any one w one_by; rw [rk_one] at this; exact this)
  have HR2 : Hid (∀ w, Calls Try.prog 17 #[.agg #[.int .u8 0, .int .u8 0, .int .u8 0, .int .u8 0, .int .u8 0, .int .u8 0, .int .u8 0, .int .u8 0]] w fun e w' => e = .returned (.int .i64 0) ∧ Below w.heap.size w w') := hid (fun w => by
    have := rank_any (fun _ => 0) w zero_by; rw [rk_zero] at this; exact this)
  go_enter Try.func19, Try.ntmps19
  go_wp2_with (first
    | (go_at_call 16; refine (one_any _).mono ?_; rintro e w1 ⟨rfl, hlow1⟩; have HL1 := hid hlow1; clear hlow1)
    | (go_at_call 17; (with_reducible refine (HR1.out _).mono ?_); rintro e w2 ⟨rfl, hlow2⟩; have HL2 := hid (HL1.out.trans (hlow2.mono HL1.out.size)); clear hlow2)
    | (go_at_call 17; (with_reducible refine (HR2.out _).mono ?_); rintro e w3 ⟨rfl, hlow3⟩; have HL3 := hid (HL2.out.trans (hlow3.mono HL2.out.size)); clear hlow3))
  go_ret
  exact ⟨rfl, HL3.out⟩
end Go.Proofs.Ytkdbjejblbopeaa
