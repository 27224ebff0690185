import Derived.Test.YtfgbcohmbbjagaaKcj
namespace Go.Proofs.Ytfgbcohmbbjagaa
open Go.RowKit

/-! ### the document's move -/
theorem dst_at (x y : Nat) (hx : x < 5) : dst (x + 5 * y) = y + 5 * ((2 * x + 3 * y) % 5) := dst_xy hx

set_option maxRecDepth 100000 in
set_option maxHeartbeats 3200000 in
theorem refmove_any (f : Nat → Nat) (w : World) (hf : W25 f) :
    Calls Try.prog 13 #[.agg (wa 25 f)] w fun e w' => e = .returned (.agg (wa 25 (mo tun f))) ∧ Below w.heap.size w w' := by
  have HS : Hid (V3 f (fun _ => 0) w ((((w.alloc (.cells (wa 25 f) 23)).alloc (.cells (wa 25 (fun _ => 0)) 23)).alloc (.cells (wa 25 (fun _ => 0)) 23)).setRow (w.heap.size + 2) (wa 25 (fun _ => 0)))) := hid ((V3.start f (fun _ => 0) w).row _)
  have HZ := hid (V3.start f (fun _ => 0) w)
  have HF := hid hf
  have HT := hid tun_lt
  have HG := hid (fun n h => mo_at tun f (n := n) h)
  have HD := hid (fun n h => (src_dst n h).2.1)
  have HA := hid srd_at
  have HQ := hid (fun x y hx hy => tq_in (x := x) (y := y) hx hy)
  generalize mo tun f = g at *
  generalize tun = t at *
  clear hf
  go_enter Try.func13, Try.ntmps13
  go_wp2_with (first
    | (refine step_store_wa rfl 23 _ _ rfl (w.heap.size + 2) 25 23 _ (fun _ => 0) rfl rfl HZ.out.var info23 ?_))
  go_loopw [4] (fun i wr => ∃ x : Nat, x ≤ 5 ∧ i = .int .i64 x ∧ V3 f (mip srd (5 * x) (fun _ => 0) g) w wr) (fun i _ => 5 - (intOf i).toNat)
  case atStart => exact ⟨0, by omega, rfl, by rw [mip_zero]; exact HS.out⟩
  case round =>
    obtain ⟨x, hx, rfl, hI⟩ := hrel
    have HI := hid hI
    clear hI
    by_cases hlt : x < 5
    · obtain ⟨wz, rfl⟩ : ∃ wz, wz = wr := ⟨_, rfl⟩
      have hlt8 : (x : Int) < 5 := by omega
      go_wp2
      go_loopw [5] (fun i wr => ∃ y : Nat, y ≤ 5 ∧ i = .int .i64 y ∧ V3 f (mip srd (5 * x + y) (fun _ => 0) g) w wr) (fun i _ => 5 - (intOf i).toNat)
      case atStart => exact ⟨0, by omega, rfl, HI.out⟩
      case round =>
        obtain ⟨y, hy, rfl, hI⟩ := hrel
        have HI2 := hid hI
        clear hI
        by_cases hlty : y < 5
        · obtain ⟨n, hn⟩ : ∃ n, x + 5 * y = n := ⟨_, rfl⟩
          obtain ⟨a, ha⟩ : ∃ n, 2 * x = n := ⟨_, rfl⟩
          obtain ⟨b, hb⟩ : ∃ n, 3 * y = n := ⟨_, rfl⟩
          obtain ⟨c, hc⟩ : ∃ n, a + b = n := ⟨_, rfl⟩
          obtain ⟨r, hr⟩ : ∃ n, c % 5 = n := ⟨_, rfl⟩
          obtain ⟨q, hq⟩ : ∃ n, 5 * r = n := ⟨_, rfl⟩
          obtain ⟨d, hd⟩ : ∃ n, y + q = n := ⟨_, rfl⟩
          obtain ⟨y5, hy5⟩ : ∃ n, 5 * y = n := ⟨_, rfl⟩
          obtain ⟨y1, hy1⟩ : ∃ n, y + 1 = n := ⟨_, rfl⟩
          have q0 : n < 25 := by omega
          have hdn : dst n = d := by rw [← hn, dst_xy hlt, ← hd, ← hq, ← hr, ← hc, ← ha, ← hb]
          have qd : d < 25 := by rw [← hdn]; exact HD.out n q0
          have e1 : IntKind.i64.wrap (2 * (x : Int)) = (a : Int) := by rw [IntKind.wrap_i64]; omega
          have e2 : IntKind.i64.wrap (3 * (y : Int)) = (b : Int) := by rw [IntKind.wrap_i64]; omega
          have e3 : IntKind.i64.wrap ((a : Int) + (b : Int)) = (c : Int) := by rw [IntKind.wrap_i64]; omega
          have e4 : (c : Int).tmod 5 = (r : Int) := by rw [Int.tmod_eq_emod_of_nonneg (by omega)]; omega
          have e5 : IntKind.i64.wrap (5 * (r : Int)) = (q : Int) := by rw [IntKind.wrap_i64]; omega
          have e6 : IntKind.i64.wrap ((y : Int) + (q : Int)) = (d : Int) := by rw [IntKind.wrap_i64]; omega
          have e7 : IntKind.i64.wrap (5 * (y : Int)) = (y5 : Int) := by rw [IntKind.wrap_i64]; omega
          have e8 : IntKind.i64.wrap ((x : Int) + (y5 : Int)) = (n : Int) := by rw [IntKind.wrap_i64]; omega
          have HI3 := HI2.out.drew
          have c1 := HI3.src.cell q0
          have c2 := HI3.var.cell qd
          have hfr := HI3.var.free d
          have b0 := HF.out n q0
          have ht := HT.out n q0
          have HR := hid (fun w => refrot_to (m := t n) (k := (t n : Int)) b0 (by omega) w)
          have HP : Hid (∀ w, Calls Try.prog 9 #[.int .i64 (x : Int), .int .i64 (y : Int)] w fun e w' => e = .returned (.int .i64 (t n : Nat)) ∧ w' = w) := hid (fun w => by
            have := refturn_any x y w
            rwa [HQ.out x y hlt hlty, hn] at this)
          have HGn := hid (HG.out n q0)
          rw [hdn] at HGn
          have hAt : ∀ i, i < 25 → (srd i = 5 * x + y ↔ i = d) := fun i hi => by
            have := HA.out x hlt y hlty i hi
            rwa [hn, hdn] at this
          have HU := hid (fun v z hv hz => HI3.mixed_at (v := v) (z := z) hAt hv hz)
          generalize rt (f n) (t n) = rr at *
          generalize f n = s0 at *
          generalize t n = tn at *
          generalize mip srd (5 * x + y) (fun _ => 0) g d = z0 at *
          have n0 : (n : Int) < 25 := by omega
          have n1 : (d : Int) < 25 := by omega
          have p0 : (0 : Int) ≤ (n : Int) := by omega
          have p1 : (0 : Int) ≤ (d : Int) := by omega
          clear hn ha hb hc hr hq hd hy5 hdn HI3 hAt
          go_wp2
          refine region_tail 20 (by kernel_rfl) (by kernel_rfl) ?_
          simp only [List.take_succ_cons, List.take_zero, List.drop_succ_cons, List.drop_zero]
          generalize wr.drew = w2 at *
          repeat still_step
          still_call (HP.out _)
          repeat still_step
          still_call (HR.out _)
          repeat still_step
          refine wpStill_nil ?_
          go_wp2
          go_roundw
          case rel => exact ⟨y + 1, by omega, by go_num, HU.out _ _ rfl HGn.out.symm⟩
          case measure => simp [intOf]; omega
        · obtain rfl : y = 5 := by omega
          go_wp2
          go_roundw
          case rel => exact ⟨x + 1, by omega, by go_num, HI2.out⟩
          case measure => simp [intOf]; omega
    · obtain rfl : x = 5 := by omega
      have HM := hid HI.out.var
      have HN := hid HI.out.out
      go_wp2_with (first
        | (refine step_load_wa rfl 23 _ rfl (w.heap.size + 2) 25 23 22 _ rfl HM.out Try.underlying23 info23 ?_)
        | (refine step_store_wa rfl 23 _ _ rfl (w.heap.size + 1) 25 23 _ _ rfl rfl HN.out info23 ?_))
      refine ret_wa rfl rfl Try.underlying23 info23 rfl (HI.out.out.row _) ⟨?_, below_setRow HI.out.low (by omega) _⟩
      rw [wa_ext (mip_all srd_lt)]
end Go.Proofs.Ytfgbcohmbbjagaa
