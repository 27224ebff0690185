import Derived.Test.YtfgbcohmbbjagaaKcg
namespace Go.Proofs.Ytfgbcohmbbjagaa
open Go.RowKit

/-! ### chi -/
theorem andnot64 {a b : Nat} (ha : a < 2 ^ 64) (hb : b < 2 ^ 64) : bits .andNot .u64 (a : Int) (b : Int) = ((a ^^^ (a &&& b) : Nat) : Int) := by
  have h1 : (BitVec.ofInt 64 (a : Int)).toNat = a := by
    rw [BitVec.ofInt_natCast, BitVec.toNat_ofNat]; exact Nat.mod_eq_of_lt (by omega)
  have h2 : (BitVec.ofInt 64 (b : Int)).toNat = b := by
    rw [BitVec.ofInt_natCast, BitVec.toNat_ofNat]; exact Nat.mod_eq_of_lt (by omega)
  have hx : a ^^^ (a &&& b) < 2 ^ 64 := Nat.xor_lt_two_pow ha (Nat.and_lt_two_pow _ hb)
  show IntKind.u64.wrap ((BitVec.ofInt 64 (a : Int) &&& ~~~ BitVec.ofInt 64 (b : Int)).toNat : Int) = _
  rw [BitVec.toNat_and, BitVec.toNat_not, h1, h2, andnot_xor a b 64 ha, Nat.mod_eq_of_lt hb, IntKind.wrap_u64]
  rw [andnot_xor a b 64 ha, Nat.mod_eq_of_lt hb] at hx
  omega
theorem place_to {x y n : Nat} (hx : x < 1000) (hy : y < 1000) (h : x % 5 + 5 * (y % 5) = n) (w : World) :
    Calls Try.prog 27 #[.int .i64 (x : Int), .int .i64 (y : Int)] w fun e w' => e = .returned (.int .i64 (n : Nat)) ∧ w' = w := by
  have := place_any x y w (by omega) (by omega)
  rwa [h] at this

set_option maxRecDepth 100000 in
set_option maxHeartbeats 3200000 in
theorem chi_any (f : Nat → Nat) (w : World) (hf : W25 f) :
    Calls Try.prog 14 #[.agg (wa 25 f)] w fun e w' => e = .returned (.agg (wa 25 (ch f))) ∧ Below w.heap.size w w' := by
  have HP0 := hid (P0.start f w)
  have HS : Hid (V3 f f w ((((w.alloc (.cells (wa 25 f) 23)).alloc (.cells (wa 25 (fun _ => 0)) 23)).alloc (.cells (wa 25 (fun _ => 0)) 23)).setRow (w.heap.size + 2) (wa 25 f))) := hid ((V3.start f (fun _ => 0) w).row f)
  have HZ := hid (V3.start f (fun _ => 0) w)
  have HF := hid hf
  have HG := hid (fun x y hx => ch_at f (x := x) (y := y) hx)
  generalize ch f = g at *
  clear hf
  go_enter Try.func14, Try.ntmps14
  go_wp2_with (first
    | (refine step_load_wa rfl 23 _ rfl w.heap.size 25 23 22 f rfl HP0.out.src Try.underlying23 info23 ?_)
    | (refine step_store_wa rfl 23 _ _ rfl (w.heap.size + 2) 25 23 _ _ rfl rfl HZ.out.var info23 ?_))
  go_loopw [7] (fun i wr => ∃ y : Nat, y ≤ 5 ∧ i = .int .i64 y ∧ V3 f (mix (5 * y) f g) w wr) (fun i _ => 5 - (intOf i).toNat)
  case atStart => exact ⟨0, by omega, rfl, by rw [mix_zero]; exact HS.out⟩
  case round =>
    obtain ⟨y, hy, rfl, hI⟩ := hrel
    have HI := hid hI
    clear hI
    by_cases hlt : y < 5
    · obtain ⟨wz, rfl⟩ : ∃ wz, wz = wr := ⟨_, rfl⟩
      have hlt8 : (y : Int) < 5 := by omega
      go_wp2
      go_loopw [10] (fun i wr => ∃ x : Nat, x ≤ 5 ∧ i = .int .i64 x ∧ V3 f (mix (x + 5 * y) f g) w wr) (fun i _ => 5 - (intOf i).toNat)
      case atStart => exact ⟨0, by omega, rfl, by rw [Nat.zero_add]; exact HI.out⟩
      case round =>
        obtain ⟨x, hx, rfl, hI⟩ := hrel
        have HI2 := hid hI
        clear hI
        by_cases hltx : x < 5
        · obtain ⟨n, hn⟩ : ∃ n, x + 5 * y = n := ⟨_, rfl⟩
          obtain ⟨n1, hn1⟩ : ∃ n, (x + 1) % 5 + 5 * y = n := ⟨_, rfl⟩
          obtain ⟨n2, hn2⟩ : ∃ n, (x + 2) % 5 + 5 * y = n := ⟨_, rfl⟩
          obtain ⟨x1, hx1⟩ : ∃ n, x + 1 = n := ⟨_, rfl⟩
          obtain ⟨x2, hx2⟩ : ∃ n, x + 2 = n := ⟨_, rfl⟩
          have q0 : n < 25 := by omega
          have q1 : n1 < 25 := by omega
          have q2 : n2 < 25 := by omega
          have e1 : IntKind.i64.wrap ((x : Int) + 1) = (x1 : Int) := by rw [IntKind.wrap_i64]; omega
          have e2 : IntKind.i64.wrap ((x : Int) + 2) = (x2 : Int) := by rw [IntKind.wrap_i64]; omega
          have HI3 := HI2.out.drew
          rw [hn] at HI3
          have c1 := HI3.src.cell q1
          have c2 := HI3.src.cell q2
          have c3 := HI3.var.cell q0
          rw [mix_here] at c3
          have hfr := HI3.var.free n
          have HGn := hid (HG.out x y hltx)
          rw [hn, hn1, hn2] at HGn
          have b0 := HF.out n q0
          have b1 := HF.out n1 q1
          have b2 := HF.out n2 q2
          have HU := hid (fun v z hv hz => HI3.mixed (v := v) (z := z) hv hz)
          have HP1 := hid (fun w => place_to (x := x) (y := y) (n := n) (by omega) (by omega) (by omega) w)
          have HP2 := hid (fun w => place_to (x := x2) (y := y) (n := n2) (by omega) (by omega) (by omega) w)
          have HP3 := hid (fun w => place_to (x := x1) (y := y) (n := n1) (by omega) (by omega) (by omega) w)
          have HX : Hid (bits .xor .u64 (f n : Int) (bits .andNot .u64 (f n2 : Int) (f n1 : Int)) = ((f n ^^^ (f n2 ^^^ (f n2 &&& f n1)) : Nat) : Int)) := hid (by
            rw [andnot64 b2 b1, x64 b0 (Nat.xor_lt_two_pow b2 (Nat.and_lt_two_pow _ b1))])
          have HY : Hid ((x1 : Nat) = x + 1) := hid hx1.symm
          have HYn : Hid (n + 1 = x1 + 5 * y) := hid (by omega)
          generalize f n = s0 at *
          generalize f n1 = s1 at *
          generalize f n2 = s2 at *
          have r0 : (n : Int) < 25 := by omega
          have r1 : (n1 : Int) < 25 := by omega
          have r2 : (n2 : Int) < 25 := by omega
          have p0 : (0 : Int) ≤ (n : Int) := by omega
          have p1 : (0 : Int) ≤ (n1 : Int) := by omega
          have p2 : (0 : Int) ≤ (n2 : Int) := by omega
          clear hn hn1 hn2 hx1 hx2 HI3
          go_wp2
          refine region_tail 20 (by kernel_rfl) (by kernel_rfl) ?_
          simp only [List.take_succ_cons, List.take_zero, List.drop_succ_cons, List.drop_zero]
          generalize wr.drew = w2 at *
          repeat still_step
          still_call (HP1.out _)
          repeat still_step
          still_call (HP2.out _)
          repeat still_step
          still_call (HP3.out _)
          repeat still_step
          refine wpStill_nil ?_
          go_wp2
          go_roundw
          case rel => exact ⟨x1, by have := HY.out; omega, rfl, by rw [← HYn.out]; exact HU.out _ _ HX.out HGn.out.symm⟩
          case measure => have := HY.out; simp [intOf]; omega
        · obtain rfl : x = 5 := by omega
          go_wp2
          go_roundw
          case rel => exact ⟨y + 1, by omega, by go_num, by rw [show 5 * (y + 1) = 5 + 5 * y by omega]; exact HI2.out⟩
          case measure => simp [intOf]; omega
    · obtain rfl : y = 5 := by omega
      have HM := hid HI.out.var
      have HN := hid HI.out.out
      go_wp2_with (first
        | (refine step_load_wa rfl 23 _ rfl (w.heap.size + 2) 25 23 22 _ rfl HM.out Try.underlying23 info23 ?_)
        | (refine step_store_wa rfl 23 _ _ rfl (w.heap.size + 1) 25 23 _ _ rfl rfl HN.out info23 ?_))
      refine ret_wa rfl rfl Try.underlying23 info23 rfl (HI.out.out.row _) ⟨?_, below_setRow HI.out.low (by omega) _⟩
      rw [wa_ext (mix_all (n := 5 * 5) (m := 25) (by omega))]
end Go.Proofs.Ytfgbcohmbbjagaa
