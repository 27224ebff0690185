import Derived.Test.YtfgbcohmbbjagaaKcj
namespace Go.Proofs.Ytfgbcohmbbjagaa
open Go.RowKit

/-! ### the document's chi -/
set_option maxRecDepth 100000 in
set_option maxHeartbeats 3200000 in
theorem refchi_any (f : Nat → Nat) (w : World) (hf : W25 f) :
    Calls Try.prog 15 #[.agg (wa 25 f)] w fun e w' => e = .returned (.agg (wa 25 (ch f))) ∧ Below w.heap.size w w' := by
  have HS : Hid (V3 f (fun _ => 0) w ((((w.alloc (.cells (wa 25 f) 23)).alloc (.cells (wa 25 (fun _ => 0)) 23)).alloc (.cells (wa 25 (fun _ => 0)) 23)).setRow (w.heap.size + 2) (wa 25 (fun _ => 0)))) := hid ((V3.start f (fun _ => 0) w).row _)
  have HZ := hid (V3.start f (fun _ => 0) w)
  have HF := hid hf
  have HG : Hid (∀ i, ch f i = f i ^^^ f (i / 5 * 5 + (i + 2) % 5) ^^^ (f (i / 5 * 5 + (i + 2) % 5) &&& f (i / 5 * 5 + (i + 1) % 5))) := hid (fun _ => rfl)
  generalize ch f = g at *
  clear hf
  go_enter Try.func15, Try.ntmps15
  go_wp2_with (first
    | (refine step_store_wa rfl 23 _ _ rfl (w.heap.size + 2) 25 23 _ (fun _ => 0) rfl rfl HZ.out.var info23 ?_))
  go_loopw [4] (fun i wr => ∃ n : Nat, n ≤ 25 ∧ i = .int .i64 n ∧ V3 f (mix n (fun _ => 0) g) w wr) (fun i _ => 25 - (intOf i).toNat)
  case atStart => exact ⟨0, by omega, rfl, by rw [mix_zero]; exact HS.out⟩
  case round =>
    obtain ⟨n, hn, rfl, hI⟩ := hrel
    have HI := hid hI
    clear hI
    by_cases hlt : n < 25
    · obtain ⟨y, hy⟩ : ∃ m, n / 5 * 5 = m := ⟨_, rfl⟩
      obtain ⟨a1, ha1⟩ : ∃ m, n + 1 = m := ⟨_, rfl⟩
      obtain ⟨a2, ha2⟩ : ∃ m, n + 2 = m := ⟨_, rfl⟩
      obtain ⟨r1, hr1⟩ : ∃ m, (n + 1) % 5 = m := ⟨_, rfl⟩
      obtain ⟨r2, hr2⟩ : ∃ m, (n + 2) % 5 = m := ⟨_, rfl⟩
      obtain ⟨n1, hn1⟩ : ∃ m, y + r1 = m := ⟨_, rfl⟩
      obtain ⟨n2, hn2⟩ : ∃ m, y + r2 = m := ⟨_, rfl⟩
      have e0 : (n : Int) / 5 * 5 = (y : Int) := by omega
      have e1 : IntKind.i64.wrap ((n : Int) + 1) = (a1 : Int) := by rw [IntKind.wrap_i64]; omega
      have e2 : IntKind.i64.wrap ((n : Int) + 2) = (a2 : Int) := by rw [IntKind.wrap_i64]; omega
      have e3 : (a1 : Int).tmod 5 = (r1 : Int) := by rw [Int.tmod_eq_emod_of_nonneg (by omega)]; omega
      have e4 : (a2 : Int).tmod 5 = (r2 : Int) := by rw [Int.tmod_eq_emod_of_nonneg (by omega)]; omega
      have e5 : IntKind.i64.wrap ((y : Int) + (r1 : Int)) = (n1 : Int) := by rw [IntKind.wrap_i64]; omega
      have e6 : IntKind.i64.wrap ((y : Int) + (r2 : Int)) = (n2 : Int) := by rw [IntKind.wrap_i64]; omega
      have q1 : n1 < 25 := by omega
      have q2 : n2 < 25 := by omega
      have HI3 := HI.out.drew
      have c0 := HI3.src.cell hlt
      have c1 := HI3.src.cell q1
      have c2 := HI3.src.cell q2
      have c3 := HI3.var.cell hlt
      rw [mix_here] at c3
      have hfr := HI3.var.free n
      have HGn := hid (HG.out n)
      rw [hy, hr1, hr2, hn1, hn2] at HGn
      have b0 := HF.out n hlt
      have b1 := HF.out n1 q1
      have b2 := HF.out n2 q2
      have HX : Hid (bits .xor .u64 (bits .xor .u64 (f n : Int) (f n2 : Int)) (bits .and .u64 (f n2 : Int) (f n1 : Int)) = ((f n ^^^ f n2 ^^^ (f n2 &&& f n1) : Nat) : Int)) := hid (by
        rw [and64w b2 b1, x64 b0 b2, x64 (Nat.xor_lt_two_pow b0 b2) (Nat.and_lt_two_pow _ b1)])
      have HU := hid (fun v z hv hz => HI3.mixed (v := v) (z := z) hv hz)
      have HA1 : Hid (a1 = n + 1) := hid ha1.symm
      generalize f n = s0 at *
      generalize f n1 = s1 at *
      generalize f n2 = s2 at *
      have m0 : (n : Int) < 25 := by omega
      have m1 : (n1 : Int) < 25 := by omega
      have m2 : (n2 : Int) < 25 := by omega
      have p0 : (0 : Int) ≤ (n : Int) := by omega
      have p1 : (0 : Int) ≤ (n1 : Int) := by omega
      have p2 : (0 : Int) ≤ (n2 : Int) := by omega
      clear hy ha1 ha2 hr1 hr2 hn1 hn2 HI3
      go_wp2
      refine region_tail 29 (by kernel_rfl) (by kernel_rfl) ?_
      simp only [List.take_succ_cons, List.take_zero, List.drop_succ_cons, List.drop_zero]
      generalize wr.drew = w2 at *
      repeat still_step
      refine wpStill_nil ?_
      go_wp2
      go_roundw
      case rel => exact ⟨a1, by have := HA1.out; omega, rfl, by rw [HA1.out]; exact HU.out _ _ HX.out HGn.out.symm⟩
      case measure => have := HA1.out; simp [intOf]; omega
    · obtain rfl : n = 25 := by omega
      have HM := hid HI.out.var
      have HN := hid HI.out.out
      go_wp2_with (first
        | (refine step_load_wa rfl 23 _ rfl (w.heap.size + 2) 25 23 22 _ rfl HM.out Try.underlying23 info23 ?_)
        | (refine step_store_wa rfl 23 _ _ rfl (w.heap.size + 1) 25 23 _ _ rfl rfl HN.out info23 ?_))
      refine ret_wa rfl rfl Try.underlying23 info23 rfl (HI.out.out.row _) ⟨?_, below_setRow HI.out.low (by omega) _⟩
      rw [wa_ext (mix_all (Nat.le_refl 25))]
end Go.Proofs.Ytfgbcohmbbjagaa
