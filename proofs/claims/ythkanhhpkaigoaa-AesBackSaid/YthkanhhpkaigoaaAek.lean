import Derived.Test.YthkanhhpkaigoaaProg
import Derived.Test.YthkanhhpkaigoaaAej
namespace Go.Proofs.Ythkanhhpkaigoaa
open Go.RowKit

set_option maxRecDepth 100000 in
set_option maxHeartbeats 3200000 in
theorem refcolumns16_any (f : Nat → Nat) (w : World) (h : B16 f) : Calls Try.prog 8 #[.agg (ba 16 f)] w fun e w' => e = .returned (.agg (ba 16 (mxC f))) ∧ Below w.heap.size w w' := by
  have HS := hid (Tri.start w f)
  have HS1 := hid (HS.out.row (fun _ => 0))
  have HF := hid h
  have HDC := hid (fun i (hi : i < 16) => doc_col h hi)
  clear h
  go_enter Try.func8, Try.ntmps8
  go_wp2_with (first
    | (refine step_store_ba rfl 23 (.tmp 3) (.tmp 6) rfl (w.heap.size + 2) 16 23 (fun _ => 0) (fun _ => 0) rfl rfl HS.out.var infoa ?_))
  go_loopw [4] (fun i wr => ∃ r : Nat, r ≤ 16 ∧ i = .int .i64 r ∧ Tri w wr f (upF (mxC f) r)) (fun i _ => 16 - (intOf i).toNat)
  case atStart => exact ⟨0, by omega, rfl, HS1.out.ext (upF_zero _)⟩
  case round =>
    obtain ⟨i, hr, rfl, hI⟩ := hrel
    have HI := hid hI
    clear hI
    by_cases hlt : i < 16
    · obtain ⟨q, hq⟩ : ∃ q, i / 4 = q := ⟨_, rfl⟩
      obtain ⟨c, hc⟩ : ∃ c, q * 4 = c := ⟨_, rfl⟩
      have hci : i - i % 4 = c := by omega
      have HT := hid (fun z => HI.out.drew.set i z)
      have HE := hid (fun (z : Nat) (hz : mxC f i = z) => upF_step (mxC f) hz)
      have HV := hid (HDC.out i hlt)
      have kd := HI.out.drew.var.cell hlt
      have kf := HI.out.drew.var.free i
      have k0 := HI.out.drew.arg.cell hlt
      have l0 := HF.out i hlt
      have e1 : (i : Int) / 4 = (q : Int) := by omega
      have w1 : IntKind.i64.wrap (q : Int) = q := by rw [IntKind.wrap_i64]; omega
      have e2 : (q : Int) * 4 = (c : Int) := by omega
      have w2 : IntKind.i64.wrap (c : Int) = c := by rw [IntKind.wrap_i64]; omega
      obtain ⟨s1, hs1⟩ : ∃ s, i + 1 = s := ⟨_, rfl⟩
      obtain ⟨t1, ht1⟩ : ∃ t, s1 % 4 = t := ⟨_, rfl⟩
      obtain ⟨a1, ha1⟩ : ∃ a, c + t1 = a := ⟨_, rfl⟩
      have hn1 : nb i 1 = a1 := by unfold nb; rw [hci, hs1, ht1, ha1]
      have m1 : a1 < 16 := by omega
      have k1 := HI.out.drew.arg.cell m1
      have l1 := HF.out _ m1
      have f1 : (i : Int) + 1 = (s1 : Int) := by omega
      have v1 : IntKind.i64.wrap (s1 : Int) = s1 := by rw [IntKind.wrap_i64]; omega
      have g1 : (s1 : Int) % 4 = (t1 : Int) := by omega
      have gt1 : (s1 : Int).tmod 4 = (t1 : Int) := by rw [Int.tmod_eq_emod_of_nonneg (Int.natCast_nonneg _)]; omega
      have u1 : IntKind.i64.wrap (t1 : Int) = t1 := by rw [IntKind.wrap_i64]; omega
      have j1 : (c : Int) + (t1 : Int) = (a1 : Int) := by omega
      have x1 : IntKind.i64.wrap (a1 : Int) = a1 := by rw [IntKind.wrap_i64]; omega
      have y1 : (a1 : Int) < 16 := by omega
      have z1 : (0 : Int) ≤ (a1 : Int) := by omega
      obtain ⟨s2, hs2⟩ : ∃ s, i + 2 = s := ⟨_, rfl⟩
      obtain ⟨t2, ht2⟩ : ∃ t, s2 % 4 = t := ⟨_, rfl⟩
      obtain ⟨a2, ha2⟩ : ∃ a, c + t2 = a := ⟨_, rfl⟩
      have hn2 : nb i 2 = a2 := by unfold nb; rw [hci, hs2, ht2, ha2]
      have m2 : a2 < 16 := by omega
      have k2 := HI.out.drew.arg.cell m2
      have l2 := HF.out _ m2
      have f2 : (i : Int) + 2 = (s2 : Int) := by omega
      have v2 : IntKind.i64.wrap (s2 : Int) = s2 := by rw [IntKind.wrap_i64]; omega
      have g2 : (s2 : Int) % 4 = (t2 : Int) := by omega
      have gt2 : (s2 : Int).tmod 4 = (t2 : Int) := by rw [Int.tmod_eq_emod_of_nonneg (Int.natCast_nonneg _)]; omega
      have u2 : IntKind.i64.wrap (t2 : Int) = t2 := by rw [IntKind.wrap_i64]; omega
      have j2 : (c : Int) + (t2 : Int) = (a2 : Int) := by omega
      have x2 : IntKind.i64.wrap (a2 : Int) = a2 := by rw [IntKind.wrap_i64]; omega
      have y2 : (a2 : Int) < 16 := by omega
      have z2 : (0 : Int) ≤ (a2 : Int) := by omega
      obtain ⟨s3, hs3⟩ : ∃ s, i + 3 = s := ⟨_, rfl⟩
      obtain ⟨t3, ht3⟩ : ∃ t, s3 % 4 = t := ⟨_, rfl⟩
      obtain ⟨a3, ha3⟩ : ∃ a, c + t3 = a := ⟨_, rfl⟩
      have hn3 : nb i 3 = a3 := by unfold nb; rw [hci, hs3, ht3, ha3]
      have m3 : a3 < 16 := by omega
      have k3 := HI.out.drew.arg.cell m3
      have l3 := HF.out _ m3
      have f3 : (i : Int) + 3 = (s3 : Int) := by omega
      have v3 : IntKind.i64.wrap (s3 : Int) = s3 := by rw [IntKind.wrap_i64]; omega
      have g3 : (s3 : Int) % 4 = (t3 : Int) := by omega
      have gt3 : (s3 : Int).tmod 4 = (t3 : Int) := by rw [Int.tmod_eq_emod_of_nonneg (Int.natCast_nonneg _)]; omega
      have u3 : IntKind.i64.wrap (t3 : Int) = t3 := by rw [IntKind.wrap_i64]; omega
      have j3 : (c : Int) + (t3 : Int) = (a3 : Int) := by omega
      have x3 : IntKind.i64.wrap (a3 : Int) = a3 := by rw [IntKind.wrap_i64]; omega
      have y3 : (a3 : Int) < 16 := by omega
      have z3 : (0 : Int) ≤ (a3 : Int) := by omega
      rw [hn1, hn2, hn3] at HV
      clear hq hc hci hs1 ht1 ha1 hn1 hs2 ht2 ha2 hn2 hs3 ht3 ha3 hn3
      have i0 : (0 : Int) ≤ (i : Int) := by omega
      have i1 : (i : Int) < 16 := by omega
      generalize hMX : mxC f i = M at HV HE
      have HM := hid hMX
      clear hMX
      generalize f i = p0 at *
      generalize f a1 = p1 at *
      generalize f a2 = p2 at *
      generalize f a3 = p3 at *
      generalize upF (mxC f) i = G at *
      have HC0 : Hid (∀ w, Calls Try.prog 25 #[.int .u8 2, .int .u8 (p0 : Int)] w fun e w' => e = .returned (.int .u8 (gm 2 p0 : Nat)) ∧ w' = w) := hid (fun w => refmul_any 2 p0 w (by decide) l0)
      have b0 : gm 2 p0 < 256 := gm_lt (by decide)
      have HC1 : Hid (∀ w, Calls Try.prog 25 #[.int .u8 3, .int .u8 (p1 : Int)] w fun e w' => e = .returned (.int .u8 (gm 3 p1 : Nat)) ∧ w' = w) := hid (fun w => refmul_any 3 p1 w (by decide) l1)
      have b1 : gm 3 p1 < 256 := gm_lt (by decide)
      have HR : Hid (bits .xor .u8 (bits .xor .u8 (bits .xor .u8 ((((gm 2 p0) : Nat) : Int)) (((gm 3 p1) : Nat) : Int)) ((p2 : Nat) : Int)) ((p3 : Nat) : Int) = ((M : Nat) : Int)) := hid (by rw [xor8 b0 b1, xor8 (xor_lt b0 b1) l2, xor8 (xor_lt (xor_lt b0 b1) l2) l3, HV.out])
      generalize gm 2 p0 = r0 at *
      generalize gm 3 p1 = r1 at *
      clear l0 l1 l2 l3 b0 b1 m1 m2 m3 HV
      go_wp2
      refine region_tail 31 (by kernel_rfl) (by kernel_rfl) ?_
      simp only [List.take_succ_cons, List.take_zero, List.drop_succ_cons, List.drop_zero]
      generalize wr.drew = w9 at *
      repeat still_step
      still_call (HC0.out _)
      repeat still_step
      still_call (HC1.out _)
      repeat still_step
      refine wpStill_nil ?_
      clear k0 k1 k2 k3
      go_wp2
      go_roundw
      case rel => exact ⟨i + 1, by omega, by go_num, by rw [HR.out]; exact (HT.out _).ext (HE.out _ rfl)⟩
      case measure => simp [intOf]; omega
    · obtain rfl : i = 16 := by omega
      have HD := hid (HI.out.ext (upF_all _))
      go_wp2_with (first
        | (refine step_load_ba rfl 23 _ rfl (w.heap.size + 2) 16 23 5 _ rfl HD.out.var Try.underlying23 infoa ?_)
        | (refine step_store_ba rfl 23 _ _ rfl (w.heap.size + 1) 16 23 (fun _ => 0) _ rfl rfl HD.out.out infoa ?_))
      exact ret_ba rfl rfl Try.underlying23 infoa rfl (HD.out.done _).1 ⟨rfl, (HD.out.done _).2⟩

set_option maxRecDepth 100000 in
set_option maxHeartbeats 3200000 in
theorem refbackColumns_any (f : Nat → Nat) (w : World) (h : B16 f) : Calls Try.prog 12 #[.agg (ba 16 f)] w fun e w' => e = .returned (.agg (ba 16 (mxB f))) ∧ Below w.heap.size w w' := by
  have HS := hid (Tri.start w f)
  have HS1 := hid (HS.out.row (fun _ => 0))
  have HF := hid h
  have HDC := hid (fun i (hi : i < 16) => doc_bcol h hi)
  clear h
  go_enter Try.func12, Try.ntmps12
  go_wp2_with (first
    | (refine step_store_ba rfl 23 (.tmp 3) (.tmp 6) rfl (w.heap.size + 2) 16 23 (fun _ => 0) (fun _ => 0) rfl rfl HS.out.var infoa ?_))
  go_loopw [4] (fun i wr => ∃ r : Nat, r ≤ 16 ∧ i = .int .i64 r ∧ Tri w wr f (upF (mxB f) r)) (fun i _ => 16 - (intOf i).toNat)
  case atStart => exact ⟨0, by omega, rfl, HS1.out.ext (upF_zero _)⟩
  case round =>
    obtain ⟨i, hr, rfl, hI⟩ := hrel
    have HI := hid hI
    clear hI
    by_cases hlt : i < 16
    · obtain ⟨q, hq⟩ : ∃ q, i / 4 = q := ⟨_, rfl⟩
      obtain ⟨c, hc⟩ : ∃ c, q * 4 = c := ⟨_, rfl⟩
      have hci : i - i % 4 = c := by omega
      have HT := hid (fun z => HI.out.drew.set i z)
      have HE := hid (fun (z : Nat) (hz : mxB f i = z) => upF_step (mxB f) hz)
      have HV := hid (HDC.out i hlt)
      have kd := HI.out.drew.var.cell hlt
      have kf := HI.out.drew.var.free i
      have k0 := HI.out.drew.arg.cell hlt
      have l0 := HF.out i hlt
      have e1 : (i : Int) / 4 = (q : Int) := by omega
      have w1 : IntKind.i64.wrap (q : Int) = q := by rw [IntKind.wrap_i64]; omega
      have e2 : (q : Int) * 4 = (c : Int) := by omega
      have w2 : IntKind.i64.wrap (c : Int) = c := by rw [IntKind.wrap_i64]; omega
      obtain ⟨s1, hs1⟩ : ∃ s, i + 1 = s := ⟨_, rfl⟩
      obtain ⟨t1, ht1⟩ : ∃ t, s1 % 4 = t := ⟨_, rfl⟩
      obtain ⟨a1, ha1⟩ : ∃ a, c + t1 = a := ⟨_, rfl⟩
      have hn1 : nb i 1 = a1 := by unfold nb; rw [hci, hs1, ht1, ha1]
      have m1 : a1 < 16 := by omega
      have k1 := HI.out.drew.arg.cell m1
      have l1 := HF.out _ m1
      have f1 : (i : Int) + 1 = (s1 : Int) := by omega
      have v1 : IntKind.i64.wrap (s1 : Int) = s1 := by rw [IntKind.wrap_i64]; omega
      have g1 : (s1 : Int) % 4 = (t1 : Int) := by omega
      have gt1 : (s1 : Int).tmod 4 = (t1 : Int) := by rw [Int.tmod_eq_emod_of_nonneg (Int.natCast_nonneg _)]; omega
      have u1 : IntKind.i64.wrap (t1 : Int) = t1 := by rw [IntKind.wrap_i64]; omega
      have j1 : (c : Int) + (t1 : Int) = (a1 : Int) := by omega
      have x1 : IntKind.i64.wrap (a1 : Int) = a1 := by rw [IntKind.wrap_i64]; omega
      have y1 : (a1 : Int) < 16 := by omega
      have z1 : (0 : Int) ≤ (a1 : Int) := by omega
      obtain ⟨s2, hs2⟩ : ∃ s, i + 2 = s := ⟨_, rfl⟩
      obtain ⟨t2, ht2⟩ : ∃ t, s2 % 4 = t := ⟨_, rfl⟩
      obtain ⟨a2, ha2⟩ : ∃ a, c + t2 = a := ⟨_, rfl⟩
      have hn2 : nb i 2 = a2 := by unfold nb; rw [hci, hs2, ht2, ha2]
      have m2 : a2 < 16 := by omega
      have k2 := HI.out.drew.arg.cell m2
      have l2 := HF.out _ m2
      have f2 : (i : Int) + 2 = (s2 : Int) := by omega
      have v2 : IntKind.i64.wrap (s2 : Int) = s2 := by rw [IntKind.wrap_i64]; omega
      have g2 : (s2 : Int) % 4 = (t2 : Int) := by omega
      have gt2 : (s2 : Int).tmod 4 = (t2 : Int) := by rw [Int.tmod_eq_emod_of_nonneg (Int.natCast_nonneg _)]; omega
      have u2 : IntKind.i64.wrap (t2 : Int) = t2 := by rw [IntKind.wrap_i64]; omega
      have j2 : (c : Int) + (t2 : Int) = (a2 : Int) := by omega
      have x2 : IntKind.i64.wrap (a2 : Int) = a2 := by rw [IntKind.wrap_i64]; omega
      have y2 : (a2 : Int) < 16 := by omega
      have z2 : (0 : Int) ≤ (a2 : Int) := by omega
      obtain ⟨s3, hs3⟩ : ∃ s, i + 3 = s := ⟨_, rfl⟩
      obtain ⟨t3, ht3⟩ : ∃ t, s3 % 4 = t := ⟨_, rfl⟩
      obtain ⟨a3, ha3⟩ : ∃ a, c + t3 = a := ⟨_, rfl⟩
      have hn3 : nb i 3 = a3 := by unfold nb; rw [hci, hs3, ht3, ha3]
      have m3 : a3 < 16 := by omega
      have k3 := HI.out.drew.arg.cell m3
      have l3 := HF.out _ m3
      have f3 : (i : Int) + 3 = (s3 : Int) := by omega
      have v3 : IntKind.i64.wrap (s3 : Int) = s3 := by rw [IntKind.wrap_i64]; omega
      have g3 : (s3 : Int) % 4 = (t3 : Int) := by omega
      have gt3 : (s3 : Int).tmod 4 = (t3 : Int) := by rw [Int.tmod_eq_emod_of_nonneg (Int.natCast_nonneg _)]; omega
      have u3 : IntKind.i64.wrap (t3 : Int) = t3 := by rw [IntKind.wrap_i64]; omega
      have j3 : (c : Int) + (t3 : Int) = (a3 : Int) := by omega
      have x3 : IntKind.i64.wrap (a3 : Int) = a3 := by rw [IntKind.wrap_i64]; omega
      have y3 : (a3 : Int) < 16 := by omega
      have z3 : (0 : Int) ≤ (a3 : Int) := by omega
      rw [hn1, hn2, hn3] at HV
      clear hq hc hci hs1 ht1 ha1 hn1 hs2 ht2 ha2 hn2 hs3 ht3 ha3 hn3
      have i0 : (0 : Int) ≤ (i : Int) := by omega
      have i1 : (i : Int) < 16 := by omega
      generalize hMX : mxB f i = M at HV HE
      have HM := hid hMX
      clear hMX
      generalize f i = p0 at *
      generalize f a1 = p1 at *
      generalize f a2 = p2 at *
      generalize f a3 = p3 at *
      generalize upF (mxB f) i = G at *
      have HC0 : Hid (∀ w, Calls Try.prog 25 #[.int .u8 14, .int .u8 (p0 : Int)] w fun e w' => e = .returned (.int .u8 (gm 14 p0 : Nat)) ∧ w' = w) := hid (fun w => refmul_any 14 p0 w (by decide) l0)
      have b0 : gm 14 p0 < 256 := gm_lt (by decide)
      have HC1 : Hid (∀ w, Calls Try.prog 25 #[.int .u8 11, .int .u8 (p1 : Int)] w fun e w' => e = .returned (.int .u8 (gm 11 p1 : Nat)) ∧ w' = w) := hid (fun w => refmul_any 11 p1 w (by decide) l1)
      have b1 : gm 11 p1 < 256 := gm_lt (by decide)
      have HC2 : Hid (∀ w, Calls Try.prog 25 #[.int .u8 13, .int .u8 (p2 : Int)] w fun e w' => e = .returned (.int .u8 (gm 13 p2 : Nat)) ∧ w' = w) := hid (fun w => refmul_any 13 p2 w (by decide) l2)
      have b2 : gm 13 p2 < 256 := gm_lt (by decide)
      have HC3 : Hid (∀ w, Calls Try.prog 25 #[.int .u8 9, .int .u8 (p3 : Int)] w fun e w' => e = .returned (.int .u8 (gm 9 p3 : Nat)) ∧ w' = w) := hid (fun w => refmul_any 9 p3 w (by decide) l3)
      have b3 : gm 9 p3 < 256 := gm_lt (by decide)
      have HR : Hid (bits .xor .u8 (bits .xor .u8 (bits .xor .u8 ((((gm 14 p0) : Nat) : Int)) (((gm 11 p1) : Nat) : Int)) (((gm 13 p2) : Nat) : Int)) (((gm 9 p3) : Nat) : Int) = ((M : Nat) : Int)) := hid (by rw [xor8 b0 b1, xor8 (xor_lt b0 b1) b2, xor8 (xor_lt (xor_lt b0 b1) b2) b3, HV.out])
      generalize gm 14 p0 = r0 at *
      generalize gm 11 p1 = r1 at *
      generalize gm 13 p2 = r2 at *
      generalize gm 9 p3 = r3 at *
      clear l0 l1 l2 l3 b0 b1 b2 b3 m1 m2 m3 HV
      go_wp2
      refine region_tail 33 (by kernel_rfl) (by kernel_rfl) ?_
      simp only [List.take_succ_cons, List.take_zero, List.drop_succ_cons, List.drop_zero]
      generalize wr.drew = w9 at *
      repeat still_step
      still_call (HC0.out _)
      repeat still_step
      still_call (HC1.out _)
      repeat still_step
      still_call (HC2.out _)
      repeat still_step
      still_call (HC3.out _)
      repeat still_step
      refine wpStill_nil ?_
      clear k0 k1 k2 k3
      go_wp2
      go_roundw
      case rel => exact ⟨i + 1, by omega, by go_num, by rw [HR.out]; exact (HT.out _).ext (HE.out _ rfl)⟩
      case measure => simp [intOf]; omega
    · obtain rfl : i = 16 := by omega
      have HD := hid (HI.out.ext (upF_all _))
      go_wp2_with (first
        | (refine step_load_ba rfl 23 _ rfl (w.heap.size + 2) 16 23 5 _ rfl HD.out.var Try.underlying23 infoa ?_)
        | (refine step_store_ba rfl 23 _ _ rfl (w.heap.size + 1) 16 23 (fun _ => 0) _ rfl rfl HD.out.out infoa ?_))
      exact ret_ba rfl rfl Try.underlying23 infoa rfl (HD.out.done _).1 ⟨rfl, (HD.out.done _).2⟩
end Go.Proofs.Ythkanhhpkaigoaa
