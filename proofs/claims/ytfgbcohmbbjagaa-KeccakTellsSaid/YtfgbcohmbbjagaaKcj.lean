import Derived.Test.YtfgbcohmbbjagaaKci
namespace Go.Proofs.Ytfgbcohmbbjagaa
open Go.RowKit

theorem and64w {a b : Nat} (ha : a < 2 ^ 64) (hb : b < 2 ^ 64) : bits .and .u64 (a : Int) (b : Int) = ((a &&& b : Nat) : Int) := by
  have h1 : (BitVec.ofInt 64 (a : Int)).toNat = a := by
    rw [BitVec.ofInt_natCast, BitVec.toNat_ofNat]; exact Nat.mod_eq_of_lt (by omega)
  have h2 : (BitVec.ofInt 64 (b : Int)).toNat = b := by
    rw [BitVec.ofInt_natCast, BitVec.toNat_ofNat]; exact Nat.mod_eq_of_lt (by omega)
  have hx : a &&& b < 2 ^ 64 := Nat.and_lt_two_pow _ hb
  show IntKind.u64.wrap ((BitVec.ofInt 64 (a : Int) &&& BitVec.ofInt 64 (b : Int)).toNat : Int) = _
  rw [BitVec.toNat_and, h1, h2, IntKind.wrap_u64]
  omega

/-! ### the document's theta -/
structure Q5 (f c : Nat → Nat) (w wr : World) : Prop where
  src : Aw wr w.heap.size 25 23 f
  out : Aw wr (w.heap.size + 1) 25 23 (fun _ => 0)
  sum : Aw wr (w.heap.size + 2) 5 39 c
  low : Below w.heap.size w wr
theorem Q5.start (f : Nat → Nat) (w : World) : Q5 f (fun _ => 0) w (((w.alloc (.cells (wa 25 f) 23)).alloc (.cells (wa 25 (fun _ => 0)) 23)).alloc (.cells (wa 5 (fun _ => 0)) 39)) := by
  have h := P0.start f w
  refine ⟨h.src.alloc _, h.out.alloc _, ?_, h.low.alloc (by simp; omega) _⟩
  have := Aw.new ((w.alloc (.cells (wa 25 f) 23)).alloc (.cells (wa 25 (fun _ => 0)) 23)) 5 39 (fun _ => 0)
  rw [World.size_alloc, World.size_alloc] at this
  exact this
theorem Q5.row {f c : Nat → Nat} {w wr : World} (h : Q5 f c w wr) (k : Nat → Nat) : Q5 f k w (wr.setRow (w.heap.size + 2) (wa 5 k)) :=
  ⟨h.src.rowApart (by omega) _, h.out.rowApart (by omega) _, h.sum.row k, below_setRow h.low (by omega) _⟩
theorem Q5.drew {f c : Nat → Nat} {w wr : World} (h : Q5 f c w wr) : Q5 f c w wr.drew := ⟨h.src.drew, h.out.drew, h.sum.drew, h.low.drew⟩
theorem Q5.summed {f : Nat → Nat} {w wr : World} {j m : Nat} (h : Q5 f (suN f j) w wr) (hm : j % 5 = m) {v : Int} {s q : Nat} (hs : suN f j (j % 5) = s) (hq : f j = q) (hv : v = ((s ^^^ q : Nat) : Int)) : Q5 f (suN f (j + 1)) w (wr.setCell ⟨w.heap.size + 2, m, none⟩ (.int .u64 v)) := by
  subst hv; subst hs; subst hq; subst hm
  exact ⟨h.src.apart (by simp) _, h.out.apart (by simp) _, h.sum.set (j % 5) _, h.low.setCell (by simp) _⟩
theorem Q5.mixed {f g c : Nat → Nat} {n : Nat} {w wr : World} (h : Q5 (mix n f g) c w wr) {v : Int} {z : Nat} (hv : v = (z : Int)) (hz : z = g n) : Q5 (mix (n + 1) f g) c w (wr.setCell ⟨w.heap.size, n, none⟩ (.int .u64 v)) := by
  subst hv
  rw [← mix_step n f g hz]
  exact ⟨h.src.set n z, h.out.apart (by simp) _, h.sum.apart (by simp) _, h.low.setCell (by simp) _⟩

set_option maxRecDepth 100000 in
set_option maxHeartbeats 1600000 in
theorem reftheta_any (f : Nat → Nat) (w : World) (hf : W25 f) :
    Calls Try.prog 11 #[.agg (wa 25 f)] w fun e w' => e = .returned (.agg (wa 25 (th f))) ∧ Below w.heap.size w w' := by
  have HS : Hid (Q5 f (fun _ => 0) w ((((w.alloc (.cells (wa 25 f) 23)).alloc (.cells (wa 25 (fun _ => 0)) 23)).alloc (.cells (wa 5 (fun _ => 0)) 39)).setRow (w.heap.size + 2) (wa 5 (fun _ => 0)))) := hid ((Q5.start f w).row _)
  have HZ := hid (Q5.start f w)
  have HF := hid hf
  have HU := hid (fun j h x => suN_lt hf j h x)
  have HA := hid (suN_all f)
  have HW := hid (co_w hf)
  have HG : Hid (∀ i, th f i = f i ^^^ (co f ((i % 5 + 4 * 1) % 5) ^^^ rt (co f ((i % 5 + 1) % 5)) (1 % 64))) := hid (fun _ => rfl)
  generalize th f = g at *
  clear hf
  go_enter Try.func11, Try.ntmps11
  go_wp2_with (first
    | (refine step_store_wa rfl 39 _ _ rfl (w.heap.size + 2) 5 39 _ (fun _ => 0) rfl rfl HZ.out.sum info39 ?_))
  go_loopw [4] (fun i wr => ∃ j : Nat, j ≤ 25 ∧ i = .int .i64 j ∧ Q5 f (suN f j) w wr) (fun i _ => 25 - (intOf i).toNat)
  case atStart => exact ⟨0, by omega, rfl, HS.out⟩
  case round =>
    obtain ⟨j, hj, rfl, hI⟩ := hrel
    have HI := hid hI
    clear hI
    by_cases hlt : j < 25
    · obtain ⟨m, hm⟩ : ∃ m, j % 5 = m := ⟨_, rfl⟩
      have e1 : (j : Int).tmod 5 = (m : Int) := by rw [Int.tmod_eq_emod_of_nonneg (by omega)]; omega
      have m5 : m < 5 := by omega
      have c1 := HI.out.drew.sum.cell m5
      have hfr := HI.out.drew.sum.free m
      have c2 := HI.out.drew.src.cell hlt
      have HX := hid (x64 (HU.out j (by omega) m) (HF.out j hlt))
      have HT := hid (fun v hv => HI.out.drew.summed (v := v) (s := suN f j m) hm (by rw [hm]) rfl hv)
      generalize suN f j m = s at *
      generalize f j = q at *
      clear hm
      have n1 : (m : Int) < 5 := by omega
      have p1 : (0 : Int) ≤ (m : Int) := by omega
      have n2 : (j : Int) < 25 := by omega
      have p2 : (0 : Int) ≤ (j : Int) := by omega
      go_wp2
      refine region_tail 11 (by kernel_rfl) (by kernel_rfl) ?_
      simp only [List.take_succ_cons, List.take_zero, List.drop_succ_cons, List.drop_zero]
      generalize wr.drew = w2 at *
      repeat still_step
      refine wpStill_nil ?_
      go_wp2
      go_roundw
      case rel => exact ⟨j + 1, by omega, by go_num, HT.out _ HX.out⟩
      case measure => simp [intOf]; omega
    · obtain rfl : j = 25 := by omega
      have HI1 : Hid (Q5 (mix 0 f g) (co f) w wr) := hid (by rw [mix_zero]; exact ⟨HI.out.src, HI.out.out, HI.out.sum.ext HA.out, HI.out.low⟩)
      generalize co f = c at *
      clear HI HA HU
      rw [show ((25 : Nat) : Int) = 25 from rfl]
      go_wp2
      go_loopw [5] (fun i wr => ∃ n : Nat, n ≤ 25 ∧ i = .int .i64 n ∧ Q5 (mix n f g) c w wr) (fun i _ => 25 - (intOf i).toNat)
      case atStart => exact ⟨0, by omega, rfl, HI1.out⟩
      case round =>
        obtain ⟨n, hn, rfl, hI⟩ := hrel
        have HI2 := hid hI
        clear hI
        by_cases hltn : n < 25
        · obtain ⟨a4, ha4⟩ : ∃ m, n + 4 = m := ⟨_, rfl⟩
          obtain ⟨a1, ha1⟩ : ∃ m, n + 1 = m := ⟨_, rfl⟩
          obtain ⟨m4, hm4⟩ : ∃ m, (n % 5 + 4 * 1) % 5 = m := ⟨_, rfl⟩
          obtain ⟨m1, hm1⟩ : ∃ m, (n % 5 + 1) % 5 = m := ⟨_, rfl⟩
          have e1 : IntKind.i64.wrap ((n : Int) + 4) = (a4 : Int) := by rw [IntKind.wrap_i64]; omega
          have e2 : IntKind.i64.wrap ((n : Int) + 1) = (a1 : Int) := by rw [IntKind.wrap_i64]; omega
          have e3 : (a4 : Int).tmod 5 = (m4 : Int) := by rw [Int.tmod_eq_emod_of_nonneg (by omega)]; omega
          have e4 : (a1 : Int).tmod 5 = (m1 : Int) := by rw [Int.tmod_eq_emod_of_nonneg (by omega)]; omega
          have l4 : m4 < 5 := by omega
          have l1 : m1 < 5 := by omega
          have c1 := HI2.out.drew.sum.cell l4
          have c2 := HI2.out.drew.sum.cell l1
          have c3 := HI2.out.drew.src.cell hltn
          rw [mix_here] at c3
          have hfr := HI2.out.drew.src.free n
          have HGn := hid (HG.out n)
          rw [hm4, hm1] at HGn
          have b1 := HW.out m1 l1
          have b4 := HW.out m4 l4
          have b0 := HF.out n hltn
          have HR := hid (fun w => refrot_to (m := 1) (k := 1) b1 (by omega) w)
          have HX : Hid (bits .xor .u64 (bits .xor .u64 (f n : Int) (c m4 : Int)) (rt (c m1) 1 : Nat) = ((f n ^^^ (c m4 ^^^ rt (c m1) (1 % 64)) : Nat) : Int)) := hid (by
            rw [x64 b0 b4, x64 (Nat.xor_lt_two_pow b0 b4) (rt_lt b1), Nat.xor_assoc])
          have HT := hid (fun v z hv hz => HI2.out.drew.mixed (v := v) (z := z) hv hz)
          generalize rt (c m1) (1 % 64) = r2 at *
          generalize rt (c m1) 1 = r at *
          generalize f n = s0 at *
          generalize c m4 = s4 at *
          generalize c m1 = s1 at *
          have HA1 : Hid (a1 = n + 1) := hid ha1.symm
          have n1 : (m1 : Int) < 5 := by omega
          have n4 : (m4 : Int) < 5 := by omega
          have n0 : (n : Int) < 25 := by omega
          have p1 : (0 : Int) ≤ (m1 : Int) := by omega
          have p4 : (0 : Int) ≤ (m4 : Int) := by omega
          have p0 : (0 : Int) ≤ (n : Int) := by omega
          clear hm4 hm1 ha4 ha1
          go_wp2
          refine region_tail 18 (by kernel_rfl) (by kernel_rfl) ?_
          simp only [List.take_succ_cons, List.take_zero, List.drop_succ_cons, List.drop_zero]
          generalize wr.drew = w2 at *
          repeat still_step
          still_call (HR.out _)
          repeat still_step
          refine wpStill_nil ?_
          go_wp2
          go_roundw
          case rel => exact ⟨a1, by have := HA1.out; omega, rfl, by rw [HA1.out]; exact HT.out _ _ HX.out HGn.out.symm⟩
          case measure => have := HA1.out; simp [intOf]; omega
        · obtain rfl : n = 25 := by omega
          have HM := hid HI2.out.src
          have HN := hid HI2.out.out
          go_wp2_with (first
            | (refine step_load_wa rfl 23 _ rfl w.heap.size 25 23 22 _ rfl HM.out Try.underlying23 info23 ?_)
            | (refine step_store_wa rfl 23 _ _ rfl (w.heap.size + 1) 25 23 _ _ rfl rfl HN.out info23 ?_))
          refine ret_wa rfl rfl Try.underlying23 info23 rfl (HI2.out.out.row _) ⟨?_, below_setRow HI2.out.low (by omega) _⟩
          rw [wa_ext (mix_all (Nat.le_refl 25))]
end Go.Proofs.Ytfgbcohmbbjagaa
