import Derived.Test.YthcjgjhoifnpjaaKec
import Derived.Test.YthcjgjhoifnpjaaOvl
set_option maxRecDepth 100000
namespace Go.Proofs.Ythcjgjhoifnpjaa
open Go.RowKit

theorem and64w {a b : Nat} (ha : a < 2 ^ 64) (hb : b < 2 ^ 64) : bits .and .u64 (a : Int) (b : Int) = ((a &&& b : Nat) : Int) := by
  have h1 : (BitVec.ofInt 64 (a : Int)).toNat = a := by
    rw [BitVec.ofInt_natCast, BitVec.toNat_ofNat]; exact Nat.mod_eq_of_lt (by omega)
  have h2 : (BitVec.ofInt 64 (b : Int)).toNat = b := by
    rw [BitVec.ofInt_natCast, BitVec.toNat_ofNat]; exact Nat.mod_eq_of_lt (by omega)
  have hx : a &&& b < 2 ^ 64 := Nat.and_lt_two_pow _ hb
  show IntKind.u64.wrap ((BitVec.ofInt 64 (a : Int) &&& BitVec.ofInt 64 (b : Int)).toNat : Int) = _
  rw [BitVec.toNat_and, h1, h2, IntKind.wrap_u64]
  omega

/-! ### the document's theta -/
structure Q5 (f c : Nat → Nat) (w wr : World) : Prop where
  src : Aw wr w.heap.size 25 54 f
  out : Aw wr (w.heap.size + 1) 25 54 (fun _ => 0)
  sum : Aw wr (w.heap.size + 2) 5 80 c
  low : Below w.heap.size w wr
theorem Q5.start (f : Nat → Nat) (w : World) : Q5 f (fun _ => 0) w (((w.alloc (.cells (wa 25 f) 54)).alloc (.cells (wa 25 (fun _ => 0)) 54)).alloc (.cells (wa 5 (fun _ => 0)) 80)) := by
  have h := P0.start f w
  refine ⟨h.src.alloc _, h.out.alloc _, ?_, h.low.alloc (by simp; omega) _⟩
  have := Aw.new ((w.alloc (.cells (wa 25 f) 54)).alloc (.cells (wa 25 (fun _ => 0)) 54)) 5 80 (fun _ => 0)
  rw [World.size_alloc, World.size_alloc] at this
  exact this
theorem Q5.row {f c : Nat → Nat} {w wr : World} (h : Q5 f c w wr) (k : Nat → Nat) : Q5 f k w (wr.setRow (w.heap.size + 2) (wa 5 k)) :=
  ⟨h.src.rowApart (by omega) _, h.out.rowApart (by omega) _, h.sum.row k, below_setRow h.low (by omega) _⟩
theorem Q5.drew {f c : Nat → Nat} {w wr : World} (h : Q5 f c w wr) : Q5 f c w wr.drew := ⟨h.src.drew, h.out.drew, h.sum.drew, h.low.drew⟩
theorem Q5.summed {f : Nat → Nat} {w wr : World} {j m : Nat} (h : Q5 f (suN f j) w wr) (hm : j % 5 = m) {v : Int} {s q : Nat} (hs : suN f j (j % 5) = s) (hq : f j = q) (hv : v = ((s ^^^ q : Nat) : Int)) : Q5 f (suN f (j + 1)) w (wr.setCell ⟨w.heap.size + 2, m, none⟩ (.int .u64 v)) := by
  subst hv; subst hs; subst hq; subst hm
  exact ⟨h.src.apart (by simp) _, h.out.apart (by simp) _, h.sum.set (j % 5) _, h.low.setCell (by simp) _⟩
theorem Q5.mixed {f g c : Nat → Nat} {n : Nat} {w wr : World} (h : Q5 (mix n f g) c w wr) {v : Int} {z : Nat} (hv : v = (z : Int)) (hz : z = g n) : Q5 (mix (n + 1) f g) c w (wr.setCell ⟨w.heap.size, n, none⟩ (.int .u64 v)) := by
  subst hv
  rw [← mix_step n f g hz]
  exact ⟨h.src.set n z, h.out.apart (by simp) _, h.sum.apart (by simp) _, h.low.setCell (by simp) _⟩

set_option maxRecDepth 100000 in
set_option maxHeartbeats 1600000 in
theorem kreftheta_any (f : Nat → Nat) (w : World) (hf : W25 f) :
    Calls Try.prog 52 #[.agg (wa 25 f)] w fun e w' => e = .returned (.agg (wa 25 (th f))) ∧ Below w.heap.size w w' := by
  have HS : Hid (Q5 f (fun _ => 0) w ((((w.alloc (.cells (wa 25 f) 54)).alloc (.cells (wa 25 (fun _ => 0)) 54)).alloc (.cells (wa 5 (fun _ => 0)) 80)).setRow (w.heap.size + 2) (wa 5 (fun _ => 0)))) := hid ((Q5.start f w).row _)
  have HZ := hid (Q5.start f w)
  have HF := hid hf
  have HU := hid (fun j h x => suN_lt hf j h x)
  have HA := hid (suN_all f)
  have HW := hid (co_w hf)
  have HG : Hid (∀ i, th f i = f i ^^^ (co f ((i % 5 + 4 * 1) % 5) ^^^ rt (co f ((i % 5 + 1) % 5)) (1 % 64))) := hid (fun _ => rfl)
  generalize th f = g at *
  clear hf
  go_enter Try.func52, Try.ntmps52
  go_wp2_with (first
    | (refine step_store_wa rfl 80 _ _ rfl (w.heap.size + 2) 5 80 _ (fun _ => 0) rfl rfl HZ.out.sum kinf5 ?_))
  go_loopw [4] (fun i wr => ∃ j : Nat, j ≤ 25 ∧ i = .int .i64 j ∧ Q5 f (suN f j) w wr) (fun i _ => 25 - (intOf i).toNat)
  case atStart => exact ⟨0, by omega, rfl, HS.out⟩
  case round =>
    obtain ⟨j, hj, rfl, hI⟩ := hrel
    have HI := hid hI
    clear hI
    by_cases hlt : j < 25
    · obtain ⟨m, hm⟩ : ∃ m, j % 5 = m := ⟨_, rfl⟩
      have e1 : (j : Int).tmod 5 = (m : Int) := by rw [Int.tmod_eq_emod_of_nonneg (by omega)]; omega
      have m5 : m < 5 := by omega
      have c1 := HI.out.drew.sum.cell m5
      have hfr := HI.out.drew.sum.free m
      have c2 := HI.out.drew.src.cell hlt
      have HX := hid (x64 (HU.out j (by omega) m) (HF.out j hlt))
      have HT := hid (fun v hv => HI.out.drew.summed (v := v) (s := suN f j m) hm (by rw [hm]) rfl hv)
      generalize suN f j m = s at *
      generalize f j = q at *
      clear hm
      have n1 : (m : Int) < 5 := by omega
      have p1 : (0 : Int) ≤ (m : Int) := by omega
      have n2 : (j : Int) < 25 := by omega
      have p2 : (0 : Int) ≤ (j : Int) := by omega
      go_wp2
      refine region_tail 11 (by kernel_rfl) (by kernel_rfl) ?_
      simp only [List.take_succ_cons, List.take_zero, List.drop_succ_cons, List.drop_zero]
      generalize wr.drew = w2 at *
      repeat still_step
      refine wpStill_nil ?_
      go_wp2
      go_roundw
      case rel => exact ⟨j + 1, by omega, by go_num, HT.out _ HX.out⟩
      case measure => simp [intOf]; omega
    · obtain rfl : j = 25 := by omega
      have HI1 : Hid (Q5 (mix 0 f g) (co f) w wr) := hid (by rw [mix_zero]; exact ⟨HI.out.src, HI.out.out, HI.out.sum.ext HA.out, HI.out.low⟩)
      generalize co f = c at *
      clear HI HA HU
      rw [show ((25 : Nat) : Int) = 25 from rfl]
      go_wp2
      go_loopw [5] (fun i wr => ∃ n : Nat, n ≤ 25 ∧ i = .int .i64 n ∧ Q5 (mix n f g) c w wr) (fun i _ => 25 - (intOf i).toNat)
      case atStart => exact ⟨0, by omega, rfl, HI1.out⟩
      case round =>
        obtain ⟨n, hn, rfl, hI⟩ := hrel
        have HI2 := hid hI
        clear hI
        by_cases hltn : n < 25
        · obtain ⟨a4, ha4⟩ : ∃ m, n + 4 = m := ⟨_, rfl⟩
          obtain ⟨a1, ha1⟩ : ∃ m, n + 1 = m := ⟨_, rfl⟩
          obtain ⟨m4, hm4⟩ : ∃ m, (n % 5 + 4 * 1) % 5 = m := ⟨_, rfl⟩
          obtain ⟨m1, hm1⟩ : ∃ m, (n % 5 + 1) % 5 = m := ⟨_, rfl⟩
          have e1 : IntKind.i64.wrap ((n : Int) + 4) = (a4 : Int) := by rw [IntKind.wrap_i64]; omega
          have e2 : IntKind.i64.wrap ((n : Int) + 1) = (a1 : Int) := by rw [IntKind.wrap_i64]; omega
          have e3 : (a4 : Int).tmod 5 = (m4 : Int) := by rw [Int.tmod_eq_emod_of_nonneg (by omega)]; omega
          have e4 : (a1 : Int).tmod 5 = (m1 : Int) := by rw [Int.tmod_eq_emod_of_nonneg (by omega)]; omega
          have l4 : m4 < 5 := by omega
          have l1 : m1 < 5 := by omega
          have c1 := HI2.out.drew.sum.cell l4
          have c2 := HI2.out.drew.sum.cell l1
          have c3 := HI2.out.drew.src.cell hltn
          rw [mix_here] at c3
          have hfr := HI2.out.drew.src.free n
          have HGn := hid (HG.out n)
          rw [hm4, hm1] at HGn
          have b1 := HW.out m1 l1
          have b4 := HW.out m4 l4
          have b0 := HF.out n hltn
          have HR := hid (fun w => refrot_to (m := 1) (k := 1) b1 (by omega) w)
          have HX : Hid (bits .xor .u64 (bits .xor .u64 (f n : Int) (c m4 : Int)) (rt (c m1) 1 : Nat) = ((f n ^^^ (c m4 ^^^ rt (c m1) (1 % 64)) : Nat) : Int)) := hid (by
            rw [x64 b0 b4, x64 (Nat.xor_lt_two_pow b0 b4) (rt_lt b1), Nat.xor_assoc])
          have HT := hid (fun v z hv hz => HI2.out.drew.mixed (v := v) (z := z) hv hz)
          generalize rt (c m1) (1 % 64) = r2 at *
          generalize rt (c m1) 1 = r at *
          generalize f n = s0 at *
          generalize c m4 = s4 at *
          generalize c m1 = s1 at *
          have HA1 : Hid (a1 = n + 1) := hid ha1.symm
          have n1 : (m1 : Int) < 5 := by omega
          have n4 : (m4 : Int) < 5 := by omega
          have n0 : (n : Int) < 25 := by omega
          have p1 : (0 : Int) ≤ (m1 : Int) := by omega
          have p4 : (0 : Int) ≤ (m4 : Int) := by omega
          have p0 : (0 : Int) ≤ (n : Int) := by omega
          clear hm4 hm1 ha4 ha1
          go_wp2
          refine region_tail 18 (by kernel_rfl) (by kernel_rfl) ?_
          simp only [List.take_succ_cons, List.take_zero, List.drop_succ_cons, List.drop_zero]
          generalize wr.drew = w2 at *
          repeat still_step
          still_call (HR.out _)
          repeat still_step
          refine wpStill_nil ?_
          go_wp2
          go_roundw
          case rel => exact ⟨a1, by have := HA1.out; omega, rfl, by rw [HA1.out]; exact HT.out _ _ HX.out HGn.out.symm⟩
          case measure => have := HA1.out; simp [intOf]; omega
        · obtain rfl : n = 25 := by omega
          have HM := hid HI2.out.src
          have HN := hid HI2.out.out
          go_wp2_with (first
            | (refine step_load_wa rfl 54 _ rfl w.heap.size 25 54 53 _ rfl HM.out Try.underlying54 kinf25 ?_)
            | (refine step_store_wa rfl 54 _ _ rfl (w.heap.size + 1) 25 54 _ _ rfl rfl HN.out kinf25 ?_))
          refine ret_wa rfl rfl Try.underlying54 kinf25 rfl (HI2.out.out.row _) ⟨?_, below_setRow HI2.out.low (by omega) _⟩
          rw [wa_ext (mix_all (Nat.le_refl 25))]
end Go.Proofs.Ythcjgjhoifnpjaa

namespace Go.Proofs.Ythcjgjhoifnpjaa
open Go.RowKit

/-! ### the document's move -/
theorem dst_at (x y : Nat) (hx : x < 5) : dst (x + 5 * y) = y + 5 * ((2 * x + 3 * y) % 5) := dst_xy hx

set_option maxRecDepth 100000 in
set_option maxHeartbeats 3200000 in
theorem krefmove_any (f : Nat → Nat) (w : World) (hf : W25 f) :
    Calls Try.prog 51 #[.agg (wa 25 f)] w fun e w' => e = .returned (.agg (wa 25 (mo tun f))) ∧ Below w.heap.size w w' := by
  have HS : Hid (V3 f (fun _ => 0) w ((((w.alloc (.cells (wa 25 f) 54)).alloc (.cells (wa 25 (fun _ => 0)) 54)).alloc (.cells (wa 25 (fun _ => 0)) 54)).setRow (w.heap.size + 2) (wa 25 (fun _ => 0)))) := hid ((V3.start f (fun _ => 0) w).row _)
  have HZ := hid (V3.start f (fun _ => 0) w)
  have HF := hid hf
  have HT := hid tun_lt
  have HG := hid (fun n h => mo_at tun f (n := n) h)
  have HD := hid (fun n h => (src_dst n h).2.1)
  have HA := hid srd_at
  have HQ := hid (fun x y hx hy => tq_in (x := x) (y := y) hx hy)
  generalize mo tun f = g at *
  generalize tun = t at *
  clear hf
  go_enter Try.func51, Try.ntmps51
  go_wp2_with (first
    | (refine step_store_wa rfl 54 _ _ rfl (w.heap.size + 2) 25 54 _ (fun _ => 0) rfl rfl HZ.out.var kinf25 ?_))
  go_loopw [4] (fun i wr => ∃ x : Nat, x ≤ 5 ∧ i = .int .i64 x ∧ V3 f (mip srd (5 * x) (fun _ => 0) g) w wr) (fun i _ => 5 - (intOf i).toNat)
  case atStart => exact ⟨0, by omega, rfl, by rw [mip_zero]; exact HS.out⟩
  case round =>
    obtain ⟨x, hx, rfl, hI⟩ := hrel
    have HI := hid hI
    clear hI
    by_cases hlt : x < 5
    · obtain ⟨wz, rfl⟩ : ∃ wz, wz = wr := ⟨_, rfl⟩
      have hlt8 : (x : Int) < 5 := by omega
      go_wp2
      go_loopw [5] (fun i wr => ∃ y : Nat, y ≤ 5 ∧ i = .int .i64 y ∧ V3 f (mip srd (5 * x + y) (fun _ => 0) g) w wr) (fun i _ => 5 - (intOf i).toNat)
      case atStart => exact ⟨0, by omega, rfl, HI.out⟩
      case round =>
        obtain ⟨y, hy, rfl, hI⟩ := hrel
        have HI2 := hid hI
        clear hI
        by_cases hlty : y < 5
        · obtain ⟨n, hn⟩ : ∃ n, x + 5 * y = n := ⟨_, rfl⟩
          obtain ⟨a, ha⟩ : ∃ n, 2 * x = n := ⟨_, rfl⟩
          obtain ⟨b, hb⟩ : ∃ n, 3 * y = n := ⟨_, rfl⟩
          obtain ⟨c, hc⟩ : ∃ n, a + b = n := ⟨_, rfl⟩
          obtain ⟨r, hr⟩ : ∃ n, c % 5 = n := ⟨_, rfl⟩
          obtain ⟨q, hq⟩ : ∃ n, 5 * r = n := ⟨_, rfl⟩
          obtain ⟨d, hd⟩ : ∃ n, y + q = n := ⟨_, rfl⟩
          obtain ⟨y5, hy5⟩ : ∃ n, 5 * y = n := ⟨_, rfl⟩
          obtain ⟨y1, hy1⟩ : ∃ n, y + 1 = n := ⟨_, rfl⟩
          have q0 : n < 25 := by omega
          have hdn : dst n = d := by rw [← hn, dst_xy hlt, ← hd, ← hq, ← hr, ← hc, ← ha, ← hb]
          have qd : d < 25 := by rw [← hdn]; exact HD.out n q0
          have e1 : IntKind.i64.wrap (2 * (x : Int)) = (a : Int) := by rw [IntKind.wrap_i64]; omega
          have e2 : IntKind.i64.wrap (3 * (y : Int)) = (b : Int) := by rw [IntKind.wrap_i64]; omega
          have e3 : IntKind.i64.wrap ((a : Int) + (b : Int)) = (c : Int) := by rw [IntKind.wrap_i64]; omega
          have e4 : (c : Int).tmod 5 = (r : Int) := by rw [Int.tmod_eq_emod_of_nonneg (by omega)]; omega
          have e5 : IntKind.i64.wrap (5 * (r : Int)) = (q : Int) := by rw [IntKind.wrap_i64]; omega
          have e6 : IntKind.i64.wrap ((y : Int) + (q : Int)) = (d : Int) := by rw [IntKind.wrap_i64]; omega
          have e7 : IntKind.i64.wrap (5 * (y : Int)) = (y5 : Int) := by rw [IntKind.wrap_i64]; omega
          have e8 : IntKind.i64.wrap ((x : Int) + (y5 : Int)) = (n : Int) := by rw [IntKind.wrap_i64]; omega
          have HI3 := HI2.out.drew
          have c1 := HI3.src.cell q0
          have c2 := HI3.var.cell qd
          have hfr := HI3.var.free d
          have b0 := HF.out n q0
          have ht := HT.out n q0
          have HR := hid (fun w => refrot_to (m := t n) (k := (t n : Int)) b0 (by omega) w)
          have HP : Hid (∀ w, Calls Try.prog 63 #[.int .i64 (x : Int), .int .i64 (y : Int)] w fun e w' => e = .returned (.int .i64 (t n : Nat)) ∧ w' = w) := hid (fun w => by
            have := krefturn_any x y w
            rwa [HQ.out x y hlt hlty, hn] at this)
          have HGn := hid (HG.out n q0)
          rw [hdn] at HGn
          have hAt : ∀ i, i < 25 → (srd i = 5 * x + y ↔ i = d) := fun i hi => by
            have := HA.out x hlt y hlty i hi
            rwa [hn, hdn] at this
          have HU := hid (fun v z hv hz => HI3.mixed_at (v := v) (z := z) hAt hv hz)
          generalize rt (f n) (t n) = rr at *
          generalize f n = s0 at *
          generalize t n = tn at *
          generalize mip srd (5 * x + y) (fun _ => 0) g d = z0 at *
          have n0 : (n : Int) < 25 := by omega
          have n1 : (d : Int) < 25 := by omega
          have p0 : (0 : Int) ≤ (n : Int) := by omega
          have p1 : (0 : Int) ≤ (d : Int) := by omega
          clear hn ha hb hc hr hq hd hy5 hdn HI3 hAt
          go_wp2
          refine region_tail 20 (by kernel_rfl) (by kernel_rfl) ?_
          simp only [List.take_succ_cons, List.take_zero, List.drop_succ_cons, List.drop_zero]
          generalize wr.drew = w2 at *
          repeat still_step
          still_call (HP.out _)
          repeat still_step
          still_call (HR.out _)
          repeat still_step
          refine wpStill_nil ?_
          go_wp2
          go_roundw
          case rel => exact ⟨y + 1, by omega, by go_num, HU.out _ _ rfl HGn.out.symm⟩
          case measure => simp [intOf]; omega
        · obtain rfl : y = 5 := by omega
          go_wp2
          go_roundw
          case rel => exact ⟨x + 1, by omega, by go_num, HI2.out⟩
          case measure => simp [intOf]; omega
    · obtain rfl : x = 5 := by omega
      have HM := hid HI.out.var
      have HN := hid HI.out.out
      go_wp2_with (first
        | (refine step_load_wa rfl 54 _ rfl (w.heap.size + 2) 25 54 53 _ rfl HM.out Try.underlying54 kinf25 ?_)
        | (refine step_store_wa rfl 54 _ _ rfl (w.heap.size + 1) 25 54 _ _ rfl rfl HN.out kinf25 ?_))
      refine ret_wa rfl rfl Try.underlying54 kinf25 rfl (HI.out.out.row _) ⟨?_, below_setRow HI.out.low (by omega) _⟩
      rw [wa_ext (mip_all srd_lt)]
end Go.Proofs.Ythcjgjhoifnpjaa

namespace Go.Proofs.Ythcjgjhoifnpjaa
open Go.RowKit

/-! ### the document's chi -/
set_option maxRecDepth 100000 in
set_option maxHeartbeats 3200000 in
theorem krefchi_any (f : Nat → Nat) (w : World) (hf : W25 f) :
    Calls Try.prog 50 #[.agg (wa 25 f)] w fun e w' => e = .returned (.agg (wa 25 (ch f))) ∧ Below w.heap.size w w' := by
  have HS : Hid (V3 f (fun _ => 0) w ((((w.alloc (.cells (wa 25 f) 54)).alloc (.cells (wa 25 (fun _ => 0)) 54)).alloc (.cells (wa 25 (fun _ => 0)) 54)).setRow (w.heap.size + 2) (wa 25 (fun _ => 0)))) := hid ((V3.start f (fun _ => 0) w).row _)
  have HZ := hid (V3.start f (fun _ => 0) w)
  have HF := hid hf
  have HG : Hid (∀ i, ch f i = f i ^^^ f (i / 5 * 5 + (i + 2) % 5) ^^^ (f (i / 5 * 5 + (i + 2) % 5) &&& f (i / 5 * 5 + (i + 1) % 5))) := hid (fun _ => rfl)
  generalize ch f = g at *
  clear hf
  go_enter Try.func50, Try.ntmps50
  go_wp2_with (first
    | (refine step_store_wa rfl 54 _ _ rfl (w.heap.size + 2) 25 54 _ (fun _ => 0) rfl rfl HZ.out.var kinf25 ?_))
  go_loopw [4] (fun i wr => ∃ n : Nat, n ≤ 25 ∧ i = .int .i64 n ∧ V3 f (mix n (fun _ => 0) g) w wr) (fun i _ => 25 - (intOf i).toNat)
  case atStart => exact ⟨0, by omega, rfl, by rw [mix_zero]; exact HS.out⟩
  case round =>
    obtain ⟨n, hn, rfl, hI⟩ := hrel
    have HI := hid hI
    clear hI
    by_cases hlt : n < 25
    · obtain ⟨y, hy⟩ : ∃ m, n / 5 * 5 = m := ⟨_, rfl⟩
      obtain ⟨a1, ha1⟩ : ∃ m, n + 1 = m := ⟨_, rfl⟩
      obtain ⟨a2, ha2⟩ : ∃ m, n + 2 = m := ⟨_, rfl⟩
      obtain ⟨r1, hr1⟩ : ∃ m, (n + 1) % 5 = m := ⟨_, rfl⟩
      obtain ⟨r2, hr2⟩ : ∃ m, (n + 2) % 5 = m := ⟨_, rfl⟩
      obtain ⟨n1, hn1⟩ : ∃ m, y + r1 = m := ⟨_, rfl⟩
      obtain ⟨n2, hn2⟩ : ∃ m, y + r2 = m := ⟨_, rfl⟩
      have e0 : (n : Int) / 5 * 5 = (y : Int) := by omega
      have e1 : IntKind.i64.wrap ((n : Int) + 1) = (a1 : Int) := by rw [IntKind.wrap_i64]; omega
      have e2 : IntKind.i64.wrap ((n : Int) + 2) = (a2 : Int) := by rw [IntKind.wrap_i64]; omega
      have e3 : (a1 : Int).tmod 5 = (r1 : Int) := by rw [Int.tmod_eq_emod_of_nonneg (by omega)]; omega
      have e4 : (a2 : Int).tmod 5 = (r2 : Int) := by rw [Int.tmod_eq_emod_of_nonneg (by omega)]; omega
      have e5 : IntKind.i64.wrap ((y : Int) + (r1 : Int)) = (n1 : Int) := by rw [IntKind.wrap_i64]; omega
      have e6 : IntKind.i64.wrap ((y : Int) + (r2 : Int)) = (n2 : Int) := by rw [IntKind.wrap_i64]; omega
      have q1 : n1 < 25 := by omega
      have q2 : n2 < 25 := by omega
      have HI3 := HI.out.drew
      have c0 := HI3.src.cell hlt
      have c1 := HI3.src.cell q1
      have c2 := HI3.src.cell q2
      have c3 := HI3.var.cell hlt
      rw [mix_here] at c3
      have hfr := HI3.var.free n
      have HGn := hid (HG.out n)
      rw [hy, hr1, hr2, hn1, hn2] at HGn
      have b0 := HF.out n hlt
      have b1 := HF.out n1 q1
      have b2 := HF.out n2 q2
      have HX : Hid (bits .xor .u64 (bits .xor .u64 (f n : Int) (f n2 : Int)) (bits .and .u64 (f n2 : Int) (f n1 : Int)) = ((f n ^^^ f n2 ^^^ (f n2 &&& f n1) : Nat) : Int)) := hid (by
        rw [and64w b2 b1, x64 b0 b2, x64 (Nat.xor_lt_two_pow b0 b2) (Nat.and_lt_two_pow _ b1)])
      have HU := hid (fun v z hv hz => HI3.mixed (v := v) (z := z) hv hz)
      have HA1 : Hid (a1 = n + 1) := hid ha1.symm
      generalize f n = s0 at *
      generalize f n1 = s1 at *
      generalize f n2 = s2 at *
      have m0 : (n : Int) < 25 := by omega
      have m1 : (n1 : Int) < 25 := by omega
      have m2 : (n2 : Int) < 25 := by omega
      have p0 : (0 : Int) ≤ (n : Int) := by omega
      have p1 : (0 : Int) ≤ (n1 : Int) := by omega
      have p2 : (0 : Int) ≤ (n2 : Int) := by omega
      clear hy ha1 ha2 hr1 hr2 hn1 hn2 HI3
      go_wp2
      refine region_tail 29 (by kernel_rfl) (by kernel_rfl) ?_
      simp only [List.take_succ_cons, List.take_zero, List.drop_succ_cons, List.drop_zero]
      generalize wr.drew = w2 at *
      repeat still_step
      refine wpStill_nil ?_
      go_wp2
      go_roundw
      case rel => exact ⟨a1, by have := HA1.out; omega, rfl, by rw [HA1.out]; exact HU.out _ _ HX.out HGn.out.symm⟩
      case measure => have := HA1.out; simp [intOf]; omega
    · obtain rfl : n = 25 := by omega
      have HM := hid HI.out.var
      have HN := hid HI.out.out
      go_wp2_with (first
        | (refine step_load_wa rfl 54 _ rfl (w.heap.size + 2) 25 54 53 _ rfl HM.out Try.underlying54 kinf25 ?_)
        | (refine step_store_wa rfl 54 _ _ rfl (w.heap.size + 1) 25 54 _ _ rfl rfl HN.out kinf25 ?_))
      refine ret_wa rfl rfl Try.underlying54 kinf25 rfl (HI.out.out.row _) ⟨?_, below_setRow HI.out.low (by omega) _⟩
      rw [wa_ext (mix_all (Nat.le_refl 25))]
end Go.Proofs.Ythcjgjhoifnpjaa

namespace Go.Proofs.Ythcjgjhoifnpjaa
open Go.ChangeShapes Go.WideShapes Go.ChangeAt Go.RowKit

/-- Eight bits of a byte, lowest first. -/
def oct (r : Nat) : List Value := [.bool (lf r 0), .bool (lf r 1), .bool (lf r 2), .bool (lf r 3), .bool (lf r 4), .bool (lf r 5), .bool (lf r 6), .bool (lf r 7)]
def oc8 (a b c d e f g h : Bool) : List Value := [.bool a, .bool b, .bool c, .bool d, .bool e, .bool f, .bool g, .bool h]
theorem kinfB : (Try.prog.info? 4).map (fun i => (i.zero, i.size, i.bytes)) = some (some (.bool false), 1, 1) := by kernel_rfl
theorem oct_one : oct 1 = oc8 true false false false false false false false := rfl
theorem oct_next {r : Nat} (h : r < 256) : oct (nxt r) = oc8 (lf r 7) (lf r 0) (lf r 1) (lf r 2) (lf r 3 != lf r 7) (lf r 4 != lf r 7) (lf r 5 != lf r 7) (lf r 6) := by
  obtain ⟨h0, h1, h2, h3, h4, h5, h6, h7⟩ := lf_next r h
  unfold oct oc8
  rw [h0, h1, h2, h3, h4, h5, h6, h7]

/-- The row at work: a slice of eight bits. -/
structure KBn (r : Nat) (v : Value) (w wr : World) : Prop where
  row : ∃ g cap, v = .slice (some ⟨g, 0, none⟩) 8 cap ∧ OV w.heap.size 4 wr g cap (oct r)
  low : Below w.heap.size w wr
theorem KBn.start (w : World) : KBn 1 (.slice (some ⟨w.heap.size, 0, none⟩) 8 8) w (w.alloc (.cells #[.bool true, .bool false, .bool false, .bool false, .bool false, .bool false, .bool false, .bool false] 4)) :=
  ⟨⟨w.heap.size, 8, rfl, OV.new w (Nat.le_refl _) _ 8 rfl (by decide)⟩, (Below.refl _ _).alloc (Nat.le_refl _) _⟩

set_option maxRecDepth 100000 in
set_option maxHeartbeats 3200000 in
theorem kbit_any (n : Nat) (w : World) (hn : n < 255) :
    Calls Try.prog 64 #[.int .i64 (n : Int)] w fun e w' => e = .returned (.bool (lf (rwN n) 0)) ∧ Below w.heap.size w w' := by
  have HS := hid (KBn.start w)
  have HR := hid rwN_lt
  have HN : Hid (∀ t, rwN (t + 1) = nxt (rwN t)) := hid (fun _ => rfl)
  have hm : (n : Int) % 255 = (n : Int) := by omega
  go_enter Try.func64, Try.ntmps64
  go_wp2
  go_loopw [3, 4] (fun v i wr => ∃ t : Nat, t ≤ n ∧ i = .int .i64 t ∧ KBn (rwN t) v w wr) (fun _ i _ => n - (intOf i).toNat)
  case atStart => exact ⟨0, by omega, rfl, HS.out⟩
  case round =>
    obtain ⟨t, ht, rfl, hI⟩ := hrel
    obtain ⟨⟨g, cap, rfl, hO⟩, hlow⟩ := hI
    have HO := hid hO
    have HL := hid hlow
    by_cases hlt : t < n
    · have hlt8 : (t : Int) < (n : Int) := by omega
      have hc := hO.lt.2.2
      have hcap : 8 ≤ cap := hc
      have hcap7 : (7 : Int) ≤ (cap : Int) := by omega
      have hg := hO.lt.2.1
      have hgB := hO.lt.1
      have k7 := hO.cell (j := 7) rfl
      have HQ := hid (oct_next (HR.out t))
      rw [← HN.out t] at HQ
      have HO1 : Hid (OV w.heap.size 4 wr g cap (oc8 (lf (rwN t) 0) (lf (rwN t) 1) (lf (rwN t) 2) (lf (rwN t) 3) (lf (rwN t) 4) (lf (rwN t) 5) (lf (rwN t) 6) (lf (rwN t) 7))) := hid hO
      clear hO hlow hc HO
      generalize lf (rwN t) 0 = b0 at *
      generalize lf (rwN t) 1 = b1 at *
      generalize lf (rwN t) 2 = b2 at *
      generalize lf (rwN t) 3 = b3 at *
      generalize lf (rwN t) 4 = b4 at *
      generalize lf (rwN t) 5 = b5 at *
      generalize lf (rwN t) 6 = b6 at *
      generalize lf (rwN t) 7 = b7 at *
      have HN1 : Hid (OV w.heap.size 4 (wr.alloc (.cells #[.bool false] 4)) wr.heap.size 1 [.bool false]) := hid (OV.new wr HL.out.size #[.bool false] 1 rfl (by decide))
      have HNB : Hid (Below w.heap.size w (wr.alloc (.cells #[.bool false] 4))) := hid (HL.out.alloc HL.out.size _)
      have HNC : Hid (∀ (j : Nat) (u : Value), ([.bool b0, .bool b1, .bool b2, .bool b3, .bool b4, .bool b5, .bool b6] : List Value)[j]? = some u → (wr.alloc (.cells #[.bool false] 4)).cell? ((⟨g, 0, none⟩ : Addr).add j) = some u) := hid (fun j u hu => by
        rw [add_plain, Nat.zero_add]
        refine (HO1.out.alloc _).cell (j := j) ?_
        rw [← hu]
        have hj : j < 7 := (List.getElem?_eq_some_iff.1 hu).1
        have : j = 0 ∨ j = 1 ∨ j = 2 ∨ j = 3 ∨ j = 4 ∨ j = 5 ∨ j = 6 := by omega
        rcases this with rfl | rfl | rfl | rfl | rfl | rfl | rfl <;> rfl)
      have HN7 : Hid (∀ u ∈ ([.bool b0, .bool b1, .bool b2, .bool b3, .bool b4, .bool b5, .bool b6] : List Value), u.oneCell' = true) := hid (fun u hu => by
        simp only [List.mem_cons, List.not_mem_nil, or_false] at hu
        rcases hu with rfl | rfl | rfl | rfl | rfl | rfl | rfl <;> rfl)
      go_wp2_with (first
        | (at_builtin; refine wpList_append_ov rfl (.tmp 16) (.tmp 18) 84 rfl (.bool false) 1 w.heap.size 4 Try.underlying84 kinfB rfl wr.heap.size 1 [.bool false] 1 rfl rfl HN1.out ⟨g, 0, none⟩ 7 cap [.bool b0, .bool b1, .bool b2, .bool b3, .bool b4, .bool b5, .bool b6] rfl rfl HNC.out HN7.out (by decide) (by decide) (by have := HL.out.size; simp; omega) w.heap.size w HNB.out (Nat.le_refl _) ?_; intro g' cap' w2 ho hb hs; have d0 := ho.cell (j := 0) rfl; have d4 := ho.cell (j := 4) rfl; have d5 := ho.cell (j := 5) rfl; have d6 := ho.cell (j := 6) rfl; have hf := ho.free; have hcap2 := ho.lt.2.2; have hg2 := ho.lt.1; have HO2 := hid ho; have HB2 := hid hb; clear ho hb hs))
      go_roundw
      case rel =>
        refine ⟨t + 1, by omega, by go_num, ⟨g', cap', rfl, ?_⟩, (((HB2.out.setCell hg2 _).setCell hg2 _).setCell hg2 _).setCell hg2 _⟩
        rw [HQ.out]
        exact ((((HO2.out.set 0 (.bool b7)).set 4 (.bool (b3 != b7))).set 5 (.bool (b4 != b7))).set 6 (.bool (b5 != b7)))
      case measure => simp [intOf]; omega
    · obtain rfl : t = n := by omega
      have k0 := hO.cell (j := 0) rfl
      clear hO hlow
      go_wp2
      go_ret
      exact ⟨rfl, HL.out⟩
end Go.Proofs.Ythcjgjhoifnpjaa

namespace Go.Proofs.Ythcjgjhoifnpjaa
open Go.RowKit

theorem kbit_to {n : Nat} {b : Bool} (hn : n < 255) (h : lf (rwN n) 0 = b) (w : World) :
    Calls Try.prog 64 #[.int .i64 (n : Int)] w fun e w' => e = .returned (.bool b) ∧ Below w.heap.size w w' := by
  rw [← h]; exact kbit_any n w hn

set_option maxRecDepth 100000 in
set_option maxHeartbeats 3200000 in
theorem krefmark_any (i : Int) (w : World) :
    Calls Try.prog 53 #[.int .i64 i] w fun e w' => e = .returned (.int .u64 (mkq i : Nat)) ∧ Below w.heap.size w w' := by
  by_cases h : 0 ≤ i ∧ i < 24
  · obtain ⟨n, rfl⟩ := Int.eq_ofNat_of_zero_le h.1
    have hn : n < 24 := by omega
    have hn2 : (n : Int) < 24 := by omega
    have HQ := hid (mkq_in hn)
    have HQ7 : Hid (mkf n = mkP n 7) := hid rfl
    have HZ : Hid (mkP n 0 = 0) := hid rfl
    have HL := hid (mkP_lt n hn)
    have HA := hid (mkP_add n hn)
    clear h
    go_enter Try.func53, Try.ntmps53
    go_wp2
    go_loopw [3, 4, 5] (fun x a k wr => ∃ (j : Nat) (A : Int), j ≤ 7 ∧ k = .int .i64 j ∧ a = .int .i64 A ∧ Hid (A = 2 ^ j) ∧ x = .int .u64 (mkP n j : Nat) ∧ Below w.heap.size w wr) (fun _ _ k _ => 7 - (intOf k).toNat)
    case atStart => exact ⟨0, 1, by omega, rfl, rfl, hid rfl, by rw [HZ.out]; rfl, Below.refl _ _⟩
    case round =>
      obtain ⟨j, A, hj, rfl, rfl, HAj, rfl, hlow⟩ := hrel
      have HB := hid hlow
      clear hlow
      by_cases hlt : j < 7
      · have hx := HL.out (j + 1) (by omega)
        have HE := HA.out j hlt
        obtain ⟨b, hb⟩ : ∃ b, lf (rwN (7 * n + j)) 0 = b := ⟨_, rfl⟩
        obtain ⟨m, hm⟩ : ∃ m, 7 * n + j = m := ⟨_, rfl⟩
        have e1 : 7 * (n : Int) + (j : Int) = (m : Int) := by omega
        rw [hb] at HE
        rw [hm] at hb
        have HC := hid (fun w => kbit_to (n := m) (b := b) (by omega) hb w)
        rw [HE] at hx
        have HE1 := hid HE
        have hA := HAj.out
        generalize mkP n j = x at *
        clear hb HE hm HAj
        have hj7 : j = 0 ∨ j = 1 ∨ j = 2 ∨ j = 3 ∨ j = 4 ∨ j = 5 ∨ j = 6 := by omega
        cases b <;> rcases hj7 with rfl | rfl | rfl | rfl | rfl | rfl | rfl
        · obtain rfl : A = 1 := by simpa using hA
          have HE2 : Hid (x = mkP n (0 + 1)) := hid HE1.out.symm
          have e2 : 7 * (n : Int) = (m : Int) := by omega
          clear hA hx e1
          go_wp2_with (first | (go_at_call 64; (with_reducible refine (HC.out _).mono ?_); rintro e w1 ⟨rfl, hlow⟩; have HB1 := hid (HB.out.trans (hlow.mono HB.out.size)); clear hlow))
          go_roundw
          case rel => exact ⟨1, 2, by omega, rfl, rfl, hid rfl, by rw [← HE2.out], HB1.out⟩
          case measure => simp [intOf]
        · obtain rfl : A = 2 := by simpa using hA
          have HE2 : Hid (x = mkP n (1 + 1)) := hid HE1.out.symm
          have e2 : 7 * (n : Int) + 1 = (m : Int) := by omega
          clear hA hx e1
          go_wp2_with (first | (go_at_call 64; (with_reducible refine (HC.out _).mono ?_); rintro e w1 ⟨rfl, hlow⟩; have HB1 := hid (HB.out.trans (hlow.mono HB.out.size)); clear hlow))
          go_roundw
          case rel => exact ⟨2, 4, by omega, rfl, rfl, hid rfl, by rw [← HE2.out], HB1.out⟩
          case measure => simp [intOf]
        · obtain rfl : A = 4 := by simpa using hA
          have HE2 : Hid (x = mkP n (2 + 1)) := hid HE1.out.symm
          have e2 : 7 * (n : Int) + 2 = (m : Int) := by omega
          clear hA hx e1
          go_wp2_with (first | (go_at_call 64; (with_reducible refine (HC.out _).mono ?_); rintro e w1 ⟨rfl, hlow⟩; have HB1 := hid (HB.out.trans (hlow.mono HB.out.size)); clear hlow))
          go_roundw
          case rel => exact ⟨3, 8, by omega, rfl, rfl, hid rfl, by rw [← HE2.out], HB1.out⟩
          case measure => simp [intOf]
        · obtain rfl : A = 8 := by simpa using hA
          have HE2 : Hid (x = mkP n (3 + 1)) := hid HE1.out.symm
          have e2 : 7 * (n : Int) + 3 = (m : Int) := by omega
          clear hA hx e1
          go_wp2_with (first | (go_at_call 64; (with_reducible refine (HC.out _).mono ?_); rintro e w1 ⟨rfl, hlow⟩; have HB1 := hid (HB.out.trans (hlow.mono HB.out.size)); clear hlow))
          go_roundw
          case rel => exact ⟨4, 16, by omega, rfl, rfl, hid rfl, by rw [← HE2.out], HB1.out⟩
          case measure => simp [intOf]
        · obtain rfl : A = 16 := by simpa using hA
          have HE2 : Hid (x = mkP n (4 + 1)) := hid HE1.out.symm
          have e2 : 7 * (n : Int) + 4 = (m : Int) := by omega
          clear hA hx e1
          go_wp2_with (first | (go_at_call 64; (with_reducible refine (HC.out _).mono ?_); rintro e w1 ⟨rfl, hlow⟩; have HB1 := hid (HB.out.trans (hlow.mono HB.out.size)); clear hlow))
          go_roundw
          case rel => exact ⟨5, 32, by omega, rfl, rfl, hid rfl, by rw [← HE2.out], HB1.out⟩
          case measure => simp [intOf]
        · obtain rfl : A = 32 := by simpa using hA
          have HE2 : Hid (x = mkP n (5 + 1)) := hid HE1.out.symm
          have e2 : 7 * (n : Int) + 5 = (m : Int) := by omega
          clear hA hx e1
          go_wp2_with (first | (go_at_call 64; (with_reducible refine (HC.out _).mono ?_); rintro e w1 ⟨rfl, hlow⟩; have HB1 := hid (HB.out.trans (hlow.mono HB.out.size)); clear hlow))
          go_roundw
          case rel => exact ⟨6, 64, by omega, rfl, rfl, hid rfl, by rw [← HE2.out], HB1.out⟩
          case measure => simp [intOf]
        · obtain rfl : A = 64 := by simpa using hA
          have HE2 : Hid (x = mkP n (6 + 1)) := hid HE1.out.symm
          have e2 : 7 * (n : Int) + 6 = (m : Int) := by omega
          clear hA hx e1
          go_wp2_with (first | (go_at_call 64; (with_reducible refine (HC.out _).mono ?_); rintro e w1 ⟨rfl, hlow⟩; have HB1 := hid (HB.out.trans (hlow.mono HB.out.size)); clear hlow))
          go_roundw
          case rel => exact ⟨7, 128, by omega, rfl, rfl, hid rfl, by rw [← HE2.out], HB1.out⟩
          case measure => simp [intOf]
        · obtain rfl : A = 1 := by simpa using hA
          have hx1 : x + 1 < 2 ^ 64 := hx
          have HE2 : Hid (x + 1 = mkP n (0 + 1)) := hid HE1.out.symm
          have e2 : 7 * (n : Int) = (m : Int) := by omega
          clear hA hx e1
          go_wp2_with (first | (go_at_call 64; (with_reducible refine (HC.out _).mono ?_); rintro e w1 ⟨rfl, hlow⟩; have HB1 := hid (HB.out.trans (hlow.mono HB.out.size)); clear hlow))
          go_roundw
          case rel => exact ⟨1, 2, by omega, rfl, rfl, hid rfl, by rw [← HE2.out, Int.natCast_add]; rfl, HB1.out⟩
          case measure => simp [intOf]
        · obtain rfl : A = 2 := by simpa using hA
          have hx1 : x + 2 < 2 ^ 64 := hx
          have HE2 : Hid (x + 2 = mkP n (1 + 1)) := hid HE1.out.symm
          have e2 : 7 * (n : Int) + 1 = (m : Int) := by omega
          clear hA hx e1
          go_wp2_with (first | (go_at_call 64; (with_reducible refine (HC.out _).mono ?_); rintro e w1 ⟨rfl, hlow⟩; have HB1 := hid (HB.out.trans (hlow.mono HB.out.size)); clear hlow))
          go_roundw
          case rel => exact ⟨2, 4, by omega, rfl, rfl, hid rfl, by rw [← HE2.out, Int.natCast_add]; rfl, HB1.out⟩
          case measure => simp [intOf]
        · obtain rfl : A = 4 := by simpa using hA
          have hx1 : x + 8 < 2 ^ 64 := hx
          have HE2 : Hid (x + 8 = mkP n (2 + 1)) := hid HE1.out.symm
          have e2 : 7 * (n : Int) + 2 = (m : Int) := by omega
          clear hA hx e1
          go_wp2_with (first | (go_at_call 64; (with_reducible refine (HC.out _).mono ?_); rintro e w1 ⟨rfl, hlow⟩; have HB1 := hid (HB.out.trans (hlow.mono HB.out.size)); clear hlow))
          go_roundw
          case rel => exact ⟨3, 8, by omega, rfl, rfl, hid rfl, by rw [← HE2.out, Int.natCast_add]; rfl, HB1.out⟩
          case measure => simp [intOf]
        · obtain rfl : A = 8 := by simpa using hA
          have hx1 : x + 128 < 2 ^ 64 := hx
          have HE2 : Hid (x + 128 = mkP n (3 + 1)) := hid HE1.out.symm
          have e2 : 7 * (n : Int) + 3 = (m : Int) := by omega
          clear hA hx e1
          go_wp2_with (first | (go_at_call 64; (with_reducible refine (HC.out _).mono ?_); rintro e w1 ⟨rfl, hlow⟩; have HB1 := hid (HB.out.trans (hlow.mono HB.out.size)); clear hlow))
          go_roundw
          case rel => exact ⟨4, 16, by omega, rfl, rfl, hid rfl, by rw [← HE2.out, Int.natCast_add]; rfl, HB1.out⟩
          case measure => simp [intOf]
        · obtain rfl : A = 16 := by simpa using hA
          have hx1 : x + 32768 < 2 ^ 64 := hx
          have HE2 : Hid (x + 32768 = mkP n (4 + 1)) := hid HE1.out.symm
          have e2 : 7 * (n : Int) + 4 = (m : Int) := by omega
          clear hA hx e1
          go_wp2_with (first | (go_at_call 64; (with_reducible refine (HC.out _).mono ?_); rintro e w1 ⟨rfl, hlow⟩; have HB1 := hid (HB.out.trans (hlow.mono HB.out.size)); clear hlow))
          go_roundw
          case rel => exact ⟨5, 32, by omega, rfl, rfl, hid rfl, by rw [← HE2.out, Int.natCast_add]; rfl, HB1.out⟩
          case measure => simp [intOf]
        · obtain rfl : A = 32 := by simpa using hA
          have hx1 : x + 2147483648 < 2 ^ 64 := hx
          have HE2 : Hid (x + 2147483648 = mkP n (5 + 1)) := hid HE1.out.symm
          have e2 : 7 * (n : Int) + 5 = (m : Int) := by omega
          clear hA hx e1
          go_wp2_with (first | (go_at_call 64; (with_reducible refine (HC.out _).mono ?_); rintro e w1 ⟨rfl, hlow⟩; have HB1 := hid (HB.out.trans (hlow.mono HB.out.size)); clear hlow))
          go_roundw
          case rel => exact ⟨6, 64, by omega, rfl, rfl, hid rfl, by rw [← HE2.out, Int.natCast_add]; rfl, HB1.out⟩
          case measure => simp [intOf]
        · obtain rfl : A = 64 := by simpa using hA
          have hx1 : x + 9223372036854775808 < 2 ^ 64 := hx
          have HE2 : Hid (x + 9223372036854775808 = mkP n (6 + 1)) := hid HE1.out.symm
          have e2 : 7 * (n : Int) + 6 = (m : Int) := by omega
          clear hA hx e1
          go_wp2_with (first | (go_at_call 64; (with_reducible refine (HC.out _).mono ?_); rintro e w1 ⟨rfl, hlow⟩; have HB1 := hid (HB.out.trans (hlow.mono HB.out.size)); clear hlow))
          go_roundw
          case rel => exact ⟨7, 128, by omega, rfl, rfl, hid rfl, by rw [← HE2.out, Int.natCast_add]; rfl, HB1.out⟩
          case measure => simp [intOf]
      · obtain rfl : j = 7 := by omega
        go_wp2
        go_ret
        exact ⟨ret_int (by rw [HQ.out, HQ7.out]), HB.out⟩
  · have HQ := hid (mkq_out h)
    by_cases h0 : i < 0
    · go_enter Try.func53, Try.ntmps53
      go_wp2
      go_ret
      exact ⟨ret_int (by rw [HQ.out]; rfl), Below.refl _ _⟩
    · have h1 : 24 ≤ i := by omega
      go_enter Try.func53, Try.ntmps53
      go_wp2
      go_ret
      exact ⟨ret_int (by rw [HQ.out]; rfl), Below.refl _ _⟩
end Go.Proofs.Ythcjgjhoifnpjaa

namespace Go.Proofs.Ythcjgjhoifnpjaa
open Go.RowKit

set_option maxRecDepth 100000 in
set_option maxHeartbeats 1600000 in
theorem krefpermute_any (f : Nat → Nat) (w : World) (hf : W25 f) :
    Calls Try.prog 42 #[.agg (wa 25 f)] w fun e w' => e = .returned (.agg (wa 25 (pm tun mkf 24 f))) ∧ Below w.heap.size w w' := by
  have HS := hid (P0.start f w)
  have HC1 := hid (fun (g : Nat → Nat) (h : W25 g) w => kreftheta_any g w h)
  have HC2 := hid (fun (g : Nat → Nat) (h : W25 g) w => krefmove_any g w h)
  have HC3 := hid (fun (g : Nat → Nat) (h : W25 g) w => krefchi_any g w h)
  have HL := hid mkf_lt
  have HW := hid (fun n h => pm_w (t := tun) mkf_lt hf n h)
  have HZ : Hid (pm tun mkf 0 f = f) := hid rfl
  have HN : Hid (∀ n, pm tun mkf (n + 1) f = io (mkf n) (ch (mo tun (th (pm tun mkf n f))))) := hid (fun _ => rfl)
  clear hf
  go_enter Try.func42, Try.ntmps42
  go_wp2
  go_loopw [3] (fun i wr => ∃ j : Nat, j ≤ 24 ∧ i = .int .i64 j ∧ P0 (pm tun mkf j f) w wr) (fun i _ => 24 - (intOf i).toNat)
  case atStart => exact ⟨0, by omega, rfl, by rw [HZ.out]; exact HS.out⟩
  case round =>
    obtain ⟨j, hj, rfl, hI⟩ := hrel
    have HI := hid hI
    clear hI
    by_cases hlt : j < 24
    · have hm := HL.out j hlt
      have h0 := HW.out j (by omega)
      have h1 := th_w h0
      have h2 := mo_w (t := tun) h1
      have h3 := ch_w h2
      have K1 := hid (HC1.out _ h0)
      have K2 := hid (HC2.out _ h1)
      have K3 := hid (HC3.out _ h2)
      have K4 : Hid (∀ w, Calls Try.prog 53 #[.int .i64 (j : Int)] w fun e w' => e = .returned (.int .u64 (mkf j : Nat)) ∧ Below w.heap.size w w') := hid (fun w => by
        have := krefmark_any (j : Int) w
        rwa [mkq_in hlt] at this)
      have HNj := hid (HN.out j)
      generalize ch (mo tun (th (pm tun mkf j f))) = g3 at *
      generalize mo tun (th (pm tun mkf j f)) = g2 at *
      generalize th (pm tun mkf j f) = g1 at *
      generalize pm tun mkf j f = g0 at *
      generalize mkf j = m at *
      have HX := hid (x64 (h3 0 (by omega)) hm)
      clear h0 h1 h2 h3
      go_wp2_with (first
        | (refine step_load_wa rfl 54 _ rfl w.heap.size 25 54 53 g0 rfl HI.out.src Try.underlying54 kinf25 ?_)
        | (go_at_call 52; (with_reducible refine (K1.out _).mono ?_); rintro e w1 ⟨rfl, hlow⟩; have HS1 := hid (HI.out.on hlow); clear hlow)
        | (go_at_call 51; (with_reducible refine (K2.out _).mono ?_); rintro e w2 ⟨rfl, hlow⟩; have HS2 := hid (HS1.out.on hlow); clear hlow)
        | (go_at_call 50; (with_reducible refine (K3.out _).mono ?_); rintro e w3 ⟨rfl, hlow⟩; have HS3 := hid (HS2.out.on hlow); have HS4 := hid (HS3.out.row g3); clear hlow)
        | (refine step_store_wa rfl 54 _ _ rfl w.heap.size 25 54 _ _ rfl rfl HS3.out.src kinf25 ?_))
      generalize w3.setRow w.heap.size (wa 25 g3) = w4 at *
      have HD4 := hid HS4.out.drew
      have c0 : w4.cell? ⟨w.heap.size, 0, none⟩ = some (.int .u64 (g3 0 : Int)) := HS4.out.src.cell (j := 0) (by omega)
      have c0' : w4.drew.cell? ⟨w.heap.size, 0, none⟩ = some (.int .u64 (g3 0 : Int)) := HS4.out.src.cell (j := 0) (by omega)
      generalize hz : g3 0 = z at *
      have HZ3 := hid hz
      clear hz
      go_region_with (first | (go_at_call 53; (with_reducible refine (K4.out _).mono ?_); rintro e w5 ⟨rfl, hlow⟩; have HS5 := hid (HD4.out.on hlow); have c5 := HS5.out.src.cell (j := 0) (by omega); rw [HZ3.out] at c5; have f5 := HS5.out.src.free 0; clear hlow))
      all_goals
        go_wp2
        go_roundw
        case rel => exact ⟨j + 1, by omega, by go_num, by rw [HNj.out]; exact HS5.out.mark m (by rw [HZ3.out]; exact HX.out)⟩
        case measure => simp [intOf]; omega
    · obtain rfl : j = 24 := by omega
      have HM := hid HI.out.src
      have HN := hid HI.out.out
      go_wp2_with (first
        | (refine step_load_wa rfl 54 _ rfl w.heap.size 25 54 53 _ rfl HM.out Try.underlying54 kinf25 ?_)
        | (refine step_store_wa rfl 54 _ _ rfl (w.heap.size + 1) 25 54 _ _ rfl rfl HN.out kinf25 ?_))
      exact ret_wa rfl rfl Try.underlying54 kinf25 rfl (HI.out.out.row _) ⟨rfl, below_setRow HI.out.low (by omega) _⟩
end Go.Proofs.Ythcjgjhoifnpjaa

namespace Go.Proofs.Ythcjgjhoifnpjaa
open Go.RowKit

/-! ### arrays held against each other, and loads in a region that draws -/
theorem eqW {f g : Nat → Nat} {b : Bool} (h : Eq25 f g ↔ b = true) (w : World) : (Op.equalIn 10000 54 (.agg (wa 25 f)) (.agg (wa 25 g))).run Try.prog w = .ok b w := by
  have h' := run_eq_wa (P := Try.prog) w 9998 54 53 25 f g Try.underlying54 Try.underlying53 kinf1
  rw [h']
  congr 1
  cases b
  · simp only [Bool.false_eq_true, iff_false] at h; exact decide_eq_false h
  · exact decide_eq_true (h.2 rfl)
theorem guardW : Try.prog.eqGuardType Try.prog.depth 54 = false := by kernel_rfl
theorem eq25_bool (f g : Nat → Nat) : ∃ q : Bool, Eq25 f g ↔ q = true := by
  by_cases h : Eq25 f g
  · exact ⟨true, by simp [h]⟩
  · exact ⟨false, by simp [h]⟩
set_option maxRecDepth 100000 in
theorem exec_eq25 {w : World} {o : Oper} {a : Act} (x y : Operand) (ho : o.op = .binOp .eql 54 x y 54) {f g : Nat → Nat} {q : Bool} (hx : a.eval x = .agg (wa 25 f)) (hy : a.eval y = .agg (wa 25 g)) (h : Eq25 f g ↔ q = true) :
    (execOp a.eval o).run Try.prog w = .ok (.value (.bool q)) w := by
  have heq := fun w => eqW h w
  have hguard := guardW
  unfold execOp
  rw [ho]
  simp only [hx, hy]
  generalize wa 25 f = A at *
  generalize wa 25 g = B at *
  go_simp
set_option maxRecDepth 100000 in
theorem exec_ne25 {w : World} {o : Oper} {a : Act} (x y : Operand) (ho : o.op = .binOp .neq 54 x y 54) {f g : Nat → Nat} {q : Bool} (hx : a.eval x = .agg (wa 25 f)) (hy : a.eval y = .agg (wa 25 g)) (h : Eq25 f g ↔ q = true) :
    (execOp a.eval o).run Try.prog w = .ok (.value (.bool (!q))) w := by
  have heq := fun w => eqW h w
  have hguard := guardW
  unfold execOp
  rw [ho]
  simp only [hx, hy]
  generalize wa 25 f = A at *
  generalize wa 25 g = B at *
  go_simp
theorem step_eq25 {w : World} {ops : Array Oper} {rest : List Oper} {o : Oper} {a : Act} {Q : Exit → Act → World → Prop} (hw : Region.wanted o (yielded ops a.tmps) = true) (x y : Operand) (ho : o.op = .binOp .eql 54 x y 54) (f g : Nat → Nat) (q : Bool)
    (hx : a.eval x = .agg (wa 25 f)) (hy : a.eval y = .agg (wa 25 g)) (h : Eq25 f g ↔ q = true) (k : wpList Try.prog ops Q rest (a.put o.dst (.bool q)) w) : wpList Try.prog ops Q (o :: rest) a w :=
  BigFrame.wpList_want hw fun _ hK => by
    unfold Oper.wp
    rw [exec_eq25 x y ho hx hy h]
    exact hK _ _ k
theorem yields_load_wa {P : Program} {ops : Array Oper} {S : World → Prop} {op : Oper} {a : Act} (hw : Region.wanted op (yielded ops a.tmps) = true) (ty : TypeId) (x : Operand) (ho : op.op = .load ty x)
    (b n : Nat) (t e : TypeId) (f : Nat → Nat) (hx : a.eval x = .pointer (some ⟨b, 0, none⟩)) (hS : ∀ w, S w → Aw w b n t f)
    (hu : P.underlying ty = some (.array n e)) (hi : (P.info? ty).map (·.size) = some n) : YieldsIf P ops S op (.agg (wa n f)) a :=
  .inl ⟨hw, fun w hw' => by
    unfold execOp
    simp only [ho, hx, Instr.loadAt, Instr.sureAddr, Sem.run_bind, Sem.run_pure, Result.andThen_ok, (hS w hw').load ty hu hi]⟩

/-- The law's state, in a block of its own. -/
structure Ks1 (f : Nat → Nat) (w wr : World) : Prop where
  src : Aw wr w.heap.size 25 54 f
  low : Below w.heap.size w wr
theorem Ks1.start (f : Nat → Nat) (w : World) : Ks1 f w (w.alloc (.cells (wa 25 f) 54)) := ⟨Aw.new w 25 54 f, (Below.refl _ _).alloc (Nat.le_refl _) _⟩
theorem Ks1.self {f : Nat → Nat} {w wr w1 : World} (h : Ks1 f w wr) (hb : Below wr.heap.size wr w1) : Ks1 f w w1 := ⟨h.src.self hb, h.low.trans (hb.mono h.low.size)⟩
theorem Ks1.drew {f : Nat → Nat} {w wr : World} (h : Ks1 f w wr) : Ks1 f w wr.drew := ⟨h.src.drew, h.low.drew⟩
/-- .. and two of them. -/
structure Ks2 (f g : Nat → Nat) (w wr : World) : Prop where
  src : Aw wr w.heap.size 25 54 f
  two : Aw wr (w.heap.size + 1) 25 54 g
  low : Below w.heap.size w wr
theorem Ks2.start (f g : Nat → Nat) (w : World) : Ks2 f g w ((w.alloc (.cells (wa 25 f) 54)).alloc (.cells (wa 25 g) 54)) := by
  have h1 := Aw.new (w.alloc (.cells (wa 25 f) 54)) 25 54 g
  rw [World.size_alloc] at h1
  exact ⟨(Aw.new w 25 54 f).alloc _, h1, ((Below.refl _ _).alloc (Nat.le_refl _) _).alloc (by simp) _⟩
theorem Ks2.self {f g : Nat → Nat} {w wr w1 : World} (h : Ks2 f g w wr) (hb : Below wr.heap.size wr w1) : Ks2 f g w w1 := ⟨h.src.self hb, h.two.self hb, h.low.trans (hb.mono h.low.size)⟩
theorem Ks2.drew {f g : Nat → Nat} {w wr : World} (h : Ks2 f g w wr) : Ks2 f g w wr.drew := ⟨h.src.drew, h.two.drew, h.low.drew⟩
/-- .. and one beside, that is turned. -/
structure KsB (f g : Nat → Nat) (b : Nat) (w wr : World) : Prop extends Ks1 f w wr where
  var : Aw wr b 25 54 g
  far : w.heap.size < b
theorem KsB.start {f : Nat → Nat} {w wr : World} (h : Ks1 f w wr) (g : Nat → Nat) : KsB f g wr.heap.size w ((wr.alloc (.cells (wa 25 (fun _ => 0)) 54)).setRow wr.heap.size (wa 25 g)) := by
  have hl := h.src.lt
  exact ⟨⟨(h.src.alloc _).rowApart (by omega) _, below_setRow (h.low.alloc h.low.size _) h.low.size _⟩, (Aw.new wr 25 54 _).row g, hl⟩
theorem KsB.self {f g : Nat → Nat} {b : Nat} {w wr w1 : World} (h : KsB f g b w wr) (hb : Below wr.heap.size wr w1) : KsB f g b w w1 := ⟨h.toKs1.self hb, h.var.self hb, h.far⟩
theorem KsB.row {f g : Nat → Nat} {b : Nat} {w wr : World} (h : KsB f g b w wr) (k : Nat → Nat) : KsB f k b w (wr.setRow b (wa 25 k)) := by
  have hl := h.far
  exact ⟨⟨h.src.rowApart (by omega) _, below_setRow h.low (by omega) _⟩, h.var.row k, hl⟩
end Go.Proofs.Ythcjgjhoifnpjaa
