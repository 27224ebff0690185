import Derived.Test.YtfgbcohmbbjagaaKce
import Derived.Deep.RegionWith
namespace Go.Proofs.Ytfgbcohmbbjagaa
open Go.RowKit

/-! ### theta, some times -/
structure PInv (f g c e : Nat → Nat) (w wr : World) (b j n : Nat) : Prop where
  src : Aw wr w.heap.size 25 23 (mix n f g)
  out : Aw wr (w.heap.size + 1) 25 23 (fun _ => 0)
  sum : Aw wr b 5 39 c
  more : Aw wr (b + 1) 5 39 (mix j (fun _ => 0) e)
  far : w.heap.size + 2 ≤ b
  low : Below w.heap.size w wr
/-- What comes in, and what goes out. -/
structure P0 (f : Nat → Nat) (w wr : World) : Prop where
  src : Aw wr w.heap.size 25 23 f
  out : Aw wr (w.heap.size + 1) 25 23 (fun _ => 0)
  low : Below w.heap.size w wr
theorem P0.start (f : Nat → Nat) (w : World) : P0 f w ((w.alloc (.cells (wa 25 f) 23)).alloc (.cells (wa 25 (fun _ => 0)) 23)) := by
  refine ⟨(Aw.new w 25 23 f).alloc _, ?_, ((Below.refl _ _).alloc (Nat.le_refl _) _).alloc (by simp) _⟩
  have := Aw.new (w.alloc (.cells (wa 25 f) 23)) 25 23 (fun _ => 0)
  rw [World.size_alloc] at this
  exact this
theorem P0.on {f : Nat → Nat} {w wr w1 : World} (h : P0 f w wr) (hb : Below wr.heap.size wr w1) : P0 f w w1 := ⟨h.src.self hb, h.out.self hb, h.low.trans (hb.mono h.low.size)⟩
theorem PInv.start {f g c e : Nat → Nat} {w w1 : World} (h : P0 f w w1) : PInv f g c e w (((w1.alloc (.cells (wa 5 (fun _ => 0)) 39)).setRow w1.heap.size (wa 5 c)).alloc (.cells (wa 5 (fun _ => 0)) 39)) w1.heap.size 0 0 := by
  have hl := h.out.lt
  have h1 := ((Aw.new w1 5 39 (fun _ => 0)).row c).alloc (.cells (wa 5 (fun _ => 0)) 39)
  have h2 := Aw.new ((w1.alloc (.cells (wa 5 (fun _ => 0)) 39)).setRow w1.heap.size (wa 5 c)) 5 39 (fun _ => 0)
  rw [show ((w1.alloc (.cells (wa 5 (fun _ => 0)) 39)).setRow w1.heap.size (wa 5 c)).heap.size = w1.heap.size + 1 by simp [World.setRow]] at h2
  refine ⟨?_, ((h.out.alloc _).rowApart (by omega) _).alloc _, h1, ?_, by omega, (below_setRow (h.low.alloc h.low.size _) h.low.size _).alloc (by simp [World.setRow]; have := h.low.size; omega) _⟩
  · rw [mix_zero]; exact ((h.src.alloc _).rowApart (by omega) _).alloc _
  · rw [mix_zero]; exact h2
theorem PInv.stepE {f g c e : Nat → Nat} {w wr : World} {b j n : Nat} (h : PInv f g c e w wr b j n) {v : Int} {z : Nat} (hv : v = (z : Int)) (hz : z = e j) : PInv f g c e w (wr.setCell ⟨b + 1, j, none⟩ (.int .u64 v)) b (j + 1) n := by
  subst hv
  have := h.far
  refine ⟨h.src.apart (by simp; omega) _, h.out.apart (by simp; omega) _, h.sum.apart (by simp) _, ?_, h.far, h.low.setCell (by simp; omega) _⟩
  rw [← mix_step j _ e hz]
  exact h.more.set j z
theorem PInv.stepG {f g c e : Nat → Nat} {w wr : World} {b j n : Nat} (h : PInv f g c e w wr b j n) {v : Int} {z : Nat} (hv : v = (z : Int)) (hz : z = g n) : PInv f g c e w (wr.setCell ⟨w.heap.size, n, none⟩ (.int .u64 v)) b j (n + 1) := by
  subst hv
  have := h.far
  refine ⟨?_, h.out.apart (by simp) _, h.sum.apart (by simp; omega) _, h.more.apart (by simp; omega) _, h.far, h.low.setCell (by simp) _⟩
  rw [← mix_step n _ g hz]
  exact h.src.set n z
theorem PInv.drew {f g c e : Nat → Nat} {w wr : World} {b j n : Nat} (h : PInv f g c e w wr b j n) : PInv f g c e w wr.drew b j n := ⟨h.src.drew, h.out.drew, h.sum.drew, h.more.drew, h.far, h.low.drew⟩

set_option maxRecDepth 100000 in
set_option maxHeartbeats 1600000 in
theorem spread_any (f : Nat → Nat) (k : Nat) (w : World) (hf : W25 f) (hk1 : 1 ≤ k) (hk : k ≤ 128) :
    Calls Try.prog 28 #[.agg (wa 25 f), .int .i64 (k : Int)] w fun e w' => e = .returned (.agg (wa 25 (ly f (ek k (co f))))) ∧ Below w.heap.size w w' := by
  have HS := hid (P0.start f w)
  have HC := hid (fun w => sums_any f w hf)
  have HW := hid (co_w hf)
  have HE := hid (ek_w (co_w hf) k)
  have HF := hid hf
  have HK : Hid (∀ x, ek k (co f) x = co f ((x + 4 * k) % 5) ^^^ rt (co f ((x + k) % 5)) (k % 64)) := hid (fun _ => rfl)
  have HG : Hid (∀ i, ly f (ek k (co f)) i = f i ^^^ ek k (co f) (i % 5)) := hid (fun _ => rfl)
  generalize ly f (ek k (co f)) = g at *
  generalize ek k (co f) = e at *
  generalize co f = c at *
  clear hf
  go_enter Try.func28, Try.ntmps28
  go_wp2_with (first
    | (refine step_load_wa rfl 23 _ rfl w.heap.size 25 23 22 f rfl HS.out.src Try.underlying23 info23 ?_)
    | (go_at_call 34; (with_reducible refine (HC.out _).mono ?_); rintro e w1 ⟨rfl, hlow⟩; have HS1 := hid (HS.out.on hlow); have HP := hid (PInv.start (g := g) (c := c) (e := e) HS1.out); clear hlow)
    | (refine step_store_wa rfl 39 _ _ rfl w1.heap.size 5 39 (fun _ => 0) c rfl rfl (Aw.new w1 5 39 (fun _ => 0)) info39 ?_))
  go_loopw [11] (fun i wr => ∃ j : Nat, j ≤ 5 ∧ i = .int .i64 j ∧ PInv f g c e w wr w1.heap.size j 0) (fun i _ => 5 - (intOf i).toNat)
  case atStart => exact ⟨0, by omega, rfl, HP.out⟩
  case round =>
    obtain ⟨j, hj, rfl, hI⟩ := hrel
    have HI := hid hI
    clear hI
    by_cases hlt : j < 5
    · obtain ⟨m1, hm1⟩ : ∃ m, (j + 4 * k) % 5 = m := ⟨_, rfl⟩
      obtain ⟨m2, hm2⟩ : ∃ m, (j + k) % 5 = m := ⟨_, rfl⟩
      obtain ⟨k4, hk4⟩ : ∃ m, 4 * k = m := ⟨_, rfl⟩
      obtain ⟨a1, ha1⟩ : ∃ m, j + k4 = m := ⟨_, rfl⟩
      obtain ⟨a2, ha2⟩ : ∃ m, j + k = m := ⟨_, rfl⟩
      have e0 : IntKind.i64.wrap (4 * (k : Int)) = (k4 : Int) := by rw [IntKind.wrap_i64]; omega
      have e1 : IntKind.i64.wrap ((j : Int) + (k4 : Int)) = (a1 : Int) := by rw [IntKind.wrap_i64]; omega
      have e2 : IntKind.i64.wrap ((j : Int) + (k : Int)) = (a2 : Int) := by rw [IntKind.wrap_i64]; omega
      have e3 : (a1 : Int).tmod 5 = (m1 : Int) := by rw [Int.tmod_eq_emod_of_nonneg (by omega)]; omega
      have e4 : (a2 : Int).tmod 5 = (m2 : Int) := by rw [Int.tmod_eq_emod_of_nonneg (by omega)]; omega
      have l1 : m1 < 5 := by omega
      have l2 : m2 < 5 := by omega
      have c1 := HI.out.drew.sum.cell l1
      have c2 := HI.out.drew.sum.cell l2
      have c3 := HI.out.drew.more.cell hlt
      rw [mix_here] at c3
      have hfr := HI.out.drew.more.free j
      have HKj := hid (HK.out j)
      rw [hm1, hm2] at HKj
      have b1 := HW.out m1 l1
      have b2 := HW.out m2 l2
      have b3 := rt_lt (m := k % 64) b2
      have HR := hid (fun w => rot_to (m := k % 64) (k := (k : Int)) b2 (by omega) w)
      have HX := hid (x64 b1 b3)
      have HT := hid (fun v z hv hz => HI.out.drew.stepE (v := v) (z := z) hv hz)
      generalize c m1 = s1 at *
      generalize c m2 = s2 at *
      generalize rt s2 (k % 64) = r at *
      have n1 : (m1 : Int) < 5 := by omega
      have n2 : (m2 : Int) < 5 := by omega
      have n3 : (j : Int) < 5 := by omega
      have p1 : (0 : Int) ≤ (m1 : Int) := by omega
      have p2 : (0 : Int) ≤ (m2 : Int) := by omega
      have p3 : (0 : Int) ≤ (j : Int) := by omega
      clear hm1 hm2 ha1 ha2 hk4
      go_wp2
      refine region_tail 18 (by kernel_rfl) (by kernel_rfl) ?_
      simp only [List.take_succ_cons, List.take_zero, List.drop_succ_cons, List.drop_zero]
      generalize wr.drew = w2 at *
      repeat still_step
      still_call (HR.out _)
      repeat still_step
      refine wpStill_nil ?_
      go_wp2
      go_roundw
      case rel => exact ⟨j + 1, by omega, by go_num, HT.out _ _ HX.out HKj.out.symm⟩
      case measure => simp [intOf]; omega
    · obtain rfl : j = 5 := by omega
      go_wp2
      go_loopw [33] (fun i wr => ∃ n : Nat, n ≤ 25 ∧ i = .int .i64 n ∧ PInv f g c e w wr w1.heap.size 5 n) (fun i _ => 25 - (intOf i).toNat)
      case atStart => exact ⟨0, by omega, rfl, HI.out⟩
      case round =>
        obtain ⟨n, hn, rfl, hI⟩ := hrel
        have HI2 := hid hI
        clear hI
        by_cases hlt : n < 25
        · obtain ⟨m, hm⟩ : ∃ m, n % 5 = m := ⟨_, rfl⟩
          have e1 : (n : Int) % 5 = (m : Int) := by omega
          have l1 : m < 5 := by omega
          have c1 := HI2.out.more.cell l1
          rw [mix_all (Nat.le_refl 5) m l1] at c1
          have c2 := HI2.out.src.cell hlt
          rw [mix_here] at c2
          have hfr := HI2.out.src.free n
          have HGn := hid (HG.out n)
          rw [hm] at HGn
          have HX := hid (x64 (HF.out n hlt) (HE.out m l1))
          have HT := hid (fun v z hv hz => HI2.out.stepG (v := v) (z := z) hv hz)
          generalize f n = s1 at *
          generalize e m = s2 at *
          clear hm
          go_wp2
          go_region
          go_wp2
          go_roundw
          case rel => exact ⟨n + 1, by omega, by go_num, (HT.out _ _ HX.out HGn.out.symm).drew⟩
          case measure => simp [intOf]; omega
        · obtain rfl : n = 25 := by omega
          have HM := hid HI2.out.src
          have HN := hid HI2.out.out
          go_wp2_with (first
            | (refine step_load_wa rfl 23 _ rfl w.heap.size 25 23 22 _ rfl HM.out Try.underlying23 info23 ?_)
            | (refine step_store_wa rfl 23 _ _ rfl (w.heap.size + 1) 25 23 _ _ rfl rfl HN.out info23 ?_))
          refine ret_wa rfl rfl Try.underlying23 info23 rfl (HI2.out.out.row (mix 25 f g)) ⟨?_, below_setRow HI2.out.low (by omega) _⟩
          rw [wa_ext (mix_all (Nat.le_refl 25))]
end Go.Proofs.Ytfgbcohmbbjagaa
