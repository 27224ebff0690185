import Derived.Test.YtfgbcohmbbjagaaKcr
import Derived.Test.YtfgbcohmbbjagaaKco
namespace Go.Proofs.Ytfgbcohmbbjagaa
open Go.RowKit

/-! ### the law's sum -/
structure W3 (f g : Nat → Nat) (w wr : World) : Prop where
  src : Aw wr w.heap.size 25 23 f
  two : Aw wr (w.heap.size + 1) 25 23 g
  out : Aw wr (w.heap.size + 2) 25 23 (fun _ => 0)
  low : Below w.heap.size w wr
theorem W3.start (f g : Nat → Nat) (w : World) : W3 f g w (((w.alloc (.cells (wa 25 f) 23)).alloc (.cells (wa 25 g) 23)).alloc (.cells (wa 25 (fun _ => 0)) 23)) := by
  have h1 := Aw.new (w.alloc (.cells (wa 25 f) 23)) 25 23 g
  have h2 := Aw.new ((w.alloc (.cells (wa 25 f) 23)).alloc (.cells (wa 25 g) 23)) 25 23 (fun _ => 0)
  rw [World.size_alloc] at h1
  rw [World.size_alloc, World.size_alloc] at h2
  exact ⟨((Aw.new w 25 23 f).alloc _).alloc _, h1.alloc _, h2, (((Below.refl _ _).alloc (Nat.le_refl _) _).alloc (by simp) _).alloc (by simp; omega) _⟩
theorem W3.drew {f g : Nat → Nat} {w wr : World} (h : W3 f g w wr) : W3 f g w wr.drew := ⟨h.src.drew, h.two.drew, h.out.drew, h.low.drew⟩
theorem W3.mixed {f g k : Nat → Nat} {n : Nat} {w wr : World} (h : W3 (mix n f k) g w wr) {v : Int} {z : Nat} (hv : v = (z : Int)) (hz : z = k n) : W3 (mix (n + 1) f k) g w (wr.setCell ⟨w.heap.size, n, none⟩ (.int .u64 v)) := by
  subst hv
  rw [← mix_step n f k hz]
  exact ⟨h.src.set n z, h.two.apart (by simp) _, h.out.apart (by simp) _, h.low.setCell (by simp) _⟩

set_option maxRecDepth 100000 in
set_option maxHeartbeats 800000 in
theorem ksum_any (f g : Nat → Nat) (w : World) (hf : W25 f) (hg : W25 g) :
    Calls Try.prog 19 #[.agg (wa 25 f), .agg (wa 25 g)] w fun e w' => e = .returned (.agg (wa 25 (sm f g))) ∧ Below w.heap.size w w' := by
  have HS := hid (W3.start f g w)
  have HF := hid hf
  have HG := hid hg
  have HK : Hid (∀ i, sm f g i = f i ^^^ g i) := hid (fun _ => rfl)
  generalize sm f g = k at *
  clear hf hg
  go_enter Try.func19, Try.ntmps19
  go_wp2
  go_loopw [5] (fun i wr => ∃ n : Nat, n ≤ 25 ∧ i = .int .i64 n ∧ W3 (mix n f k) g w wr) (fun i _ => 25 - (intOf i).toNat)
  case atStart => exact ⟨0, by omega, rfl, by rw [mix_zero]; exact HS.out⟩
  case round =>
    obtain ⟨n, hn, rfl, hI⟩ := hrel
    have HI := hid hI
    clear hI
    by_cases hlt : n < 25
    · have c1 := HI.out.drew.src.cell hlt
      rw [mix_here] at c1
      have c2 := HI.out.drew.two.cell hlt
      have hfr := HI.out.drew.src.free n
      have HX := hid (x64 (HF.out n hlt) (HG.out n hlt))
      have HKn := hid (HK.out n)
      have HT := hid (fun v z hv hz => HI.out.drew.mixed (v := v) (z := z) hv hz)
      generalize f n = s0 at *
      generalize g n = s1 at *
      have n2 : (n : Int) < 25 := by omega
      have p2 : (0 : Int) ≤ (n : Int) := by omega
      go_wp2
      refine region_tail 9 (by kernel_rfl) (by kernel_rfl) ?_
      simp only [List.take_succ_cons, List.take_zero, List.drop_succ_cons, List.drop_zero]
      generalize wr.drew = w2 at *
      repeat still_step
      refine wpStill_nil ?_
      go_wp2
      go_roundw
      case rel => exact ⟨n + 1, by omega, by go_num, HT.out _ _ HX.out HKn.out.symm⟩
      case measure => simp [intOf]; omega
    · obtain rfl : n = 25 := by omega
      have HM := hid HI.out.src
      have HN := hid HI.out.out
      go_wp2_with (first
        | (refine step_load_wa rfl 23 _ rfl w.heap.size 25 23 22 _ rfl HM.out Try.underlying23 info23 ?_)
        | (refine step_store_wa rfl 23 _ _ rfl (w.heap.size + 2) 25 23 _ _ rfl rfl HN.out info23 ?_))
      refine ret_wa rfl rfl Try.underlying23 info23 rfl (HI.out.out.row _) ⟨?_, below_setRow HI.out.low (by omega) _⟩
      rw [wa_ext (mix_all (Nat.le_refl 25))]

/-! ### the examples -/
theorem mkf_one : mkf 1 = 32898 := by decide +kernel
set_option maxRecDepth 100000 in
set_option maxHeartbeats 800000 in
theorem kawake_any (w : World) : Calls Try.prog 18 #[] w fun e w' => e = .returned (.bool true) ∧ Below w.heap.size w w' := by
  have HP : Hid (∀ w, Calls Try.prog 16 #[.agg (wa 25 zer)] w fun e w' => e = .returned (.agg (wa 25 (pm tun mkf 24 zer))) ∧ Below w.heap.size w w') := hid (fun w => permute_any zer w (fun _ _ => Nat.two_pow_pos 64))
  have HM : Hid (∀ w, Calls Try.prog 6 #[.int .i64 1] w fun e w' => e = .returned (.int .u64 32898) ∧ Below w.heap.size w w') := hid (fun w => by
    have := mark_any 1 w
    rw [show mkq 1 = 32898 from (mkq_in (i := 1) (by decide)).trans mkf_one] at this
    exact this)
  have HE := hid zer_all
  generalize pm tun mkf 24 zer = g at *
  go_enter Try.func18, Try.ntmps18
  go_wp2_with (first
    | (go_at_call 16; refine (HP.out _).mono ?_; rintro e w1 ⟨rfl, hlow⟩; have HL := hid hlow; have HA := hid ((Aw.new w1 25 23 (fun _ => 0)).row g); have HB := hid (below_setRow (b := w1.heap.size) (hlow.alloc hlow.size (.cells (wa 25 (fun _ => 0)) 23)) hlow.size (wa 25 g)); clear hlow)
    | (refine step_store_wa rfl 23 _ _ rfl w1.heap.size 25 23 (fun _ => 0) g rfl rfl (Aw.new w1 25 23 (fun _ => 0)) info23 ?_)
    | (go_at_call 6; refine (HM.out _).mono ?_; rintro e w2 ⟨rfl, hlow⟩; have HA2 := HA.out.self hlow; have hc := HA2.cell (j := 0) (by omega); rw [HE.out] at hc; have HB2 := hid (HB.out.trans (hlow.mono HB.out.size)); clear hlow HA2))
  go_ret
  exact ⟨rfl, HB2.out⟩
end Go.Proofs.Ytfgbcohmbbjagaa
