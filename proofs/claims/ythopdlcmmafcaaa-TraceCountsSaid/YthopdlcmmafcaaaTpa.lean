import Derived.Test.YthopdlcmmafcaaaProg
import Derived.Test.YthopdlcmmafcaaaOro
import Derived.Test.YthopdlcmmafcaaaTrf
/- Trace: ops, by the (scratch) program. -/
namespace Go.Proofs.Ythopdlcmmafcaaa
open Go.RowKit
set_option maxRecDepth 100000
abbrev opC (o : Op6) : Array Value := #[.int .i64 o.K, .int .i64 o.D, .int .i64 o.A, .int .i64 o.B, .int .i64 o.E, .int .u64 (o.C : Int)]
set_option maxHeartbeats 6400000 in
theorem tops_any (N : Int) (v0 v1 : Value) (L : Nat) (f : Nat → Op6) (w : World) (h : ROp w v0 L f) :
    Calls Try.prog 17 #[trV N v0 v1] w fun e w' => e = .returned (.bool (allB (okO N f) L)) ∧ Below w.heap.size w w' := by
  obtain ⟨a, cap, rfl, _⟩ := id h.at_
  have hlim := h.lim
  obtain ⟨b, off, ha, hb, hops⟩ := rop_ops h
  have HB : Hid (Below w.heap.size w (w.alloc (.cells #[.int .i64 N, .slice a L cap, v1] 25))) := hid ((Below.refl _ _).alloc (Nat.le_refl _) _)
  have HTb := hid (fun w' => tb_box (w := w) (w' := w') (N := N) (v0 := .slice a L cap) (v1 := v1) (T := 25))
  have HR := hid (fun (j : Nat) w => oright_any (f j) j N w)
  have HA := hid ha
  obtain ⟨w1, hw1⟩ : ∃ w1, w.alloc (.cells #[.int .i64 N, .slice a L cap, v1] 25) = w1 := ⟨_, rfl⟩
  rw [hw1] at HB HTb
  have HW1 := hid hw1
  have HOp : Hid (∀ w', Below w1.heap.size w1 w' → ∀ i, i < L → Oc w' b (off + i * 6) (f i)) := hid (fun w' hw i hi => (hops i hi).self (HB.out.trans (hw.mono HB.out.size)))
  have HWf := hid (fun i (hi : i < L) => (h.wf i hi).2.2.2.2.2)
  clear h hops ha hb hw1
  have HF : Hid (∀ j, j < L → okO N f j = false → allB (okO N f) L = false) := hid (fun j hj hf => allB_no hj hf)
  generalize hR : allB (okO N f) L = R at *
  have HRL := hid hR
  clear hR
  go_enter Try.func17, Try.ntmps17
  go_wp2
  rw [HW1.out]
  go_loopw [3, 9] (fun c i wr => ∃ j : Nat, j ≤ L ∧ i = .int .i64 j ∧ c = .int .u64 (kc f j : Nat) ∧ RI w1 wr N f j) (fun _ i _ => L - (intOf i).toNat)
  case atStart => exact ⟨0, by omega, rfl, rfl, ⟨rfl, Below.refl _ _⟩⟩
  case round =>
    obtain ⟨j, hj, rfl, rfl, hI⟩ := hrel
    have HI := hid hI
    clear hI
    by_cases hlt : j < L
    · have hae := HA.out (by omega)
      subst hae
      have j1 : (0 : Int) ≤ (j : Int) := by omega
      have j2 : (j : Int) < (L : Int) := by omega
      have HFj := hid (HF.out j hlt)
      have HOd : Hid (okO N f j = (okOp (f j) (j : Int) N && decide ((f j).K = 2 → (f j).C = kc f j))) := hid (by unfold okO; rfl)
      have HRj := hid (HR.out j)
      have hkc : kc f j ≤ j := cnt_le _ _ _
      have HSt := hid (kc_step f j)
      have hwf := HWf.out j hlt
      obtain ⟨k0, k1, k2, k3, k4, k5⟩ := HOp.out wr HI.out.low j hlt
      have HI2 := hid (HI.out.low.trans (((Below.refl _ wr).alloc (Nat.le_refl _) (.cells (opC (f j)) 40)).mono HI.out.low.size))
      have t0 := (HTb.out _ HI2.out).n
      obtain ⟨q, hq⟩ : ∃ q, okOp (f j) (j : Int) N = q := ⟨_, rfl⟩
      rw [hq] at HRj HOd
      clear hq
      cases q
      · have HRf := hid (HFj.out (by rw [HOd.out]; rfl))
        go_wp2_with (go_at_call 23; (with_reducible refine (HRj.out _).mono ?_); rintro e v2 ⟨rfl, g1⟩; have G1 := hid (HI2.out.trans (g1.mono HI2.out.size)); clear g1)
        go_ret
        exact ⟨by rw [HRf.out]; rfl, HB.out.trans (G1.out.mono HB.out.size)⟩
      · by_cases hk : (f j).K = 2
        · by_cases hc : (f j).C = kc f j
          · have HOk : Hid (okO N f j = true) := hid (by rw [HOd.out, Bool.true_and]; exact decide_eq_true (fun _ => hc))
            have HSn : Hid (kc f (j + 1) = kc f j + 1) := hid (by rw [HSt.out, if_pos hk])
            have hw : IntKind.u64.wrap ((kc f j : Int) + 1) = ((kc f j + 1 : Nat) : Int) := by rw [IntKind.wrap_u64]; omega
            have e1 : ((f j).K != 2) = false := by simp [hk]
            have e2 : (((f j).C : Int) != (kc f j : Int)) = false := by simp [hc]
            clear hk hc
            generalize kc f j = c at *
            go_wp2_with (go_at_call 23; (with_reducible refine (HRj.out _).mono ?_); rintro e v2 ⟨rfl, g1⟩; have G1 := hid (HI2.out.trans (g1.mono HI2.out.size)); obtain ⟨d0, _, _, _, _, d5⟩ := ocells ((g1.block _ (by simp)).trans (heap_alloc_new wr (.cells (opC (f j)) 40))); clear g1)
            go_roundw
            case rel => exact ⟨j + 1, by omega, by go_num, by rw [HSn.out]; exact congrArg _ (by omega), ⟨by show (allB (okO N f) j && okO N f j) = true; rw [HI.out.ok, HOk.out]; rfl, G1.out⟩⟩
            case measure => simp [intOf]; omega
          · have HRf := hid (HFj.out (by rw [HOd.out, Bool.true_and]; exact decide_eq_false (fun h => hc (h hk))))
            have e1 : ((f j).K != 2) = false := by simp [hk]
            have e2 : (((f j).C : Int) != (kc f j : Int)) = true := by simp; omega
            clear hk hc
            generalize kc f j = c at *
            go_wp2_with (go_at_call 23; (with_reducible refine (HRj.out _).mono ?_); rintro e v2 ⟨rfl, g1⟩; have G1 := hid (HI2.out.trans (g1.mono HI2.out.size)); obtain ⟨d0, _, _, _, _, d5⟩ := ocells ((g1.block _ (by simp)).trans (heap_alloc_new wr (.cells (opC (f j)) 40))); clear g1)
            go_ret
            exact ⟨by rw [HRf.out]; rfl, HB.out.trans (G1.out.mono HB.out.size)⟩
        · have HOk : Hid (okO N f j = true) := hid (by rw [HOd.out, Bool.true_and]; exact decide_eq_true (fun h => absurd h hk))
          have HSn : Hid (kc f (j + 1) = kc f j) := hid (by rw [HSt.out, if_neg hk])
          have e1 : ((f j).K != 2) = true := by simp [hk]
          clear hk
          go_wp2_with (go_at_call 23; (with_reducible refine (HRj.out _).mono ?_); rintro e v2 ⟨rfl, g1⟩; have G1 := hid (HI2.out.trans (g1.mono HI2.out.size)); obtain ⟨d0, _, _, _, _, d5⟩ := ocells ((g1.block _ (by simp)).trans (heap_alloc_new wr (.cells (opC (f j)) 40))); clear g1)
          go_roundw
          case rel => exact ⟨j + 1, by omega, by go_num, by rw [HSn.out], ⟨by show (allB (okO N f) j && okO N f j) = true; rw [HI.out.ok, HOk.out]; rfl, G1.out⟩⟩
          case measure => simp [intOf]; omega
    · obtain rfl : j = L := by omega
      have HE := hid (HRL.out.symm.trans HI.out.ok)
      clear hlt hj
      go_wp2
      go_ret
      exact ⟨by rw [HE.out]; rfl, HB.out.trans (HI.out.low.mono HB.out.size)⟩
end Go.Proofs.Ythopdlcmmafcaaa
