import Derived.Test.YthopdlcmmafcaaaProg
import Derived.Test.YthopdlcmmafcaaaTpa
/- Trace: blocks, tallies, what is opened, by the (scratch) program. -/
namespace Go.Proofs.Ythopdlcmmafcaaa
open Go.RowKit
set_option maxRecDepth 100000
set_option maxHeartbeats 12800000 in
theorem tblocks_any (N : Int) (v0 v1 : Value) (L M : Nat) (f : Nat → Op6) (g : Nat → Sp3) (w : World) (h : ROp w v0 L f) (h' : RSp w v1 M g) :
    Calls Try.prog 18 #[trV N v0 v1] w fun e w' => e = .returned (.bool (allB (okS L g) M)) ∧ Below w.heap.size w w' := by
  obtain ⟨a0, cap0, rfl, _⟩ := id h.at_
  obtain ⟨a, cap, rfl, _⟩ := id h'.at_
  have hlim := h'.lim
  have hlim0 := h.lim
  obtain ⟨b, off, ha, hb, hsps⟩ := rsp_sps h'
  have HB : Hid (Below w.heap.size w (w.alloc (.cells #[.int .i64 N, .slice a0 L cap0, .slice a M cap] 25))) := hid ((Below.refl _ _).alloc (Nat.le_refl _) _)
  have HTb := hid (fun w' => tb_box (w := w) (w' := w') (N := N) (v0 := .slice a0 L cap0) (v1 := .slice a M cap) (T := 25))
  have HA := hid ha
  obtain ⟨w1, hw1⟩ : ∃ w1, w.alloc (.cells #[.int .i64 N, .slice a0 L cap0, .slice a M cap] 25) = w1 := ⟨_, rfl⟩
  rw [hw1] at HB HTb
  have HW1 := hid hw1
  have HSp : Hid (∀ w', Below w1.heap.size w1 w' → ∀ i, i < M → Sc w' b (off + i * 3) (g i)) := hid (fun w' hw i hi => (hsps i hi).self (HB.out.trans (hw.mono HB.out.size)))
  clear h h' hsps ha hb hw1
  have HG : Hid (∀ j, j < M → okS L g j = false → allB (okS L g) M = false) := hid (fun j hj hf => allB_no hj hf)
  generalize hR : allB (okS L g) M = R at *
  have HRL := hid hR
  clear hR
  go_enter Try.func18, Try.ntmps18
  go_wp2
  rw [HW1.out]
  go_loopw [3, 9] (fun c i wr => ∃ j : Nat, j ≤ M ∧ i = .int .i64 j ∧ c = .int .i64 (lastT g j) ∧ RJ w1 wr L g j) (fun _ i _ => M - (intOf i).toNat)
  case atStart => exact ⟨0, by omega, rfl, rfl, ⟨rfl, Below.refl _ _⟩⟩
  case round =>
    obtain ⟨j, hj, rfl, rfl, hI⟩ := hrel
    have HI := hid hI
    clear hI
    by_cases hlt : j < M
    · have hae := HA.out (by omega)
      subst hae
      have j1 : (0 : Int) ≤ (j : Int) := by omega
      have j2 : (j : Int) < (M : Int) := by omega
      have HGj := hid (HG.out j hlt)
      have HOd : Hid (okS L g j = decide ((1 ≤ (g j).K ∧ (g j).K ≤ 3) ∧ lastT g j ≤ (g j).F ∧ (g j).F < (g j).T ∧ (g j).T ≤ (L : Int))) := hid rfl
      obtain ⟨k0, k1, k2⟩ := HSp.out wr HI.out.low j hlt
      have HI2 := hid (HI.out.low.trans (((Below.refl _ wr).alloc (Nat.le_refl _) (.cells #[.int .i64 (g j).K, .int .i64 (g j).F, .int .i64 (g j).T] 42)).mono HI.out.low.size))
      have t0 := (HTb.out _ HI2.out).o
      have HLn : Hid (lastT g (j + 1) = (g j).T) := hid rfl
      generalize hE : lastT g j = E at *
      clear hE
      generalize hgj : g j = s at *
      obtain ⟨K, F, T⟩ := s
      simp only at *
      by_cases g1 : K < 1
      · have HRf := hid (HGj.out (by rw [HOd.out]; exact decide_eq_false (by omega)))
        go_wp2
        go_ret
        exact ⟨by rw [HRf.out]; rfl, HB.out.trans (HI2.out.mono HB.out.size)⟩
      by_cases g2 : 3 < K
      · have HRf := hid (HGj.out (by rw [HOd.out]; exact decide_eq_false (by omega)))
        go_wp2
        go_ret
        exact ⟨by rw [HRf.out]; rfl, HB.out.trans (HI2.out.mono HB.out.size)⟩
      by_cases g3 : F < E
      · have HRf := hid (HGj.out (by rw [HOd.out]; exact decide_eq_false (by omega)))
        go_wp2
        go_ret
        exact ⟨by rw [HRf.out]; rfl, HB.out.trans (HI2.out.mono HB.out.size)⟩
      by_cases g4 : T ≤ F
      · have HRf := hid (HGj.out (by rw [HOd.out]; exact decide_eq_false (by omega)))
        go_wp2
        go_ret
        exact ⟨by rw [HRf.out]; rfl, HB.out.trans (HI2.out.mono HB.out.size)⟩
      by_cases g5 : (L : Int) < T
      · have HRf := hid (HGj.out (by rw [HOd.out]; exact decide_eq_false (by omega)))
        go_wp2
        go_ret
        exact ⟨by rw [HRf.out]; rfl, HB.out.trans (HI2.out.mono HB.out.size)⟩
      have HOk : Hid (okS L g j = true) := hid (by rw [HOd.out]; exact decide_eq_true (by omega))
      have q1 : decide (K < 1) = false := decide_eq_false g1
      have q2 : decide (3 < K) = false := decide_eq_false g2
      have q3 : decide (F < E) = false := decide_eq_false g3
      have q4 : decide (T ≤ F) = false := decide_eq_false g4
      have q5 : decide ((L : Int) < T) = false := decide_eq_false g5
      go_wp2
      go_roundw
      case rel => exact ⟨j + 1, by omega, by go_num, by rw [HLn.out], ⟨by show (allB (okS L g) j && okS L g j) = true; rw [HI.out.ok, HOk.out]; rfl, HI2.out⟩⟩
      case measure => simp [intOf]; omega
    · obtain rfl : j = M := by omega
      have HE := hid (HRL.out.symm.trans HI.out.ok)
      clear hlt hj
      go_wp2
      go_ret
      exact ⟨by rw [HE.out]; rfl, HB.out.trans (HI.out.low.mono HB.out.size)⟩
end Go.Proofs.Ythopdlcmmafcaaa
