import Derived.Test.YtfomgomdhejfbaaProg
import Derived.Test.YtfomgomdhejfbaaTwc
import Derived.Deep.RegionWith
namespace Go.Proofs.Ytfomgomdhejfbaa
open Go.RowKit

theorem below_drewN {B : Nat} {a w : World} (h : Below B a w) (n : Nat) : Below B a (w.drewN n) := ⟨h.os, h.tape, h.output, h.size, h.block⟩

set_option maxHeartbeats 800000 in
theorem isRoot_any (a : Nat) (w : World) (ha : a < 256) :
    Calls Try.prog 32 #[.int .u8 (a : Int)] w fun e w' => e = .returned (.bool (decide (rsum a = 0))) ∧ Below w.heap.size w w' := by
  have HP := hid (fun w => powers_any a w ha)
  have HR : Hid (rsum a = (((tm (tp a 4) (tp a 4) ^^^ tp a 4) ^^^ tp a 3) ^^^ tp a 1) ^^^ tp a 0) := hid rfl
  have HL := hid (tp_lt a)
  generalize tp a = f at *
  obtain ⟨q, hq⟩ : ∃ q, tm (f 4) (f 4) = q := ⟨_, rfl⟩
  have lq : q < 256 := hq ▸ tm_lt _ _
  have MM := hid (fun w => tmul_to (HL.out 4) (HL.out 4) hq w)
  rw [hq] at HR
  clear hq
  have HX := hid (show bits .xor .u8 (bits .xor .u8 (bits .xor .u8 (bits .xor .u8 (q : Int) (f 4 : Int)) (f 3 : Int)) (f 1 : Int)) (f 0 : Int) = ((rsum a : Nat) : Int) by
    have l4 := HL.out 4
    have l3 := HL.out 3
    have l1 := HL.out 1
    have l0 := HL.out 0
    rw [xor8 (by omega) (by omega), xor8 (xor_lt (by omega) (by omega)) (by omega), xor8 (xor_lt (xor_lt (by omega) (by omega)) (by omega)) (by omega), xor8 (xor_lt (xor_lt (xor_lt (by omega) (by omega)) (by omega)) (by omega)) (by omega), HR.out])
  go_enter Try.func32, Try.ntmps32
  go_wp2_with (first
    | (go_at_call 42; (with_reducible refine (HP.out _).mono ?_); rintro e w1 ⟨rfl, hlow1⟩; have HB := hid hlow1; clear hlow1)
    | (refine step_store_ba rfl 24 _ _ rfl w1.heap.size 8 24 (fun _ => 0) _ rfl rfl (At.new w1 8 24 (fun _ => 0)) info22 ?_))
  have hA : At ((w1.alloc (.cells #[.int .u8 0, .int .u8 0, .int .u8 0, .int .u8 0, .int .u8 0, .int .u8 0, .int .u8 0, .int .u8 0] 24)).setRow w1.heap.size (ba 8 f)) w1.heap.size 8 24 f := (At.new w1 8 24 (fun _ => 0)).row f
  have hL : Hid (Below w.heap.size w ((w1.alloc (.cells #[.int .u8 0, .int .u8 0, .int .u8 0, .int .u8 0, .int .u8 0, .int .u8 0, .int .u8 0, .int .u8 0] 24)).setRow w1.heap.size (ba 8 f))) := hid (below_setRow (b := w1.heap.size) (HB.out.alloc HB.out.size (.cells (ba 8 (fun _ => 0)) 24)) HB.out.size (ba 8 f))
  generalize (w1.alloc (.cells #[.int .u8 0, .int .u8 0, .int .u8 0, .int .u8 0, .int .u8 0, .int .u8 0, .int .u8 0, .int .u8 0] 24)).setRow w1.heap.size (ba 8 f) = w2 at *
  have hc0 := hA.cell (j := 0) (by omega)
  have hc1 := hA.cell (j := 1) (by omega)
  have hc3 := hA.cell (j := 3) (by omega)
  have hc4 := hA.cell (j := 4) (by omega)
  have HA := hid hA
  clear hA
  generalize w1.heap.size = b1 at *
  go_quiet ((go_at_call 11; exact Calls.quiet_of_same (MM.out _)))
  go_wp2
  go_ret
  refine ⟨ret_bool ?_, below_drewN hL.out nq⟩
  rw [HX.out]
  by_cases h : rsum a = 0
  · rw [h]; rfl
  · rw [decide_eq_false h]; exact eqF (y := 0) h

theorem isRoot_to {a : Nat} {c : Bool} (w : World) (ha : a < 256) (h : decide (rsum a = 0) = c) :
    Calls Try.prog 32 #[.int .u8 (a : Int)] w fun e w' => e = .returned (.bool c) ∧ Below w.heap.size w w' := by
  have := isRoot_any a w ha
  rw [h] at this
  exact this

theorem isRoot_32 (w : World) : Calls Try.prog 32 #[.int .u8 32] w fun e w' => e = .returned (.bool true) ∧ Below w.heap.size w w' :=
  isRoot_to (a := 32) w (by decide) (decide_eq_true ((rsum_all 32 (by decide) (by decide)).2 rfl))

theorem root_any (w : World) :
    Calls Try.prog 16 #[] w fun e w' => e = .returned (.int .u8 32) ∧ Below w.heap.size w w' := by
  have HR := hid rsum_all
  go_enter Try.func16, Try.ntmps16
  go_wp2
  go_loopw [1] (fun i wr => ∃ j : Nat, 2 ≤ j ∧ j ≤ 32 ∧ i = .int .u8 j ∧ Below w.heap.size w wr) (fun i _ => 32 - (intOf i).toNat)
  case atStart => exact ⟨2, by omega, by omega, rfl, Below.refl _ _⟩
  case round =>
    obtain ⟨j, hj1, hj, rfl, hI⟩ := hrel
    have HI := hid hI
    clear hI
    by_cases hlt : j < 32
    · have hd : decide (rsum j = 0) = false := decide_eq_false (fun h => by have := (HR.out j (by omega) hj1).1 h; omega)
      go_wp2_with (go_at_call 32; (with_reducible refine (isRoot_to _ (by omega) hd).mono ?_); rintro e w1 ⟨rfl, hlow⟩; have HI2 := hid (HI.out.trans (hlow.mono HI.out.size)); clear hlow)
      go_roundw
      case rel => exact ⟨j + 1, by omega, by omega, by go_num, HI2.out⟩
      case measure => simp [intOf]; omega
    · obtain rfl : j = 32 := by omega
      go_wp2_with (go_at_call 32; (with_reducible refine (isRoot_32 _).mono ?_); rintro e w1 ⟨rfl, hlow⟩; have HI2 := hid (HI.out.trans (hlow.mono HI.out.size)); clear hlow)
      go_ret
      exact ⟨rfl, HI2.out⟩

set_option maxRecDepth 20000 in
theorem refroot_any (w : World) :
    Calls Try.prog 17 #[] w fun e w' => e = .returned (.int .u8 32) ∧ w' = w := by
  have HR := hid rsumD_all
  have HD : Hid (∀ g, rsumD g = ((tp g 8 ^^^ tp g 4) ^^^ tp g 3) ^^^ g) := hid (fun _ => rfl)
  have HL := hid tp_lt
  go_enter Try.func17, Try.ntmps17
  go_wp2
  go_loop [1] (fun i => ∃ j : Nat, 2 ≤ j ∧ j ≤ 32 ∧ i = .int .i64 j) (fun i => 32 - (intOf i).toNat)
  case atStart => exact ⟨2, by omega, by omega, rfl⟩
  case round =>
    obtain ⟨j, hj1, hj, rfl⟩ := hrel
    obtain ⟨p8, h8⟩ : ∃ p, tp j 8 = p := ⟨_, rfl⟩
    obtain ⟨p4, h4⟩ : ∃ p, tp j 4 = p := ⟨_, rfl⟩
    obtain ⟨p3, h3⟩ : ∃ p, tp j 3 = p := ⟨_, rfl⟩
    have hD := HD.out j
    rw [h8, h4, h3] at hD
    have l8 : p8 < 256 := h8 ▸ HL.out j 8
    have l4 : p4 < 256 := h4 ▸ HL.out j 4
    have l3 : p3 < 256 := h3 ▸ HL.out j 3
    have P8 : Hid (∀ w, Calls Try.prog 33 #[.int .u8 (j : Int), .int .i64 8] w fun e w' => e = .returned (.int .u8 (p8 : Nat)) ∧ w' = w) := hid (fun w => tpow_to (n := 8) (by omega) (by decide) h8 w)
    have P4 : Hid (∀ w, Calls Try.prog 33 #[.int .u8 (j : Int), .int .i64 4] w fun e w' => e = .returned (.int .u8 (p4 : Nat)) ∧ w' = w) := hid (fun w => tpow_to (n := 4) (by omega) (by decide) h4 w)
    have P3 : Hid (∀ w, Calls Try.prog 33 #[.int .u8 (j : Int), .int .i64 3] w fun e w' => e = .returned (.int .u8 (p3 : Nat)) ∧ w' = w) := hid (fun w => tpow_to (n := 3) (by omega) (by decide) h3 w)
    have HX := hid (show bits .xor .u8 (bits .xor .u8 (bits .xor .u8 (p8 : Int) (p4 : Int)) (p3 : Int)) (j : Int) = ((rsumD j : Nat) : Int) by
      rw [xor8 (by omega) (by omega), xor8 (xor_lt (by omega) (by omega)) (by omega), xor8 (xor_lt (xor_lt (by omega) (by omega)) (by omega)) (by omega), hD])
    have hR := HR.out j (by omega) hj1
    clear h8 h4 h3 hD
    by_cases hlt : j < 32
    · have hb : (bits .xor .u8 (bits .xor .u8 (bits .xor .u8 (p8 : Int) (p4 : Int)) (p3 : Int)) (j : Int) == 1) = false := by
        rw [HX.out]; exact eqF (y := 1) (fun h => by have := hR.1 h; omega)
      clear hR
      go_wp2_with (first
        | (go_at_call 33; (with_reducible refine (P8.out _).mono ?_); rintro e w1 ⟨rfl, rfl⟩)
        | (go_at_call 33; (with_reducible refine (P4.out _).mono ?_); rintro e w1 ⟨rfl, rfl⟩)
        | (go_at_call 33; (with_reducible refine (P3.out _).mono ?_); rintro e w1 ⟨rfl, rfl⟩))
      go_round
      case rel => exact ⟨j + 1, by omega, by omega, by go_num⟩
      case measure => simp [intOf]; omega
    · have hb : (bits .xor .u8 (bits .xor .u8 (bits .xor .u8 (p8 : Int) (p4 : Int)) (p3 : Int)) (j : Int) == 1) = true := by
        rw [HX.out]; exact eqT (y := 1) (hR.2 (by omega))
      clear hR
      go_wp2_with (first
        | (go_at_call 33; (with_reducible refine (P8.out _).mono ?_); rintro e w1 ⟨rfl, rfl⟩)
        | (go_at_call 33; (with_reducible refine (P4.out _).mono ?_); rintro e w1 ⟨rfl, rfl⟩)
        | (go_at_call 33; (with_reducible refine (P3.out _).mono ?_); rintro e w1 ⟨rfl, rfl⟩))
      go_ret
      exact ⟨ret_int (by omega), rfl⟩

theorem refin_any (x : Nat) (w : World) :
    Calls Try.prog 25 #[.int .u8 (x : Int)] w fun e w' => e = .returned (.int .u8 (tiF x 8 : Nat)) ∧ w' = w := by
  have H1 : Hid (∀ j, x / 2 ^ j % 2 = 1 → tiF x (j + 1) = tiF x j ^^^ tp 32 j) := hid (fun j h => if_pos h)
  have H0 : Hid (∀ j, x / 2 ^ j % 2 ≠ 1 → tiF x (j + 1) = tiF x j) := hid (fun j h => if_neg h)
  have HZ : Hid (tiF x 0 = 0) := hid rfl
  have HL := hid (tiF_lt x)
  have HP := hid (tp_lt 32)
  have PW : Hid (∀ (j : Nat) (w : World), j < 8 → Calls Try.prog 33 #[.int .u8 32, .int .i64 (j : Int)] w fun e w' => e = .returned (.int .u8 (tp 32 j : Nat)) ∧ w' = w) := hid (fun j w h => tpow_any 32 j w (by decide) (by omega))
  generalize tp 32 = f at *
  generalize tiF x = g at *
  go_enter Try.func25, Try.ntmps25
  go_wp2_with (go_at_call 17; (with_reducible refine (refroot_any _).mono ?_); rintro e w1 ⟨rfl, rfl⟩)
  go_loop [3, 5] (fun n i => ∃ j N : Nat, j ≤ 8 ∧ N < 256 ∧ Hid (N = g j) ∧ i = .int .i64 j ∧ n = .int .u8 N) (fun _ i => 8 - (intOf i).toNat)
  case atStart => exact ⟨0, 0, by omega, by omega, hid HZ.out.symm, rfl, rfl⟩
  case round =>
    obtain ⟨j, N, hj, hN, HN, rfl, rfl⟩ := hrel
    by_cases hlt : j < 8
    · by_cases hb1 : x / 2 ^ j % 2 = 1
      · have ht := bitT hb1
        have h2 := H1.out j hb1
        rw [← HN.out] at h2
        have PJ := hid (fun w => PW.out j w hlt)
        have lj := HP.out j
        have lg := HL.out (j + 1)
        generalize f j = p at PJ h2 lj
        have HQ : Hid (N ^^^ p = g (j + 1)) := hid h2.symm
        have l2 := xor_lt hN lj
        clear hb1 h2 lg
        go_wp2_with (go_at_call 33; (with_reducible refine (PJ.out _).mono ?_); rintro e w1 ⟨rfl, rfl⟩)
        go_round
        case rel => exact ⟨j + 1, N ^^^ p, by omega, l2, HQ, by go_num, by rw [xor8 hN lj]⟩
        case measure => simp [intOf]; omega
      · have ht := bitF hb1
        have h2 := H0.out j hb1
        rw [← HN.out] at h2
        have HQ := hid h2.symm
        clear hb1 h2
        go_wp2
        go_round
        case rel => exact ⟨j + 1, N, by omega, hN, HQ, by go_num, rfl⟩
        case measure => simp [intOf]; omega
    · obtain rfl : j = 8 := by omega
      go_wp2
      go_ret
      exact ⟨ret_int (by rw [HN.out]), rfl⟩
end Go.Proofs.Ytfomgomdhejfbaa
