import Derived.Test.YtmggmjilgjogfaaProg
import Derived.Test.YtmggmjilgjogfaaTwc
import Derived.Deep.RegionWith
namespace Go.Proofs.Ytmggmjilgjogfaa
open Go.RowKit

theorem below_drewN {B : Nat} {a w : World} (h : Below B a w) (n : Nat) : Below B a (w.drewN n) := ⟨h.os, h.tape, h.output, h.size, h.block⟩

set_option maxHeartbeats 800000 in
theorem isRoot_any (a : Nat) (w : World) (ha : a < 256) :
    Calls Try.prog 52 #[.int .u8 (a : Int)] w fun e w' => e = .returned (.bool (decide (rsum a = 0))) ∧ Below w.heap.size w w' := by
  have HP := hid (fun w => powers_any a w ha)
  have HR : Hid (rsum a = (((tm (tp a 4) (tp a 4) ^^^ tp a 4) ^^^ tp a 3) ^^^ tp a 1) ^^^ tp a 0) := hid rfl
  have HL := hid (tp_lt a)
  generalize tp a = f at *
  obtain ⟨q, hq⟩ : ∃ q, tm (f 4) (f 4) = q := ⟨_, rfl⟩
  have lq : q < 256 := hq ▸ tm_lt _ _
  have MM := hid (fun w => tmul_to (HL.out 4) (HL.out 4) hq w)
  rw [hq] at HR
  clear hq
  have HX := hid (show bits .xor .u8 (bits .xor .u8 (bits .xor .u8 (bits .xor .u8 (q : Int) (f 4 : Int)) (f 3 : Int)) (f 1 : Int)) (f 0 : Int) = ((rsum a : Nat) : Int) by
    have l4 := HL.out 4
    have l3 := HL.out 3
    have l1 := HL.out 1
    have l0 := HL.out 0
    rw [xor8 (by omega) (by omega), xor8 (xor_lt (by omega) (by omega)) (by omega), xor8 (xor_lt (xor_lt (by omega) (by omega)) (by omega)) (by omega), xor8 (xor_lt (xor_lt (xor_lt (by omega) (by omega)) (by omega)) (by omega)) (by omega), HR.out])
  go_enter Try.func52, Try.ntmps52
  go_wp2_with (first
    | (go_at_call 42; (with_reducible refine (HP.out _).mono ?_); rintro e w1 ⟨rfl, hlow1⟩; have HB := hid hlow1; clear hlow1)
    | (refine step_store_ba rfl 24 _ _ rfl w1.heap.size 8 24 (fun _ => 0) _ rfl rfl (At.new w1 8 24 (fun _ => 0)) info22 ?_))
  have hA : At ((w1.alloc (.cells #[.int .u8 0, .int .u8 0, .int .u8 0, .int .u8 0, .int .u8 0, .int .u8 0, .int .u8 0, .int .u8 0] 24)).setRow w1.heap.size (ba 8 f)) w1.heap.size 8 24 f := (At.new w1 8 24 (fun _ => 0)).row f
  have hL : Hid (Below w.heap.size w ((w1.alloc (.cells #[.int .u8 0, .int .u8 0, .int .u8 0, .int .u8 0, .int .u8 0, .int .u8 0, .int .u8 0, .int .u8 0] 24)).setRow w1.heap.size (ba 8 f))) := hid (below_setRow (b := w1.heap.size) (HB.out.alloc HB.out.size (.cells (ba 8 (fun _ => 0)) 24)) HB.out.size (ba 8 f))
  generalize (w1.alloc (.cells #[.int .u8 0, .int .u8 0, .int .u8 0, .int .u8 0, .int .u8 0, .int .u8 0, .int .u8 0, .int .u8 0] 24)).setRow w1.heap.size (ba 8 f) = w2 at *
  have hc0 := hA.cell (j := 0) (by omega)
  have hc1 := hA.cell (j := 1) (by omega)
  have hc3 := hA.cell (j := 3) (by omega)
  have hc4 := hA.cell (j := 4) (by omega)
  have HA := hid hA
  clear hA
  generalize w1.heap.size = b1 at *
  go_quiet ((go_at_call 51; exact Calls.quiet_of_same (MM.out _)))
  go_wp2
  go_ret
  refine ⟨ret_bool ?_, below_drewN hL.out nq⟩
  rw [HX.out]
  by_cases h : rsum a = 0
  · rw [h]; rfl
  · rw [decide_eq_false h]; exact eqF (y := 0) h

theorem isRoot_to {a : Nat} {c : Bool} (w : World) (ha : a < 256) (h : decide (rsum a = 0) = c) :
    Calls Try.prog 52 #[.int .u8 (a : Int)] w fun e w' => e = .returned (.bool c) ∧ Below w.heap.size w w' := by
  have := isRoot_any a w ha
  rw [h] at this
  exact this

theorem isRoot_32 (w : World) : Calls Try.prog 52 #[.int .u8 32] w fun e w' => e = .returned (.bool true) ∧ Below w.heap.size w w' :=
  isRoot_to (a := 32) w (by decide) (decide_eq_true ((rsum_all 32 (by decide) (by decide)).2 rfl))

theorem root_any (w : World) :
    Calls Try.prog 43 #[] w fun e w' => e = .returned (.int .u8 32) ∧ Below w.heap.size w w' := by
  have HR := hid rsum_all
  go_enter Try.func43, Try.ntmps43
  go_wp2
  go_loopw [1] (fun i wr => ∃ j : Nat, 2 ≤ j ∧ j ≤ 32 ∧ i = .int .u8 j ∧ Below w.heap.size w wr) (fun i _ => 32 - (intOf i).toNat)
  case atStart => exact ⟨2, by omega, by omega, rfl, Below.refl _ _⟩
  case round =>
    obtain ⟨j, hj1, hj, rfl, hI⟩ := hrel
    have HI := hid hI
    clear hI
    by_cases hlt : j < 32
    · have hd : decide (rsum j = 0) = false := decide_eq_false (fun h => by have := (HR.out j (by omega) hj1).1 h; omega)
      go_wp2_with (go_at_call 52; (with_reducible refine (isRoot_to _ (by omega) hd).mono ?_); rintro e w1 ⟨rfl, hlow⟩; have HI2 := hid (HI.out.trans (hlow.mono HI.out.size)); clear hlow)
      go_roundw
      case rel => exact ⟨j + 1, by omega, by omega, by go_num, HI2.out⟩
      case measure => simp [intOf]; omega
    · obtain rfl : j = 32 := by omega
      go_wp2_with (go_at_call 52; (with_reducible refine (isRoot_32 _).mono ?_); rintro e w1 ⟨rfl, hlow⟩; have HI2 := hid (HI.out.trans (hlow.mono HI.out.size)); clear hlow)
      go_ret
      exact ⟨rfl, HI2.out⟩

end Go.Proofs.Ytmggmjilgjogfaa
