import Derived.Test.YtfomgomdhejfbaaProg
import Derived.Test.YtfomgomdhejfbaaTwd
import Derived.Test.YtfomgomdhejfbaaMa6
import Derived.Test.YtfomgomdhejfbaaMa8
import Derived.Test.YtfomgomdhejfbaaMa9
namespace Go.Proofs.Ytfomgomdhejfbaa
open Go.RowKit

structure VInv (f : Nat → Nat) (w wr : World) (j : Nat) : Prop where
  out : At wr w.heap.size 8 25 (fun _ => 0)
  var : At wr (w.heap.size + 1) 8 24 (upTo f j)
  low : Below w.heap.size w wr
theorem VInv.step {f : Nat → Nat} {w wr : World} {j : Nat} (h : VInv f w wr j) {z : Nat} (hz : z = f j) : VInv f w (wr.setCell ⟨w.heap.size + 1, j, none⟩ (.int .u8 (z : Int))) (j + 1) := by
  refine ⟨h.out.apart (by simp) _, (h.var.set j z).ext (fun i _ => ?_), h.low.setCell (by simp) _⟩
  unfold upd upTo
  by_cases e : i = j
  · subst e; simp [hz]
  · rw [if_neg e]
    by_cases h1 : i < j
    · rw [if_pos h1, if_pos (by omega)]
    · rw [if_neg h1, if_neg (by omega)]
theorem VInv.start (f : Nat → Nat) (w : World) : VInv f w ((w.alloc (.cells (ba 8 (fun _ => 0)) 25)).alloc (.cells (ba 8 (fun _ => 0)) 24)) 0 := by
  refine ⟨(At.new w 8 25 (fun _ => 0)).alloc _, ?_, ((Below.refl _ _).alloc (Nat.le_refl _) _).alloc (by simp) _⟩
  have := At.new (w.alloc (.cells (ba 8 (fun _ => 0)) 25)) 8 24 (fun _ => 0)
  rw [World.size_alloc] at this
  exact this.ext (fun i _ => (if_neg (by omega)).symm)
theorem VInv.on {f : Nat → Nat} {w wr w1 : World} {j : Nat} (m : VInv f w wr j) (h : Below wr.heap.size wr w1) : VInv f w w1 j :=
  ⟨m.out.self h, m.var.self h, m.low.trans (h.mono m.low.size)⟩

set_option maxHeartbeats 800000 in
theorem inMat_any (w : World) :
    Calls Try.prog 7 #[] w fun e w' => e = .returned (.agg (ba 8 inM)) ∧ Below w.heap.size w w' := by
  have RI : Hid (∀ (j : Nat) (w : World), j < 8 → Calls Try.prog 25 #[.int .u8 ((2 : Int) ^ j % 256)] w fun e w' => e = .returned (.int .u8 (tp 32 j : Nat)) ∧ w' = w) := hid (fun j w h => by
    have := refin_any (2 ^ j) w
    rw [tiF_two j h] at this
    rw [sh8 h]
    exact this)
  have HC : Hid (∀ w, Calls Try.prog 26 #[.agg (ba 8 (tp 32))] w fun e w' => e = .returned (.agg (ba 8 inM)) ∧ Below w.heap.size w w') := hid (fun w => refcolumns_any (tp 32) w (tp_by 32))
  have HS := hid (VInv.start (tp 32) w)
  generalize tp 32 = f at *
  generalize inM = g at *
  go_enter Try.func7, Try.ntmps7
  go_wp2
  go_loopw [2] (fun i wr => ∃ j : Nat, j ≤ 8 ∧ i = .int .i64 j ∧ VInv f w wr j) (fun i _ => 8 - (intOf i).toNat)
  case atStart => exact ⟨0, by omega, rfl, HS.out⟩
  case round =>
    obtain ⟨j, hj, rfl, hI⟩ := hrel
    have HI := hid hI
    clear hI
    by_cases hlt : j < 8
    · have hf := HI.out.var.free j
      have hc := HI.out.var.cell hlt
      have RJ := hid (fun w => RI.out j w hlt)
      obtain ⟨p, hp⟩ : ∃ p, f j = p := ⟨_, rfl⟩
      rw [hp] at RJ
      have HP := hid hp.symm
      clear hp
      go_wp2_with (go_at_call 25; (with_reducible refine (RJ.out _).mono ?_); rintro e w1 ⟨rfl, rfl⟩)
      go_roundw
      case rel => exact ⟨j + 1, by omega, by go_num, HI.out.step HP.out⟩
      case measure => simp [intOf]; omega
    · obtain rfl : j = 8 := by omega
      have HM : Hid (At _ _ 8 24 f) := hid (HI.out.var.ext (fun i hi => show upTo f 8 i = f i from if_pos hi))
      go_wp2_with (first
        | (refine step_load_ba rfl 24 _ rfl (w.heap.size + 1) 8 24 5 _ rfl HM.out Try.underlying24 info22 ?_)
        | (go_at_call 26; (with_reducible refine (HC.out _).mono ?_); rintro e w1 ⟨rfl, hlow1⟩; have HB := hid (HI.out.on hlow1); clear hlow1)
        | (refine step_store_ba rfl 25 _ _ rfl w.heap.size 8 25 (fun _ => 0) _ rfl rfl HB.out.out info23 ?_))
      exact ret_ba rfl rfl Try.underlying25 info23 rfl (HB.out.out.row _) ⟨rfl, below_setRow HB.out.low (Nat.le_refl _) _⟩

/-- One block of eight, not written yet, and all that was there is as it was. -/
structure One8 (w wr : World) : Prop where
  out : At wr w.heap.size 8 25 (fun _ => 0)
  low : Below w.heap.size w wr
theorem One8.start (w : World) : One8 w (w.alloc (.cells (ba 8 (fun _ => 0)) 25)) := ⟨At.new w 8 25 (fun _ => 0), (Below.refl _ _).alloc (Nat.le_refl _) _⟩
theorem One8.on {w wr w1 : World} (m : One8 w wr) (h : Below wr.heap.size wr w1) : One8 w w1 := ⟨m.out.self h, m.low.trans (h.mono m.low.size)⟩
theorem One8.far {w wr : World} (m : One8 w wr) : w.heap.size < wr.heap.size := m.out.lt
theorem One8.var {w wr : World} (m : One8 w wr) (f : Nat → Nat) : One8 w ((wr.alloc (.cells (ba 8 (fun _ => 0)) 25)).setRow wr.heap.size (ba 8 f)) :=
  ⟨(m.out.alloc _).rowApart (Nat.ne_of_lt m.far) _, below_setRow (m.low.alloc m.low.size _) (Nat.le_of_lt m.far) _⟩

set_option maxHeartbeats 800000 in
theorem outMat_any (w : World) :
    Calls Try.prog 9 #[] w fun e w' => e = .returned (.agg (ba 8 (inv inM))) ∧ Below w.heap.size w w' := by
  have HI : Hid (∀ w, Calls Try.prog 27 #[.agg (ba 8 inM)] w fun e w' => e = .returned (.tuple #[.agg (ba 8 (inv inM)), .bool (decide (rk inM = 8))]) ∧ Below w.heap.size w w') := hid (fun w => mrefinv_any inM w inM_by)
  have HM := hid inMat_any
  have HS := hid (One8.start w)
  generalize decide (rk inM = 8) = q at HI
  generalize inv inM = g at *
  generalize inM = f at *
  go_enter Try.func9, Try.ntmps9
  go_wp2_with (first
    | (go_at_call 7; (with_reducible refine (HM.out _).mono ?_); rintro e w1 ⟨rfl, hlow1⟩; have HA := hid (HS.out.on hlow1); clear hlow1)
    | (go_at_call 27; (with_reducible refine (HI.out _).mono ?_); rintro e w2 ⟨rfl, hlow2⟩; have HB := hid (HA.out.on hlow2); have HV := hid (HB.out.var g); clear hlow2)
    | (refine step_store_ba rfl 25 _ _ rfl w2.heap.size 8 25 (fun _ => 0) g rfl rfl (At.new w2 8 25 (fun _ => 0)) info23 ?_)
    | (refine step_load_ba rfl 25 _ rfl w2.heap.size 8 25 5 g rfl ((At.new w2 8 25 (fun _ => 0)).row g) Try.underlying25 info23 ?_)
    | (refine step_store_ba rfl 25 _ _ rfl w.heap.size 8 25 (fun _ => 0) g rfl rfl HV.out.out info23 ?_))
  exact ret_ba rfl rfl Try.underlying25 info23 rfl (HV.out.out.row g) ⟨rfl, below_setRow HV.out.low (Nat.le_refl _) _⟩
end Go.Proofs.Ytfomgomdhejfbaa
