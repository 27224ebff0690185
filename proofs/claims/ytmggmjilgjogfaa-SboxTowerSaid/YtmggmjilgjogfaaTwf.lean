import Derived.Test.YtmggmjilgjogfaaProg
import Derived.Test.YtmggmjilgjogfaaTwe
namespace Go.Proofs.Ytmggmjilgjogfaa
open Go.RowKit

/-- Two blocks of eight, not written yet, and all that was there is as it was. -/
structure Two8 (w wr : World) : Prop where
  o1 : At wr w.heap.size 8 25 (fun _ => 0)
  o2 : At wr (w.heap.size + 1) 8 25 (fun _ => 0)
  low : Below w.heap.size w wr
theorem Two8.start (w : World) : Two8 w ((w.alloc (.cells (ba 8 (fun _ => 0)) 25)).alloc (.cells (ba 8 (fun _ => 0)) 25)) :=
  ⟨(At.new w 8 25 (fun _ => 0)).alloc _, by have := At.new (w.alloc (.cells (ba 8 (fun _ => 0)) 25)) 8 25 (fun _ => 0); rw [World.size_alloc] at this; exact this, ((Below.refl _ _).alloc (Nat.le_refl _) _).alloc (by simp) _⟩
theorem Two8.on {w wr w1 : World} (m : Two8 w wr) (h : Below wr.heap.size wr w1) : Two8 w w1 := ⟨m.o1.self h, m.o2.self h, m.low.trans (h.mono m.low.size)⟩
theorem Two8.far {w wr : World} (m : Two8 w wr) : w.heap.size + 1 < wr.heap.size := m.o2.lt
theorem Two8.var {w wr : World} (m : Two8 w wr) (f : Nat → Nat) : Two8 w ((wr.alloc (.cells (ba 8 (fun _ => 0)) 25)).setRow wr.heap.size (ba 8 f)) :=
  have h := m.far
  ⟨(m.o1.alloc _).rowApart (by omega) _, (m.o2.alloc _).rowApart (by omega) _, below_setRow (m.low.alloc m.low.size _) (by omega) _⟩
theorem Two8.drew {w wr : World} (m : Two8 w wr) : Two8 w wr.drew := ⟨m.o1, m.o2, m.low.drew⟩
theorem size_setRow (w : World) (b : Nat) (cs : Array Value) : (w.setRow b cs).heap.size = w.heap.size := by simp [World.setRow]

set_option maxHeartbeats 1600000 in
theorem matrices_any (w : World) :
    Calls Try.prog 31 #[] w fun e w' => e = .returned (.tuple #[.agg (ba 8 inM), .agg (ba 8 (inv inM))]) ∧ Below w.heap.size w w' := by
  have HR := hid root_any
  have HP : Hid (∀ w, Calls Try.prog 42 #[.int .u8 32] w fun e w' => e = .returned (.agg (ba 8 (tp 32))) ∧ Below w.heap.size w w') := hid (fun w => powers_any 32 w (by decide))
  have HC : Hid (∀ w, Calls Try.prog 41 #[.agg (ba 8 (tp 32))] w fun e w' => e = .returned (.agg (ba 8 inM)) ∧ Below w.heap.size w w') := hid (fun w => columns_any (tp 32) w (tp_by 32))
  have HI : Hid (∀ w, Calls Try.prog 25 #[.agg (ba 8 inM)] w fun e w' => e = .returned (.tuple #[.agg (ba 8 (inv inM)), .bool (decide (rk inM = 8))]) ∧ Below w.heap.size w w') := hid (fun w => minv_any inM w inM_by)
  have HS := hid (Two8.start w)
  generalize decide (rk inM = 8) = q at HI
  generalize inv inM = g at *
  generalize inM = f at *
  generalize tp 32 = p at *
  go_enter Try.func31, Try.ntmps31
  go_wp2_with (first
    | (go_at_call 43; (with_reducible refine (HR.out _).mono ?_); rintro e w1 ⟨rfl, hlow1⟩; have HA := hid (HS.out.on hlow1); clear hlow1)
    | (go_at_call 42; (with_reducible refine (HP.out _).mono ?_); rintro e w2 ⟨rfl, hlow2⟩; have HB := hid (HA.out.on hlow2); clear hlow2)
    | (go_at_call 41; (with_reducible refine (HC.out _).mono ?_); rintro e w3 ⟨rfl, hlow3⟩; have HD := hid (HB.out.on hlow3); have HV := hid (HD.out.var f); have HF := hid HD.out.far; have HM := hid ((At.new w3 8 25 (fun _ => 0)).row f); clear hlow3)
    | (refine step_store_ba rfl 25 _ _ rfl w3.heap.size 8 25 (fun _ => 0) f rfl rfl (At.new w3 8 25 (fun _ => 0)) info23 ?_)
    | (refine step_load_ba rfl 25 _ rfl w3.heap.size 8 25 5 f rfl HM.out Try.underlying25 info23 ?_)
    | (go_at_call 25; (with_reducible refine (HI.out _).mono ?_); rintro e w4 ⟨rfl, hlow4⟩; have HW := hid ((HV.out.on hlow4).var g); have HN := hid (((HM.out.self hlow4).alloc (.cells (ba 8 (fun _ => 0)) 25)).rowApart (Nat.ne_of_lt (HM.out.self hlow4).lt) (ba 8 g)); have HG := hid ((At.new w4 8 25 (fun _ => 0)).row g); have HLT := hid (HM.out.self hlow4).lt; clear hlow4)
    | (refine step_store_ba rfl 25 _ _ rfl w4.heap.size 8 25 (fun _ => 0) g rfl rfl (At.new w4 8 25 (fun _ => 0)) info23 ?_))
  have TD := hid HW.out.drew
  have ND := hid HN.out.drew
  have GD := hid HG.out.drew
  have hfar := HV.out.far
  rw [size_setRow, World.size_alloc] at hfar
  have FD := HF.out
  have LD := HLT.out
  refine wp_region_noPanic ?_
  refine wp_region_held_drew (S := fun w' => M w' w3.heap.size f ∧ M w' w4.heap.size g) (by kernel_rfl) ⟨ND.out, GD.out⟩ (fun h0 => ?_)
  refine wpAnyH_take (i := 0) rfl (by kernel_rfl) (by kernel_rfl) (by kernel_rfl) (fun _ _ _ h => h) (yields_load_ba (by rfl) 25 _ rfl w3.heap.size 8 25 5 f rfl (fun w h => h.1) Try.underlying25 info23) h0 ?_
  refine wpAnyH_take (i := 1) rfl (by kernel_rfl) (by kernel_rfl) (by kernel_rfl) (fun _ _ _ h => h) (yields_load_ba (by rfl) 25 _ rfl w4.heap.size 8 25 5 g rfl (fun w h => h.2) Try.underlying25 info23) h0 ?_
  refine wpAnyH_ready (rs := [2]) (by kernel_rfl) (by simp) (AllReadyH.cons rfl (fun K hK => ?_) AllReadyH.nil)
  rw [if_pos (by rfl)]
  refine wp_store_row 25 _ _ rfl w.heap.size (ba 8 f) rfl rfl 25 _ TD.out.o1 info23' rfl (ba_one 8 f) ?_
  refine hK.out _ _ ⟨h0.1.rowApart (by omega) _, h0.2.rowApart (by omega) _⟩ (fun h1 => ?_)
  clear hK K
  refine wpAnyH_ready (rs := [3]) (by kernel_rfl) (by simp) (AllReadyH.cons rfl (fun K hK => ?_) AllReadyH.nil)
  rw [if_pos (by rfl)]
  refine wp_store_row 25 _ _ rfl (w.heap.size + 1) (ba 8 g) rfl rfl 25 _ (TD.out.o2.rowApart (by omega) _) info23' rfl (ba_one 8 g) ?_
  refine hK.out _ _ ⟨h1.1.rowApart (by omega) _, h1.2.rowApart (by omega) _⟩ (fun h2 => ?_)
  clear hK K
  refine wpAnyH_done (by kernel_rfl) ?_ _
  refine NoPanic.normal ?_
  have O1 := hid ((TD.out.o1.row f).rowApart (c := w.heap.size + 1) (by omega) (ba 8 g))
  have O2 := hid ((TD.out.o2.rowApart (c := w.heap.size) (by omega) (ba 8 f)).row g)
  have OL := hid (below_setRow (below_setRow TD.out.low (b := w.heap.size) (by omega) (ba 8 f)) (b := w.heap.size + 1) (by omega) (ba 8 g))
  clear h0 h1 h2
  simp only [Act.put, List.getElem_toArray, List.getElem_cons_zero, List.getElem_cons_succ, List.setIfInBounds_toArray, List.set_cons_zero, List.set_cons_succ]
  go_wp2
  exact ret_ba_ba rfl rfl Try.underlying25 info23 rfl Try.underlying25 info23 rfl O1.out O2.out ⟨rfl, OL.out⟩
end Go.Proofs.Ytmggmjilgjogfaa
