import Derived.Test.YtfgbcohmbbjagaaKcq
namespace Go.Proofs.Ytfgbcohmbbjagaa
open Go.RowKit

set_option maxRecDepth 100000 in
set_option maxHeartbeats 1600000 in
theorem refpermute_any (f : Nat → Nat) (w : World) (hf : W25 f) :
    Calls Try.prog 17 #[.agg (wa 25 f)] w fun e w' => e = .returned (.agg (wa 25 (pm tun mkf 24 f))) ∧ Below w.heap.size w w' := by
  have HS := hid (P0.start f w)
  have HC1 := hid (fun (g : Nat → Nat) (h : W25 g) w => reftheta_any g w h)
  have HC2 := hid (fun (g : Nat → Nat) (h : W25 g) w => refmove_any g w h)
  have HC3 := hid (fun (g : Nat → Nat) (h : W25 g) w => refchi_any g w h)
  have HL := hid mkf_lt
  have HW := hid (fun n h => pm_w (t := tun) mkf_lt hf n h)
  have HZ : Hid (pm tun mkf 0 f = f) := hid rfl
  have HN : Hid (∀ n, pm tun mkf (n + 1) f = io (mkf n) (ch (mo tun (th (pm tun mkf n f))))) := hid (fun _ => rfl)
  clear hf
  go_enter Try.func17, Try.ntmps17
  go_wp2
  go_loopw [3] (fun i wr => ∃ j : Nat, j ≤ 24 ∧ i = .int .i64 j ∧ P0 (pm tun mkf j f) w wr) (fun i _ => 24 - (intOf i).toNat)
  case atStart => exact ⟨0, by omega, rfl, by rw [HZ.out]; exact HS.out⟩
  case round =>
    obtain ⟨j, hj, rfl, hI⟩ := hrel
    have HI := hid hI
    clear hI
    by_cases hlt : j < 24
    · have hm := HL.out j hlt
      have h0 := HW.out j (by omega)
      have h1 := th_w h0
      have h2 := mo_w (t := tun) h1
      have h3 := ch_w h2
      have K1 := hid (HC1.out _ h0)
      have K2 := hid (HC2.out _ h1)
      have K3 := hid (HC3.out _ h2)
      have K4 : Hid (∀ w, Calls Try.prog 7 #[.int .i64 (j : Int)] w fun e w' => e = .returned (.int .u64 (mkf j : Nat)) ∧ Below w.heap.size w w') := hid (fun w => by
        have := refmark_any (j : Int) w
        rwa [mkq_in hlt] at this)
      have HNj := hid (HN.out j)
      generalize ch (mo tun (th (pm tun mkf j f))) = g3 at *
      generalize mo tun (th (pm tun mkf j f)) = g2 at *
      generalize th (pm tun mkf j f) = g1 at *
      generalize pm tun mkf j f = g0 at *
      generalize mkf j = m at *
      have HX := hid (x64 (h3 0 (by omega)) hm)
      clear h0 h1 h2 h3
      go_wp2_with (first
        | (refine step_load_wa rfl 23 _ rfl w.heap.size 25 23 22 g0 rfl HI.out.src Try.underlying23 info23 ?_)
        | (go_at_call 11; (with_reducible refine (K1.out _).mono ?_); rintro e w1 ⟨rfl, hlow⟩; have HS1 := hid (HI.out.on hlow); clear hlow)
        | (go_at_call 13; (with_reducible refine (K2.out _).mono ?_); rintro e w2 ⟨rfl, hlow⟩; have HS2 := hid (HS1.out.on hlow); clear hlow)
        | (go_at_call 15; (with_reducible refine (K3.out _).mono ?_); rintro e w3 ⟨rfl, hlow⟩; have HS3 := hid (HS2.out.on hlow); have HS4 := hid (HS3.out.row g3); clear hlow)
        | (refine step_store_wa rfl 23 _ _ rfl w.heap.size 25 23 _ _ rfl rfl HS3.out.src info23 ?_))
      generalize w3.setRow w.heap.size (wa 25 g3) = w4 at *
      have HD4 := hid HS4.out.drew
      have c0 : w4.cell? ⟨w.heap.size, 0, none⟩ = some (.int .u64 (g3 0 : Int)) := HS4.out.src.cell (j := 0) (by omega)
      have c0' : w4.drew.cell? ⟨w.heap.size, 0, none⟩ = some (.int .u64 (g3 0 : Int)) := HS4.out.src.cell (j := 0) (by omega)
      generalize hz : g3 0 = z at *
      have HZ3 := hid hz
      clear hz
      go_region_with (first | (go_at_call 7; (with_reducible refine (K4.out _).mono ?_); rintro e w5 ⟨rfl, hlow⟩; have HS5 := hid (HD4.out.on hlow); have c5 := HS5.out.src.cell (j := 0) (by omega); rw [HZ3.out] at c5; have f5 := HS5.out.src.free 0; clear hlow))
      all_goals
        go_wp2
        go_roundw
        case rel => exact ⟨j + 1, by omega, by go_num, by rw [HNj.out]; exact HS5.out.mark m (by rw [HZ3.out]; exact HX.out)⟩
        case measure => simp [intOf]; omega
    · obtain rfl : j = 24 := by omega
      have HM := hid HI.out.src
      have HN := hid HI.out.out
      go_wp2_with (first
        | (refine step_load_wa rfl 23 _ rfl w.heap.size 25 23 22 _ rfl HM.out Try.underlying23 info23 ?_)
        | (refine step_store_wa rfl 23 _ _ rfl (w.heap.size + 1) 25 23 _ _ rfl rfl HN.out info23 ?_))
      exact ret_wa rfl rfl Try.underlying23 info23 rfl (HI.out.out.row _) ⟨rfl, below_setRow HI.out.low (by omega) _⟩
end Go.Proofs.Ytfgbcohmbbjagaa
