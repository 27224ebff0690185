import Derived.Test.YtoicanbgaghpcaaProg
import Derived.Test.YtoicanbgaghpcaaOcy
namespace Go.Proofs.Ytoicanbgaghpcaa
open Go.RowKit

def one16 : List Int := [0, 0, 0, 0, 0, 0, 0, 0, 0, 0, 0, 0, 0, 0, 0, 1]
theorem inc_ex : incAt [0, 255] 2 = [1, 0] := by decide +kernel
theorem dbl_ex : dbL one16 = [0, 0, 0, 0, 0, 0, 0, 0, 0, 0, 0, 0, 0, 0, 0, 2] := by decide +kernel

set_option maxHeartbeats 800000 in
theorem awake_any (w : World) : Calls Try.prog 15 #[] w fun e w' => e = .returned (.bool true) ∧ Below w.heap.size w w' := by
  have HL0 := hid ((Below.refl w.heap.size w).alloc (Nat.le_refl _) (.cells #[.int .u8 0, .int .u8 255] 5))
  have HR0 := hid (rd_new (k := .u8) w 5 [0, 255] #[.int .u8 0, .int .u8 255] 2 rfl rfl (by decide) (by decide))
  have HC0 := hid (inc_any _ _ _ HR0.out)
  go_enter Try.func15, Try.ntmps15
  go_wp2_with (first
    | (go_at_call 17; refine HC0.out.mono ?_; rintro e w1 ⟨u, rfl, hown, hlow⟩; rw [show ([0, 255] : List Int).length = 2 from rfl, inc_ex] at hown; obtain ⟨g, cg, rfl, hgB, hgw, hcell, _, _⟩ := hown.part (by decide); have d1 := hcell 0 (by decide); have d2 := hcell 1 (by decide); rw [show ([1, 0] : List Int).length = 2 from rfl]; have D1 := hid d1; have D2 := hid d2; have HL1 := hid (HL0.out.trans (hlow.mono (by simp))); have hsz1 := hlow.size; rw [World.size_alloc] at hsz1; clear hown hlow hcell d1 d2)
    | (go_at_call 18; refine (double_any _ one16 _ (rd_new (k := .u8) w1 5 one16 _ 16 rfl rfl (by decide) (by decide))).mono ?_; rintro e w2 ⟨u, rfl, hown, hlow⟩; rw [dbl_ex] at hown; obtain ⟨g', cg', rfl, hgB', hgw', hcell, _, _⟩ := hown.part (by decide); have d3 := hcell 15 (by decide); rw [show ([0, 0, 0, 0, 0, 0, 0, 0, 0, 0, 0, 0, 0, 0, 0, 2] : List Int).length = 16 from rfl]; have d1 := (hlow.cell (p := ⟨g, 0, none⟩) (by simp; omega)).trans ((World.cell?_alloc_past _ _ _ hgw).trans D1.out); have d2 := (hlow.cell (p := ⟨g, 1, none⟩) (by simp; omega)).trans ((World.cell?_alloc_past _ _ _ hgw).trans D2.out); have HL2 := hid (HL1.out.trans (((Below.refl w.heap.size w1).alloc (by omega) (.cells (one16.map (Value.int .u8)).toArray 5)).trans (hlow.mono (by simp; omega)))); simp only [nth, List.getD, List.getElem?_cons_zero, List.getElem?_cons_succ, Option.getD_some] at d1 d2 d3; clear hown hlow hcell D1 D2))
  go_ret
  exact ⟨rfl, HL2.out⟩

set_option maxHeartbeats 400000 in
theorem refsame_any (v v' : Value) (xs ys : List Int) (w : World) (h : Rd .u8 w v xs) (h' : Rd .u8 w v' ys) :
    Calls Try.prog 8 #[v, v'] w fun e w' => e = .returned (.bool (decide (xs = ys))) ∧ w' = w := by
  have k1 := run_conv_rd (P := Try.prog) h Try.underlying22 Try.underlying5 9 Try.underlying9
  have k2 := run_conv_rd (P := Try.prog) h' Try.underlying22 Try.underlying5 9 Try.underlying9
  have HQ := hid (strOfNums_eq (wfs_of h) (wfs_of h'))
  obtain ⟨a, cap, rfl, _, _, _⟩ := h
  obtain ⟨a', cap', rfl, _, _, _⟩ := h'
  go_enter Try.func8, Try.ntmps8
  go_wp2
  go_ret
  exact ⟨ret_bool HQ.out, rfl⟩
end Go.Proofs.Ytoicanbgaghpcaa
