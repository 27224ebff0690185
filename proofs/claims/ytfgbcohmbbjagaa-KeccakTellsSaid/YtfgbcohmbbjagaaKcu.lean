import Derived.Test.YtfgbcohmbbjagaaKct
namespace Go.Proofs.Ytfgbcohmbbjagaa
open Go.RowKit

set_option maxRecDepth 100000 in
set_option maxHeartbeats 6400000 in
theorem ktells_core (f : Nat → Nat) (i x : Int) (w : World) (hf : W25 f) :
    Calls Try.prog 3 #[.agg (wa 25 f), .int .i64 i, .int .i64 x] w fun e w' => e = .returned (.bool true) ∧ Below w.heap.size w w' := by
  have HS := hid (K1.start f w)
  have C1 : Hid (∀ w, Calls Try.prog 10 #[.agg (wa 25 (f))] w fun e w' => e = .returned (.agg (wa 25 (th f))) ∧ Below w.heap.size w w') := hid (fun w => theta_any f w hf)
  have C2 : Hid (∀ w, Calls Try.prog 11 #[.agg (wa 25 (f))] w fun e w' => e = .returned (.agg (wa 25 (th f))) ∧ Below w.heap.size w w') := hid (fun w => reftheta_any f w hf)
  have C3 : Hid (∀ w, Calls Try.prog 12 #[.agg (wa 25 (f))] w fun e w' => e = .returned (.agg (wa 25 (mo tun f))) ∧ Below w.heap.size w w') := hid (fun w => move_any f w hf)
  have C4 : Hid (∀ w, Calls Try.prog 13 #[.agg (wa 25 (f))] w fun e w' => e = .returned (.agg (wa 25 (mo tun f))) ∧ Below w.heap.size w w') := hid (fun w => refmove_any f w hf)
  have C5 : Hid (∀ w, Calls Try.prog 14 #[.agg (wa 25 (f))] w fun e w' => e = .returned (.agg (wa 25 (ch f))) ∧ Below w.heap.size w w') := hid (fun w => chi_any f w hf)
  have C6 : Hid (∀ w, Calls Try.prog 15 #[.agg (wa 25 (f))] w fun e w' => e = .returned (.agg (wa 25 (ch f))) ∧ Below w.heap.size w w') := hid (fun w => refchi_any f w hf)
  have C7 : Hid (∀ w, Calls Try.prog 16 #[.agg (wa 25 (f))] w fun e w' => e = .returned (.agg (wa 25 (pm tun mkf 24 f))) ∧ Below w.heap.size w w') := hid (fun w => permute_any f w hf)
  have C8 : Hid (∀ w, Calls Try.prog 17 #[.agg (wa 25 (f))] w fun e w' => e = .returned (.agg (wa 25 (pm tun mkf 24 f))) ∧ Below w.heap.size w w') := hid (fun w => refpermute_any f w hf)
  have M1 := hid (fun w => mark_any i w)
  have M2 := hid (fun w => refmark_any i w)
  have M3 := hid (fun w => turn_any x i w)
  have M4 := hid (fun w => refturn_any x i w)
  generalize th f = g1 at *
  generalize mo tun f = g2 at *
  generalize ch f = g3 at *
  generalize pm tun mkf 24 f = g4 at *
  generalize mkq i = m at *
  generalize tq x i = v at *
  clear hf
  go_enter Try.func3, Try.ntmps3
  go_wp2_with (first
    | (go_at_call 6; (with_reducible refine (M1.out _).mono ?_); rintro e w1 ⟨rfl, hlow⟩; have HM1 := hid (HS.out.self hlow); clear hlow)
    | (go_at_call 7; (with_reducible refine (M2.out _).mono ?_); rintro e w2 ⟨rfl, hlow⟩; have HM2 := hid (HM1.out.self hlow); clear hlow)
    | (go_at_call 8; (with_reducible refine (M3.out _).mono ?_); rintro e w3 ⟨rfl, hlow⟩; have HM3 := hid (HM2.out.self hlow); clear hlow)
    | (go_at_call 9; (with_reducible refine (M4.out _).mono ?_); rintro e w4 ⟨rfl, rfl⟩; have HM4 := HM3))
  have HS5 := hid HM4.out.drew
  refine wp_region_noPanic ?_
  refine wp_region_held_drew (S := fun w' => Aw w' w.heap.size 25 23 f) (by kernel_rfl) (HS5.out.src) (fun h0 => ?_)
  generalize w4.drew = w5 at *
  refine wpAnyH_take (i := 0) (v := .agg (wa 25 f)) rfl (by kernel_rfl) (by kernel_rfl) (by kernel_rfl) (fun _ _ _ h => h) (yields_load_wa (by rfl) 23 _ rfl w.heap.size 25 23 22 f rfl (fun w h => h) Try.underlying23 info23) h0 ?_
  try simp only [Act.put, lay_out]
  refine wpAnyH_take (i := 2) (v := .agg (wa 25 f)) rfl (by kernel_rfl) (by kernel_rfl) (by kernel_rfl) (fun _ _ _ h => h) (yields_load_wa (by rfl) 23 _ rfl w.heap.size 25 23 22 f rfl (fun w h => h) Try.underlying23 info23) h0 ?_
  try simp only [Act.put, lay_out]
  refine wpAnyH_ready (rs := [1]) (by kernel_rfl) (by simp) (AllReadyH.cons rfl (fun K hK => ?_) AllReadyH.nil)
  rw [if_pos (by rfl)]
  go_simp
  go_at_call 10
  (with_reducible refine (C1.out _).mono ?_); rintro e wa1 ⟨rfl, hlow⟩
  have HQ1 := hid (HS5.out.self hlow)
  clear hlow
  refine hK.out _ _ (HQ1.out.src) (fun h1x => ?_)
  clear hK K
  try simp only [Act.put, lay_out]
  refine wpAnyH_ready (rs := [3]) (by kernel_rfl) (by simp) (AllReadyH.cons rfl (fun K hK => ?_) AllReadyH.nil)
  rw [if_pos (by rfl)]
  go_simp
  go_at_call 11
  (with_reducible refine (C2.out _).mono ?_); rintro e wa2 ⟨rfl, hlow⟩
  have HQ2 := hid (HQ1.out.self hlow)
  clear hlow
  refine hK.out _ _ (HQ2.out.src) (fun h2x => ?_)
  clear hK K
  try simp only [Act.put, lay_out]
  refine wpAnyH_take (i := 4) (v := .bool true) rfl (by kernel_rfl) (by kernel_rfl) (by kernel_rfl) (fun _ _ _ h => h) (.inl ⟨by rfl, fun w _ => exec_eq25 (.tmp 22) (.tmp 24) rfl (f := g1) (g := g1) (q := true) rfl rfl ⟨fun _ => rfl, fun _ => Eq25.refl _⟩⟩) h2x ?_
  try simp only [Act.put, lay_out]
  refine wpAnyH_take (i := 5) (v := .bool true) rfl (by kernel_rfl) (by kernel_rfl) (by kernel_rfl) (fun _ _ _ h => h) (.inl ⟨by rfl, fun w hw => by clear hw; go_simp⟩) h2x ?_
  try simp only [Act.put, lay_out]
  refine wpAnyH_take (i := 6) (v := .agg (wa 25 f)) rfl (by kernel_rfl) (by kernel_rfl) (by kernel_rfl) (fun _ _ _ h => h) (yields_load_wa (by rfl) 23 _ rfl w.heap.size 25 23 22 f rfl (fun w h => h) Try.underlying23 info23) h2x ?_
  try simp only [Act.put, lay_out]
  refine wpAnyH_take (i := 8) (v := .agg (wa 25 f)) rfl (by kernel_rfl) (by kernel_rfl) (by kernel_rfl) (fun _ _ _ h => h) (yields_load_wa (by rfl) 23 _ rfl w.heap.size 25 23 22 f rfl (fun w h => h) Try.underlying23 info23) h2x ?_
  try simp only [Act.put, lay_out]
  refine wpAnyH_ready (rs := [7]) (by kernel_rfl) (by simp) (AllReadyH.cons rfl (fun K hK => ?_) AllReadyH.nil)
  rw [if_pos (by rfl)]
  go_simp
  go_at_call 12
  (with_reducible refine (C3.out _).mono ?_); rintro e wa3 ⟨rfl, hlow⟩
  have HQ3 := hid (HQ2.out.self hlow)
  clear hlow
  refine hK.out _ _ (HQ3.out.src) (fun h3x => ?_)
  clear hK K
  try simp only [Act.put, lay_out]
  refine wpAnyH_ready (rs := [9]) (by kernel_rfl) (by simp) (AllReadyH.cons rfl (fun K hK => ?_) AllReadyH.nil)
  rw [if_pos (by rfl)]
  go_simp
  go_at_call 13
  (with_reducible refine (C4.out _).mono ?_); rintro e wa4 ⟨rfl, hlow⟩
  have HQ4 := hid (HQ3.out.self hlow)
  clear hlow
  refine hK.out _ _ (HQ4.out.src) (fun h4x => ?_)
  clear hK K
  try simp only [Act.put, lay_out]
  refine wpAnyH_take (i := 10) (v := .bool true) rfl (by kernel_rfl) (by kernel_rfl) (by kernel_rfl) (fun _ _ _ h => h) (.inl ⟨by rfl, fun w _ => exec_eq25 (.tmp 28) (.tmp 30) rfl (f := g2) (g := g2) (q := true) rfl rfl ⟨fun _ => rfl, fun _ => Eq25.refl _⟩⟩) h4x ?_
  try simp only [Act.put, lay_out]
  refine wpAnyH_take (i := 11) (v := .bool true) rfl (by kernel_rfl) (by kernel_rfl) (by kernel_rfl) (fun _ _ _ h => h) (.inl ⟨by rfl, fun w hw => by clear hw; go_simp⟩) h4x ?_
  try simp only [Act.put, lay_out]
  refine wpAnyH_take (i := 12) (v := .bool true) rfl (by kernel_rfl) (by kernel_rfl) (by kernel_rfl) (fun _ _ _ h => h) (.inl ⟨by rfl, fun w hw => by clear hw; go_simp⟩) h4x ?_
  try simp only [Act.put, lay_out]
  refine wpAnyH_take (i := 13) (v := .agg (wa 25 f)) rfl (by kernel_rfl) (by kernel_rfl) (by kernel_rfl) (fun _ _ _ h => h) (yields_load_wa (by rfl) 23 _ rfl w.heap.size 25 23 22 f rfl (fun w h => h) Try.underlying23 info23) h4x ?_
  try simp only [Act.put, lay_out]
  refine wpAnyH_take (i := 15) (v := .agg (wa 25 f)) rfl (by kernel_rfl) (by kernel_rfl) (by kernel_rfl) (fun _ _ _ h => h) (yields_load_wa (by rfl) 23 _ rfl w.heap.size 25 23 22 f rfl (fun w h => h) Try.underlying23 info23) h4x ?_
  try simp only [Act.put, lay_out]
  refine wpAnyH_ready (rs := [14]) (by kernel_rfl) (by simp) (AllReadyH.cons rfl (fun K hK => ?_) AllReadyH.nil)
  rw [if_pos (by rfl)]
  go_simp
  go_at_call 14
  (with_reducible refine (C5.out _).mono ?_); rintro e wa5 ⟨rfl, hlow⟩
  have HQ5 := hid (HQ4.out.self hlow)
  clear hlow
  refine hK.out _ _ (HQ5.out.src) (fun h5x => ?_)
  clear hK K
  try simp only [Act.put, lay_out]
  refine wpAnyH_ready (rs := [16]) (by kernel_rfl) (by simp) (AllReadyH.cons rfl (fun K hK => ?_) AllReadyH.nil)
  rw [if_pos (by rfl)]
  go_simp
  go_at_call 15
  (with_reducible refine (C6.out _).mono ?_); rintro e wa6 ⟨rfl, hlow⟩
  have HQ6 := hid (HQ5.out.self hlow)
  clear hlow
  refine hK.out _ _ (HQ6.out.src) (fun h6x => ?_)
  clear hK K
  try simp only [Act.put, lay_out]
  refine wpAnyH_take (i := 17) (v := .bool true) rfl (by kernel_rfl) (by kernel_rfl) (by kernel_rfl) (fun _ _ _ h => h) (.inl ⟨by rfl, fun w _ => exec_eq25 (.tmp 35) (.tmp 37) rfl (f := g3) (g := g3) (q := true) rfl rfl ⟨fun _ => rfl, fun _ => Eq25.refl _⟩⟩) h6x ?_
  try simp only [Act.put, lay_out]
  refine wpAnyH_take (i := 18) (v := .bool true) rfl (by kernel_rfl) (by kernel_rfl) (by kernel_rfl) (fun _ _ _ h => h) (.inl ⟨by rfl, fun w hw => by clear hw; go_simp⟩) h6x ?_
  try simp only [Act.put, lay_out]
  refine wpAnyH_take (i := 19) (v := .bool true) rfl (by kernel_rfl) (by kernel_rfl) (by kernel_rfl) (fun _ _ _ h => h) (.inl ⟨by rfl, fun w hw => by clear hw; go_simp⟩) h6x ?_
  try simp only [Act.put, lay_out]
  refine wpAnyH_take (i := 20) (v := .agg (wa 25 f)) rfl (by kernel_rfl) (by kernel_rfl) (by kernel_rfl) (fun _ _ _ h => h) (yields_load_wa (by rfl) 23 _ rfl w.heap.size 25 23 22 f rfl (fun w h => h) Try.underlying23 info23) h6x ?_
  try simp only [Act.put, lay_out]
  refine wpAnyH_take (i := 22) (v := .agg (wa 25 f)) rfl (by kernel_rfl) (by kernel_rfl) (by kernel_rfl) (fun _ _ _ h => h) (yields_load_wa (by rfl) 23 _ rfl w.heap.size 25 23 22 f rfl (fun w h => h) Try.underlying23 info23) h6x ?_
  try simp only [Act.put, lay_out]
  refine wpAnyH_ready (rs := [21]) (by kernel_rfl) (by simp) (AllReadyH.cons rfl (fun K hK => ?_) AllReadyH.nil)
  rw [if_pos (by rfl)]
  go_simp
  go_at_call 16
  (with_reducible refine (C7.out _).mono ?_); rintro e wa7 ⟨rfl, hlow⟩
  have HQ7 := hid (HQ6.out.self hlow)
  clear hlow
  refine hK.out _ _ (HQ7.out.src) (fun h7x => ?_)
  clear hK K
  try simp only [Act.put, lay_out]
  refine wpAnyH_ready (rs := [23]) (by kernel_rfl) (by simp) (AllReadyH.cons rfl (fun K hK => ?_) AllReadyH.nil)
  rw [if_pos (by rfl)]
  go_simp
  go_at_call 17
  (with_reducible refine (C8.out _).mono ?_); rintro e wa8 ⟨rfl, hlow⟩
  have HQ8 := hid (HQ7.out.self hlow)
  clear hlow
  refine hK.out _ _ (HQ8.out.src) (fun h8x => ?_)
  clear hK K
  try simp only [Act.put, lay_out]
  refine wpAnyH_take (i := 24) (v := .bool true) rfl (by kernel_rfl) (by kernel_rfl) (by kernel_rfl) (fun _ _ _ h => h) (.inl ⟨by rfl, fun w _ => exec_eq25 (.tmp 42) (.tmp 44) rfl (f := g4) (g := g4) (q := true) rfl rfl ⟨fun _ => rfl, fun _ => Eq25.refl _⟩⟩) h8x ?_
  try simp only [Act.put, lay_out]
  refine wpAnyH_take (i := 25) (v := .bool true) rfl (by kernel_rfl) (by kernel_rfl) (by kernel_rfl) (fun _ _ _ h => h) (.inl ⟨by rfl, fun w hw => by clear hw; go_simp⟩) h8x ?_
  try simp only [Act.put, lay_out]
  refine wpAnyH_take (i := 26) (v := .bool true) rfl (by kernel_rfl) (by kernel_rfl) (by kernel_rfl) (fun _ _ _ h => h) (.inl ⟨by rfl, fun w hw => by clear hw; go_simp⟩) h8x ?_
  try simp only [Act.put, lay_out]
  refine wpAnyH_ready (rs := [27]) (by kernel_rfl) (by simp) (AllReadyH.cons rfl (fun K hK => ?_) AllReadyH.nil)
  rw [if_pos (by rfl)]
  go_simp
  go_at_call 18
  (with_reducible refine (kawake_any _).mono ?_); rintro e wa9 ⟨rfl, hlow⟩
  have HQ9 := hid (HQ8.out.self hlow)
  clear hlow
  refine hK.out _ _ (HQ9.out.src) (fun h9x => ?_)
  clear hK K
  try simp only [Act.put, lay_out]
  refine wpAnyH_take (i := 28) (v := .bool true) rfl (by kernel_rfl) (by kernel_rfl) (by kernel_rfl) (fun _ _ _ h => h) (.inl ⟨by rfl, fun w hw => by clear hw; go_simp⟩) h9x ?_
  try simp only [Act.put, lay_out]
  refine wpAnyH_take (i := 29) (v := .bool true) rfl (by kernel_rfl) (by kernel_rfl) (by kernel_rfl) (fun _ _ _ h => h) (.inl ⟨by rfl, fun w hw => by clear hw; go_simp⟩) h9x ?_
  try simp only [Act.put, lay_out]
  refine wpAnyH_done (by kernel_rfl) ?_ _
  refine NoPanic.normal ?_
  clear h0 h1x h2x h3x h4x h5x h6x h7x h8x h9x
  try simp only [Act.put, lay_out]
  go_wp2
  go_ret
  exact ⟨rfl, HQ9.out.low⟩
end Go.Proofs.Ytfgbcohmbbjagaa
