import Derived.Test.YtfgbcohmbbjagaaKct
namespace Go.Proofs.Ytfgbcohmbbjagaa
open Go.RowKit

set_option maxRecDepth 100000 in
set_option maxHeartbeats 6400000 in
theorem kkeeps_core (f g : Nat → Nat) (w : World) (hf : W25 f) (hg : W25 g) :
    Calls Try.prog 4 #[.agg (wa 25 f), .agg (wa 25 g)] w fun e w' => e = .returned (.bool true) ∧ Below w.heap.size w w' := by
  have HS := hid (K2.start f g w)
  have C1 : Hid (∀ w, Calls Try.prog 19 #[.agg (wa 25 (f)), .agg (wa 25 (g))] w fun e w' => e = .returned (.agg (wa 25 (sm f g))) ∧ Below w.heap.size w w') := hid (fun w => ksum_any f g w hf hg)
  have C2 : Hid (∀ w, Calls Try.prog 10 #[.agg (wa 25 (sm f g))] w fun e w' => e = .returned (.agg (wa 25 (th (sm f g)))) ∧ Below w.heap.size w w') := hid (fun w => theta_any _ w (sm_w hf hg))
  have C3 : Hid (∀ w, Calls Try.prog 10 #[.agg (wa 25 (f))] w fun e w' => e = .returned (.agg (wa 25 (th f))) ∧ Below w.heap.size w w') := hid (fun w => theta_any f w hf)
  have C4 : Hid (∀ w, Calls Try.prog 10 #[.agg (wa 25 (g))] w fun e w' => e = .returned (.agg (wa 25 (th g))) ∧ Below w.heap.size w w') := hid (fun w => theta_any g w hg)
  have C5 : Hid (∀ w, Calls Try.prog 19 #[.agg (wa 25 (th f)), .agg (wa 25 (th g))] w fun e w' => e = .returned (.agg (wa 25 (sm (th f) (th g)))) ∧ Below w.heap.size w w') := hid (fun w => ksum_any _ _ w (th_w hf) (th_w hg))
  have C6 : Hid (∀ w, Calls Try.prog 12 #[.agg (wa 25 (sm f g))] w fun e w' => e = .returned (.agg (wa 25 (mo tun (sm f g)))) ∧ Below w.heap.size w w') := hid (fun w => move_any _ w (sm_w hf hg))
  have C7 : Hid (∀ w, Calls Try.prog 12 #[.agg (wa 25 (f))] w fun e w' => e = .returned (.agg (wa 25 (mo tun f))) ∧ Below w.heap.size w w') := hid (fun w => move_any f w hf)
  have C8 : Hid (∀ w, Calls Try.prog 12 #[.agg (wa 25 (g))] w fun e w' => e = .returned (.agg (wa 25 (mo tun g))) ∧ Below w.heap.size w w') := hid (fun w => move_any g w hg)
  have C9 : Hid (∀ w, Calls Try.prog 19 #[.agg (wa 25 (mo tun f)), .agg (wa 25 (mo tun g))] w fun e w' => e = .returned (.agg (wa 25 (sm (mo tun f) (mo tun g)))) ∧ Below w.heap.size w w') := hid (fun w => ksum_any _ _ w (mo_w hf) (mo_w hg))
  have D1 : Hid (∀ w, Calls Try.prog 16 #[.agg (wa 25 (f))] w fun e w' => e = .returned (.agg (wa 25 (pm tun mkf 24 f))) ∧ Below w.heap.size w w') := hid (fun w => permute_any f w hf)
  have D2 : Hid (∀ w, Calls Try.prog 16 #[.agg (wa 25 (g))] w fun e w' => e = .returned (.agg (wa 25 (pm tun mkf 24 g))) ∧ Below w.heap.size w w') := hid (fun w => permute_any g w hg)
  have D3 : Hid (∀ w, Calls Try.prog 14 #[.agg (wa 25 (f))] w fun e w' => e = .returned (.agg (wa 25 (ch f))) ∧ Below w.heap.size w w') := hid (fun w => chi_any f w hf)
  have D4 : Hid (∀ w, Calls Try.prog 14 #[.agg (wa 25 (g))] w fun e w' => e = .returned (.agg (wa 25 (ch g))) ∧ Below w.heap.size w w') := hid (fun w => chi_any g w hg)
  have E1 := hid (th_sm hf hg)
  have E2 := hid (mo_sm tun_lt hf hg)
  obtain ⟨q, hq⟩ := eq25_bool f g
  have E3 := hid hq
  have E4 : Hid (Eq25 (pm tun mkf 24 f) (pm tun mkf 24 g) ↔ q = true) := hid (Iff.trans ⟨pm_inj tun_lt mkf_lt hf hg 24 (Nat.le_refl 24), fun h => pm_e h 24⟩ hq)
  have E5 : Hid (Eq25 (ch f) (ch g) ↔ q = true) := hid (Iff.trans ⟨ch_inj, ch_e⟩ hq)
  have E6 : Hid (Eq25 (th f) (th g) ↔ q = true) := hid (Iff.trans ⟨th_inj hf hg, th_e⟩ hq)
  generalize th (sm f g) = t1 at *
  generalize mo tun (sm f g) = m1 at *
  generalize sm (th f) (th g) = t2 at *
  generalize sm (mo tun f) (mo tun g) = m2 at *
  generalize sm f g = k at *
  generalize th f = a1 at *
  generalize th g = a2 at *
  generalize mo tun f = b1 at *
  generalize mo tun g = b2 at *
  generalize pm tun mkf 24 f = p1 at *
  generalize pm tun mkf 24 g = p2 at *
  generalize ch f = c1 at *
  generalize ch g = c2 at *
  clear hf hg hq
  go_enter Try.func4, Try.ntmps4
  go_wp2
  have HS5 := hid HS.out.drew
  refine wp_region_noPanic ?_
  refine wp_region_held_drew (S := fun w' => Aw w' w.heap.size 25 23 f ∧ Aw w' (w.heap.size + 1) 25 23 g) (by kernel_rfl) (⟨HS5.out.src, HS5.out.two⟩) (fun h0 => ?_)
  generalize ((w.alloc (.cells (wa 25 f) 23)).alloc (.cells (wa 25 g) 23)).drew = w5 at *
  refine wpAnyH_take (i := 0) (v := .agg (wa 25 f)) rfl (by kernel_rfl) (by kernel_rfl) (by kernel_rfl) (fun _ _ _ h => h) (yields_load_wa (by rfl) 23 _ rfl w.heap.size 25 23 22 f rfl (fun w h => h.1) Try.underlying23 info23) h0 ?_
  try simp only [Act.put, lay_out]
  refine wpAnyH_take (i := 4) (v := .agg (wa 25 f)) rfl (by kernel_rfl) (by kernel_rfl) (by kernel_rfl) (fun _ _ _ h => h) (yields_load_wa (by rfl) 23 _ rfl w.heap.size 25 23 22 f rfl (fun w h => h.1) Try.underlying23 info23) h0 ?_
  try simp only [Act.put, lay_out]
  refine wpAnyH_take (i := 1) (v := .agg (wa 25 g)) rfl (by kernel_rfl) (by kernel_rfl) (by kernel_rfl) (fun _ _ _ h => h) (yields_load_wa (by rfl) 23 _ rfl (w.heap.size + 1) 25 23 22 g rfl (fun w h => h.2) Try.underlying23 info23) h0 ?_
  try simp only [Act.put, lay_out]
  refine wpAnyH_take (i := 6) (v := .agg (wa 25 g)) rfl (by kernel_rfl) (by kernel_rfl) (by kernel_rfl) (fun _ _ _ h => h) (yields_load_wa (by rfl) 23 _ rfl (w.heap.size + 1) 25 23 22 g rfl (fun w h => h.2) Try.underlying23 info23) h0 ?_
  try simp only [Act.put, lay_out]
  refine wpAnyH_ready (rs := [2]) (by kernel_rfl) (by simp) (AllReadyH.cons rfl (fun K hK => ?_) AllReadyH.nil)
  rw [if_pos (by rfl)]
  go_simp
  go_at_call 19
  (with_reducible refine (C1.out _).mono ?_); rintro e wa1 ⟨rfl, hlow⟩
  have HQ1 := hid (HS5.out.self hlow)
  clear hlow
  refine hK.out _ _ (⟨HQ1.out.src, HQ1.out.two⟩) (fun h1x => ?_)
  clear hK K
  try simp only [Act.put, lay_out]
  refine wpAnyH_ready (rs := [3]) (by kernel_rfl) (by simp) (AllReadyH.cons rfl (fun K hK => ?_) AllReadyH.nil)
  rw [if_pos (by rfl)]
  go_simp
  go_at_call 10
  (with_reducible refine (C2.out _).mono ?_); rintro e wa2 ⟨rfl, hlow⟩
  have HQ2 := hid (HQ1.out.self hlow)
  clear hlow
  refine hK.out _ _ (⟨HQ2.out.src, HQ2.out.two⟩) (fun h2x => ?_)
  clear hK K
  try simp only [Act.put, lay_out]
  refine wpAnyH_ready (rs := [5]) (by kernel_rfl) (by simp) (AllReadyH.cons rfl (fun K hK => ?_) AllReadyH.nil)
  rw [if_pos (by rfl)]
  go_simp
  go_at_call 10
  (with_reducible refine (C3.out _).mono ?_); rintro e wa3 ⟨rfl, hlow⟩
  have HQ3 := hid (HQ2.out.self hlow)
  clear hlow
  refine hK.out _ _ (⟨HQ3.out.src, HQ3.out.two⟩) (fun h3x => ?_)
  clear hK K
  try simp only [Act.put, lay_out]
  refine wpAnyH_ready (rs := [7]) (by kernel_rfl) (by simp) (AllReadyH.cons rfl (fun K hK => ?_) AllReadyH.nil)
  rw [if_pos (by rfl)]
  go_simp
  go_at_call 10
  (with_reducible refine (C4.out _).mono ?_); rintro e wa4 ⟨rfl, hlow⟩
  have HQ4 := hid (HQ3.out.self hlow)
  clear hlow
  refine hK.out _ _ (⟨HQ4.out.src, HQ4.out.two⟩) (fun h4x => ?_)
  clear hK K
  try simp only [Act.put, lay_out]
  refine wpAnyH_ready (rs := [8]) (by kernel_rfl) (by simp) (AllReadyH.cons rfl (fun K hK => ?_) AllReadyH.nil)
  rw [if_pos (by rfl)]
  go_simp
  go_at_call 19
  (with_reducible refine (C5.out _).mono ?_); rintro e wa5 ⟨rfl, hlow⟩
  have HQ5 := hid (HQ4.out.self hlow)
  clear hlow
  refine hK.out _ _ (⟨HQ5.out.src, HQ5.out.two⟩) (fun h5x => ?_)
  clear hK K
  try simp only [Act.put, lay_out]
  refine wpAnyH_take (i := 9) (v := .bool false) rfl (by kernel_rfl) (by kernel_rfl) (by kernel_rfl) (fun _ _ _ h => h) (.inl ⟨by rfl, fun w _ => exec_ne25 (.tmp 8) (.tmp 13) rfl (f := t1) (g := t2) (q := true) rfl rfl ⟨fun _ => rfl, fun _ => E1.out⟩⟩) h5x ?_
  try simp only [Act.put, lay_out]
  refine wpAnyH_take (i := 10) (v := .bool false) rfl (by kernel_rfl) (by kernel_rfl) (by kernel_rfl) (fun _ _ _ h => h) (.inl ⟨by rfl, fun w hw => by clear hw; go_simp⟩) h5x ?_
  try simp only [Act.put, lay_out]
  refine wpAnyH_take (i := 11) (v := .agg (wa 25 f)) rfl (by kernel_rfl) (by kernel_rfl) (by kernel_rfl) (fun _ _ _ h => h) (yields_load_wa (by rfl) 23 _ rfl w.heap.size 25 23 22 f rfl (fun w h => h.1) Try.underlying23 info23) h5x ?_
  try simp only [Act.put, lay_out]
  refine wpAnyH_take (i := 15) (v := .agg (wa 25 f)) rfl (by kernel_rfl) (by kernel_rfl) (by kernel_rfl) (fun _ _ _ h => h) (yields_load_wa (by rfl) 23 _ rfl w.heap.size 25 23 22 f rfl (fun w h => h.1) Try.underlying23 info23) h5x ?_
  try simp only [Act.put, lay_out]
  refine wpAnyH_take (i := 12) (v := .agg (wa 25 g)) rfl (by kernel_rfl) (by kernel_rfl) (by kernel_rfl) (fun _ _ _ h => h) (yields_load_wa (by rfl) 23 _ rfl (w.heap.size + 1) 25 23 22 g rfl (fun w h => h.2) Try.underlying23 info23) h5x ?_
  try simp only [Act.put, lay_out]
  refine wpAnyH_take (i := 17) (v := .agg (wa 25 g)) rfl (by kernel_rfl) (by kernel_rfl) (by kernel_rfl) (fun _ _ _ h => h) (yields_load_wa (by rfl) 23 _ rfl (w.heap.size + 1) 25 23 22 g rfl (fun w h => h.2) Try.underlying23 info23) h5x ?_
  try simp only [Act.put, lay_out]
  refine wpAnyH_ready (rs := [13]) (by kernel_rfl) (by simp) (AllReadyH.cons rfl (fun K hK => ?_) AllReadyH.nil)
  rw [if_pos (by rfl)]
  go_simp
  go_at_call 19
  (with_reducible refine (C1.out _).mono ?_); rintro e wa6 ⟨rfl, hlow⟩
  have HQ6 := hid (HQ5.out.self hlow)
  clear hlow
  refine hK.out _ _ (⟨HQ6.out.src, HQ6.out.two⟩) (fun h6x => ?_)
  clear hK K
  try simp only [Act.put, lay_out]
  refine wpAnyH_ready (rs := [14]) (by kernel_rfl) (by simp) (AllReadyH.cons rfl (fun K hK => ?_) AllReadyH.nil)
  rw [if_pos (by rfl)]
  go_simp
  go_at_call 12
  (with_reducible refine (C6.out _).mono ?_); rintro e wa7 ⟨rfl, hlow⟩
  have HQ7 := hid (HQ6.out.self hlow)
  clear hlow
  refine hK.out _ _ (⟨HQ7.out.src, HQ7.out.two⟩) (fun h7x => ?_)
  clear hK K
  try simp only [Act.put, lay_out]
  refine wpAnyH_ready (rs := [16]) (by kernel_rfl) (by simp) (AllReadyH.cons rfl (fun K hK => ?_) AllReadyH.nil)
  rw [if_pos (by rfl)]
  go_simp
  go_at_call 12
  (with_reducible refine (C7.out _).mono ?_); rintro e wa8 ⟨rfl, hlow⟩
  have HQ8 := hid (HQ7.out.self hlow)
  clear hlow
  refine hK.out _ _ (⟨HQ8.out.src, HQ8.out.two⟩) (fun h8x => ?_)
  clear hK K
  try simp only [Act.put, lay_out]
  refine wpAnyH_ready (rs := [18]) (by kernel_rfl) (by simp) (AllReadyH.cons rfl (fun K hK => ?_) AllReadyH.nil)
  rw [if_pos (by rfl)]
  go_simp
  go_at_call 12
  (with_reducible refine (C8.out _).mono ?_); rintro e wa9 ⟨rfl, hlow⟩
  have HQ9 := hid (HQ8.out.self hlow)
  clear hlow
  refine hK.out _ _ (⟨HQ9.out.src, HQ9.out.two⟩) (fun h9x => ?_)
  clear hK K
  try simp only [Act.put, lay_out]
  refine wpAnyH_ready (rs := [19]) (by kernel_rfl) (by simp) (AllReadyH.cons rfl (fun K hK => ?_) AllReadyH.nil)
  rw [if_pos (by rfl)]
  go_simp
  go_at_call 19
  (with_reducible refine (C9.out _).mono ?_); rintro e wa10 ⟨rfl, hlow⟩
  have HQ10 := hid (HQ9.out.self hlow)
  clear hlow
  refine hK.out _ _ (⟨HQ10.out.src, HQ10.out.two⟩) (fun h10x => ?_)
  clear hK K
  try simp only [Act.put, lay_out]
  refine wpAnyH_take (i := 20) (v := .bool false) rfl (by kernel_rfl) (by kernel_rfl) (by kernel_rfl) (fun _ _ _ h => h) (.inl ⟨by rfl, fun w _ => exec_ne25 (.tmp 19) (.tmp 24) rfl (f := m1) (g := m2) (q := true) rfl rfl ⟨fun _ => rfl, fun _ => E2.out⟩⟩) h10x ?_
  try simp only [Act.put, lay_out]
  refine wpAnyH_take (i := 21) (v := .bool false) rfl (by kernel_rfl) (by kernel_rfl) (by kernel_rfl) (fun _ _ _ h => h) (.inl ⟨by rfl, fun w hw => by clear hw; go_simp⟩) h10x ?_
  try simp only [Act.put, lay_out]
  refine wpAnyH_done (by kernel_rfl) ?_ _
  refine NoPanic.normal ?_
  clear h0 h1x h2x h3x h4x h5x h6x h7x h8x h9x h10x
  try simp only [Act.put, lay_out]
  go_wp2
  have HS6 := hid HQ10.out.drew
  refine wp_region_noPanic ?_
  refine wp_region_held_drew (S := fun w' => Aw w' w.heap.size 25 23 f ∧ Aw w' (w.heap.size + 1) 25 23 g) (by kernel_rfl) (⟨HS6.out.src, HS6.out.two⟩) (fun h0 => ?_)
  generalize wa10.drew = w6 at *
  refine wpAnyH_take (i := 0) (v := .agg (wa 25 f)) rfl (by kernel_rfl) (by kernel_rfl) (by kernel_rfl) (fun _ _ _ h => h) (yields_load_wa (by rfl) 23 _ rfl w.heap.size 25 23 22 f rfl (fun w h => h.1) Try.underlying23 info23) h0 ?_
  try simp only [Act.put, lay_out]
  refine wpAnyH_take (i := 5) (v := .agg (wa 25 f)) rfl (by kernel_rfl) (by kernel_rfl) (by kernel_rfl) (fun _ _ _ h => h) (yields_load_wa (by rfl) 23 _ rfl w.heap.size 25 23 22 f rfl (fun w h => h.1) Try.underlying23 info23) h0 ?_
  try simp only [Act.put, lay_out]
  refine wpAnyH_take (i := 2) (v := .agg (wa 25 g)) rfl (by kernel_rfl) (by kernel_rfl) (by kernel_rfl) (fun _ _ _ h => h) (yields_load_wa (by rfl) 23 _ rfl (w.heap.size + 1) 25 23 22 g rfl (fun w h => h.2) Try.underlying23 info23) h0 ?_
  try simp only [Act.put, lay_out]
  refine wpAnyH_take (i := 6) (v := .agg (wa 25 g)) rfl (by kernel_rfl) (by kernel_rfl) (by kernel_rfl) (fun _ _ _ h => h) (yields_load_wa (by rfl) 23 _ rfl (w.heap.size + 1) 25 23 22 g rfl (fun w h => h.2) Try.underlying23 info23) h0 ?_
  try simp only [Act.put, lay_out]
  refine wpAnyH_take (i := 7) (v := .bool q) rfl (by kernel_rfl) (by kernel_rfl) (by kernel_rfl) (fun _ _ _ h => h) (.inl ⟨by rfl, fun w _ => exec_eq25 (.tmp 32) (.tmp 33) rfl (f := f) (g := g) (q := q) rfl rfl E3.out⟩) h0 ?_
  try simp only [Act.put, lay_out]
  refine wpAnyH_ready (rs := [1]) (by kernel_rfl) (by simp) (AllReadyH.cons rfl (fun K hK => ?_) AllReadyH.nil)
  rw [if_pos (by rfl)]
  go_simp
  go_at_call 16
  (with_reducible refine (D1.out _).mono ?_); rintro e wa11 ⟨rfl, hlow⟩
  have HQ11 := hid (HS6.out.self hlow)
  clear hlow
  refine hK.out _ _ (⟨HQ11.out.src, HQ11.out.two⟩) (fun h21x => ?_)
  clear hK K
  try simp only [Act.put, lay_out]
  refine wpAnyH_ready (rs := [3]) (by kernel_rfl) (by simp) (AllReadyH.cons rfl (fun K hK => ?_) AllReadyH.nil)
  rw [if_pos (by rfl)]
  go_simp
  go_at_call 16
  (with_reducible refine (D2.out _).mono ?_); rintro e wa12 ⟨rfl, hlow⟩
  have HQ12 := hid (HQ11.out.self hlow)
  clear hlow
  refine hK.out _ _ (⟨HQ12.out.src, HQ12.out.two⟩) (fun h22x => ?_)
  clear hK K
  try simp only [Act.put, lay_out]
  refine wpAnyH_take (i := 4) (v := .bool q) rfl (by kernel_rfl) (by kernel_rfl) (by kernel_rfl) (fun _ _ _ h => h) (.inl ⟨by rfl, fun w _ => exec_eq25 (.tmp 28) (.tmp 30) rfl (f := p1) (g := p2) (q := q) rfl rfl E4.out⟩) h22x ?_
  try simp only [Act.put, lay_out]
  refine wpAnyH_take (i := 8) (v := .bool true) rfl (by kernel_rfl) (by kernel_rfl) (by kernel_rfl) (fun _ _ _ h => h) (.inl ⟨by rfl, fun w hw => by clear hw; go_simp⟩) h22x ?_
  try simp only [Act.put, lay_out]
  refine wpAnyH_take (i := 9) (v := .bool true) rfl (by kernel_rfl) (by kernel_rfl) (by kernel_rfl) (fun _ _ _ h => h) (.inl ⟨by rfl, fun w hw => by clear hw; go_simp⟩) h22x ?_
  try simp only [Act.put, lay_out]
  refine wpAnyH_take (i := 10) (v := .agg (wa 25 f)) rfl (by kernel_rfl) (by kernel_rfl) (by kernel_rfl) (fun _ _ _ h => h) (yields_load_wa (by rfl) 23 _ rfl w.heap.size 25 23 22 f rfl (fun w h => h.1) Try.underlying23 info23) h22x ?_
  try simp only [Act.put, lay_out]
  refine wpAnyH_take (i := 15) (v := .agg (wa 25 f)) rfl (by kernel_rfl) (by kernel_rfl) (by kernel_rfl) (fun _ _ _ h => h) (yields_load_wa (by rfl) 23 _ rfl w.heap.size 25 23 22 f rfl (fun w h => h.1) Try.underlying23 info23) h22x ?_
  try simp only [Act.put, lay_out]
  refine wpAnyH_take (i := 12) (v := .agg (wa 25 g)) rfl (by kernel_rfl) (by kernel_rfl) (by kernel_rfl) (fun _ _ _ h => h) (yields_load_wa (by rfl) 23 _ rfl (w.heap.size + 1) 25 23 22 g rfl (fun w h => h.2) Try.underlying23 info23) h22x ?_
  try simp only [Act.put, lay_out]
  refine wpAnyH_take (i := 16) (v := .agg (wa 25 g)) rfl (by kernel_rfl) (by kernel_rfl) (by kernel_rfl) (fun _ _ _ h => h) (yields_load_wa (by rfl) 23 _ rfl (w.heap.size + 1) 25 23 22 g rfl (fun w h => h.2) Try.underlying23 info23) h22x ?_
  try simp only [Act.put, lay_out]
  refine wpAnyH_take (i := 17) (v := .bool q) rfl (by kernel_rfl) (by kernel_rfl) (by kernel_rfl) (fun _ _ _ h => h) (.inl ⟨by rfl, fun w _ => exec_eq25 (.tmp 42) (.tmp 43) rfl (f := f) (g := g) (q := q) rfl rfl E3.out⟩) h22x ?_
  try simp only [Act.put, lay_out]
  refine wpAnyH_ready (rs := [11]) (by kernel_rfl) (by simp) (AllReadyH.cons rfl (fun K hK => ?_) AllReadyH.nil)
  rw [if_pos (by rfl)]
  go_simp
  go_at_call 14
  (with_reducible refine (D3.out _).mono ?_); rintro e wa13 ⟨rfl, hlow⟩
  have HQ13 := hid (HQ12.out.self hlow)
  clear hlow
  refine hK.out _ _ (⟨HQ13.out.src, HQ13.out.two⟩) (fun h23x => ?_)
  clear hK K
  try simp only [Act.put, lay_out]
  refine wpAnyH_ready (rs := [13]) (by kernel_rfl) (by simp) (AllReadyH.cons rfl (fun K hK => ?_) AllReadyH.nil)
  rw [if_pos (by rfl)]
  go_simp
  go_at_call 14
  (with_reducible refine (D4.out _).mono ?_); rintro e wa14 ⟨rfl, hlow⟩
  have HQ14 := hid (HQ13.out.self hlow)
  clear hlow
  refine hK.out _ _ (⟨HQ14.out.src, HQ14.out.two⟩) (fun h24x => ?_)
  clear hK K
  try simp only [Act.put, lay_out]
  refine wpAnyH_take (i := 14) (v := .bool q) rfl (by kernel_rfl) (by kernel_rfl) (by kernel_rfl) (fun _ _ _ h => h) (.inl ⟨by rfl, fun w _ => exec_eq25 (.tmp 38) (.tmp 40) rfl (f := c1) (g := c2) (q := q) rfl rfl E5.out⟩) h24x ?_
  try simp only [Act.put, lay_out]
  refine wpAnyH_take (i := 18) (v := .bool true) rfl (by kernel_rfl) (by kernel_rfl) (by kernel_rfl) (fun _ _ _ h => h) (.inl ⟨by rfl, fun w hw => by clear hw; go_simp⟩) h24x ?_
  try simp only [Act.put, lay_out]
  refine wpAnyH_take (i := 19) (v := .bool true) rfl (by kernel_rfl) (by kernel_rfl) (by kernel_rfl) (fun _ _ _ h => h) (.inl ⟨by rfl, fun w hw => by clear hw; go_simp⟩) h24x ?_
  try simp only [Act.put, lay_out]
  refine wpAnyH_take (i := 20) (v := .bool true) rfl (by kernel_rfl) (by kernel_rfl) (by kernel_rfl) (fun _ _ _ h => h) (.inl ⟨by rfl, fun w hw => by clear hw; go_simp⟩) h24x ?_
  try simp only [Act.put, lay_out]
  refine wpAnyH_take (i := 21) (v := .agg (wa 25 f)) rfl (by kernel_rfl) (by kernel_rfl) (by kernel_rfl) (fun _ _ _ h => h) (yields_load_wa (by rfl) 23 _ rfl w.heap.size 25 23 22 f rfl (fun w h => h.1) Try.underlying23 info23) h24x ?_
  try simp only [Act.put, lay_out]
  refine wpAnyH_take (i := 26) (v := .agg (wa 25 f)) rfl (by kernel_rfl) (by kernel_rfl) (by kernel_rfl) (fun _ _ _ h => h) (yields_load_wa (by rfl) 23 _ rfl w.heap.size 25 23 22 f rfl (fun w h => h.1) Try.underlying23 info23) h24x ?_
  try simp only [Act.put, lay_out]
  refine wpAnyH_take (i := 23) (v := .agg (wa 25 g)) rfl (by kernel_rfl) (by kernel_rfl) (by kernel_rfl) (fun _ _ _ h => h) (yields_load_wa (by rfl) 23 _ rfl (w.heap.size + 1) 25 23 22 g rfl (fun w h => h.2) Try.underlying23 info23) h24x ?_
  try simp only [Act.put, lay_out]
  refine wpAnyH_take (i := 27) (v := .agg (wa 25 g)) rfl (by kernel_rfl) (by kernel_rfl) (by kernel_rfl) (fun _ _ _ h => h) (yields_load_wa (by rfl) 23 _ rfl (w.heap.size + 1) 25 23 22 g rfl (fun w h => h.2) Try.underlying23 info23) h24x ?_
  try simp only [Act.put, lay_out]
  refine wpAnyH_take (i := 28) (v := .bool q) rfl (by kernel_rfl) (by kernel_rfl) (by kernel_rfl) (fun _ _ _ h => h) (.inl ⟨by rfl, fun w _ => exec_eq25 (.tmp 53) (.tmp 54) rfl (f := f) (g := g) (q := q) rfl rfl E3.out⟩) h24x ?_
  try simp only [Act.put, lay_out]
  refine wpAnyH_ready (rs := [22]) (by kernel_rfl) (by simp) (AllReadyH.cons rfl (fun K hK => ?_) AllReadyH.nil)
  rw [if_pos (by rfl)]
  go_simp
  go_at_call 10
  (with_reducible refine (C3.out _).mono ?_); rintro e wa15 ⟨rfl, hlow⟩
  have HQ15 := hid (HQ14.out.self hlow)
  clear hlow
  refine hK.out _ _ (⟨HQ15.out.src, HQ15.out.two⟩) (fun h25x => ?_)
  clear hK K
  try simp only [Act.put, lay_out]
  refine wpAnyH_ready (rs := [24]) (by kernel_rfl) (by simp) (AllReadyH.cons rfl (fun K hK => ?_) AllReadyH.nil)
  rw [if_pos (by rfl)]
  go_simp
  go_at_call 10
  (with_reducible refine (C4.out _).mono ?_); rintro e wa16 ⟨rfl, hlow⟩
  have HQ16 := hid (HQ15.out.self hlow)
  clear hlow
  refine hK.out _ _ (⟨HQ16.out.src, HQ16.out.two⟩) (fun h26x => ?_)
  clear hK K
  try simp only [Act.put, lay_out]
  refine wpAnyH_take (i := 25) (v := .bool q) rfl (by kernel_rfl) (by kernel_rfl) (by kernel_rfl) (fun _ _ _ h => h) (.inl ⟨by rfl, fun w _ => exec_eq25 (.tmp 49) (.tmp 51) rfl (f := a1) (g := a2) (q := q) rfl rfl E6.out⟩) h26x ?_
  try simp only [Act.put, lay_out]
  refine wpAnyH_take (i := 29) (v := .bool true) rfl (by kernel_rfl) (by kernel_rfl) (by kernel_rfl) (fun _ _ _ h => h) (.inl ⟨by rfl, fun w hw => by clear hw; go_simp⟩) h26x ?_
  try simp only [Act.put, lay_out]
  refine wpAnyH_take (i := 30) (v := .bool true) rfl (by kernel_rfl) (by kernel_rfl) (by kernel_rfl) (fun _ _ _ h => h) (.inl ⟨by rfl, fun w hw => by clear hw; go_simp⟩) h26x ?_
  try simp only [Act.put, lay_out]
  refine wpAnyH_take (i := 31) (v := .bool true) rfl (by kernel_rfl) (by kernel_rfl) (by kernel_rfl) (fun _ _ _ h => h) (.inl ⟨by rfl, fun w hw => by clear hw; go_simp⟩) h26x ?_
  try simp only [Act.put, lay_out]
  refine wpAnyH_ready (rs := [32]) (by kernel_rfl) (by simp) (AllReadyH.cons rfl (fun K hK => ?_) AllReadyH.nil)
  rw [if_pos (by rfl)]
  go_simp
  go_at_call 18
  (with_reducible refine (kawake_any _).mono ?_); rintro e wa17 ⟨rfl, hlow⟩
  have HQ17 := hid (HQ16.out.self hlow)
  clear hlow
  refine hK.out _ _ (⟨HQ17.out.src, HQ17.out.two⟩) (fun h27x => ?_)
  clear hK K
  try simp only [Act.put, lay_out]
  refine wpAnyH_take (i := 33) (v := .bool true) rfl (by kernel_rfl) (by kernel_rfl) (by kernel_rfl) (fun _ _ _ h => h) (.inl ⟨by rfl, fun w hw => by clear hw; go_simp⟩) h27x ?_
  try simp only [Act.put, lay_out]
  refine wpAnyH_take (i := 34) (v := .bool true) rfl (by kernel_rfl) (by kernel_rfl) (by kernel_rfl) (fun _ _ _ h => h) (.inl ⟨by rfl, fun w hw => by clear hw; go_simp⟩) h27x ?_
  try simp only [Act.put, lay_out]
  refine wpAnyH_done (by kernel_rfl) ?_ _
  refine NoPanic.normal ?_
  clear h0 h21x h22x h23x h24x h25x h26x h27x
  try simp only [Act.put, lay_out]
  go_wp2
  go_ret
  exact ⟨rfl, HQ17.out.low⟩
end Go.Proofs.Ytfgbcohmbbjagaa
