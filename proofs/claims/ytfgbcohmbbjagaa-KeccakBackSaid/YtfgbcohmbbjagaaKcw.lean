import Derived.Test.YtfgbcohmbbjagaaKct
namespace Go.Proofs.Ytfgbcohmbbjagaa
open Go.RowKit

set_option maxRecDepth 100000 in
set_option maxHeartbeats 6400000 in
theorem kback_core (f : Nat → Nat) (w : World) (hf : W25 f) :
    Calls Try.prog 5 #[.agg (wa 25 f)] w fun e w' => e = .returned (.bool true) ∧ Below w.heap.size w w' := by
  have HS := hid (K1.start f w)
  have hp1 := pm_w (t := tun) mkf_lt hf 24 (Nat.le_refl 24)
  have hp3 := bkN_w (t := tun) mkf_lt 24 (Nat.le_refl 24) hf
  have hp5 := ch_w (ch_w (ch_w hf))
  have hp7 := bm_w (t := tun) hf
  have hp9 := ch_w hf
  have C1 : Hid (∀ w, Calls Try.prog 16 #[.agg (wa 25 (f))] w fun e w' => e = .returned (.agg (wa 25 (pm tun mkf 24 f))) ∧ Below w.heap.size w w') := hid (fun w => permute_any f w hf)
  have C2 : Hid (∀ w, Calls Try.prog 20 #[.agg (wa 25 (pm tun mkf 24 f))] w fun e w' => e = .returned (.agg (wa 25 (bkN tun mkf 24 (pm tun mkf 24 f)))) ∧ Below w.heap.size w w') := hid (fun w => back_any _ w hp1)
  have C3 : Hid (∀ w, Calls Try.prog 20 #[.agg (wa 25 (f))] w fun e w' => e = .returned (.agg (wa 25 (bkN tun mkf 24 f))) ∧ Below w.heap.size w w') := hid (fun w => back_any f w hf)
  have C4 : Hid (∀ w, Calls Try.prog 17 #[.agg (wa 25 (bkN tun mkf 24 f))] w fun e w' => e = .returned (.agg (wa 25 (pm tun mkf 24 (bkN tun mkf 24 f)))) ∧ Below w.heap.size w w') := hid (fun w => refpermute_any _ w hp3)
  have C5 : Hid (∀ w, Calls Try.prog 21 #[.agg (wa 25 (f))] w fun e w' => e = .returned (.agg (wa 25 (ch (ch (ch f))))) ∧ Below w.heap.size w w') := hid (fun w => backchi_any f w hf)
  have C6 : Hid (∀ w, Calls Try.prog 15 #[.agg (wa 25 (ch (ch (ch f))))] w fun e w' => e = .returned (.agg (wa 25 (ch (ch (ch (ch f)))))) ∧ Below w.heap.size w w') := hid (fun w => refchi_any _ w hp5)
  have C7 : Hid (∀ w, Calls Try.prog 22 #[.agg (wa 25 (f))] w fun e w' => e = .returned (.agg (wa 25 (bm tun f))) ∧ Below w.heap.size w w') := hid (fun w => backmove_any f w hf)
  have C8 : Hid (∀ w, Calls Try.prog 13 #[.agg (wa 25 (bm tun f))] w fun e w' => e = .returned (.agg (wa 25 (mo tun (bm tun f)))) ∧ Below w.heap.size w w') := hid (fun w => refmove_any _ w hp7)
  have C9 : Hid (∀ w, Calls Try.prog 15 #[.agg (wa 25 (f))] w fun e w' => e = .returned (.agg (wa 25 (ch f))) ∧ Below w.heap.size w w') := hid (fun w => refchi_any f w hf)
  have D1 : Hid (∀ w, Calls Try.prog 21 #[.agg (wa 25 (ch f))] w fun e w' => e = .returned (.agg (wa 25 (ch (ch (ch (ch f)))))) ∧ Below w.heap.size w w') := hid (fun w => backchi_any _ w hp9)
  have E1 := hid (bkN_pm tun_lt mkf_lt hf 24 (Nat.le_refl 24) _ (Eq25.refl _))
  have E2 := hid (pm_bkN tun_lt mkf_lt 24 (Nat.le_refl 24) hf)
  have E3 := hid (ch4 f)
  have E4 := hid (mo_bm tun_lt hf)
  have E5 := hid (ch4 f)
  have HT := hid (fun n w => theta_any (thN n f) w (thN_w hf n))
  have HTN : Hid (∀ n, th (thN n f) = thN (n + 1) f) := hid (fun _ => rfl)
  have HT0 : Hid (thN 0 f = f) := hid rfl
  have E6 := hid (th192 hf)
  generalize bkN tun mkf 24 (pm tun mkf 24 f) = p2 at *
  generalize pm tun mkf 24 (bkN tun mkf 24 f) = p4 at *
  generalize pm tun mkf 24 f = p1 at *
  generalize bkN tun mkf 24 f = p3 at *
  generalize hp : ch (ch (ch (ch f))) = p6 at *
  have hp' : Eq25 p6 f := E3.out
  generalize ch (ch (ch f)) = p5 at *
  generalize mo tun (bm tun f) = p8 at *
  generalize bm tun f = p7 at *
  generalize ch f = p9 at *
  clear hf hp1 hp3 hp5 hp7 hp9 hp hp'
  go_enter Try.func5, Try.ntmps5
  go_wp2
  have HS5 := hid HS.out.drew
  refine wp_region_noPanic ?_
  refine wp_region_held_drew (S := fun w' => Aw w' w.heap.size 25 23 f) (by kernel_rfl) (HS5.out.src) (fun h0 => ?_)
  generalize (w.alloc (.cells (wa 25 f) 23)).drew = w5 at *
  refine wpAnyH_take (i := 0) (v := .agg (wa 25 f)) rfl (by kernel_rfl) (by kernel_rfl) (by kernel_rfl) (fun _ _ _ h => h) (yields_load_wa (by rfl) 23 _ rfl w.heap.size 25 23 22 f rfl (fun w h => h) Try.underlying23 info23) h0 ?_
  try simp only [Act.put, lay_out]
  refine wpAnyH_take (i := 3) (v := .agg (wa 25 f)) rfl (by kernel_rfl) (by kernel_rfl) (by kernel_rfl) (fun _ _ _ h => h) (yields_load_wa (by rfl) 23 _ rfl w.heap.size 25 23 22 f rfl (fun w h => h) Try.underlying23 info23) h0 ?_
  try simp only [Act.put, lay_out]
  refine wpAnyH_ready (rs := [1]) (by kernel_rfl) (by simp) (AllReadyH.cons rfl (fun K hK => ?_) AllReadyH.nil)
  rw [if_pos (by rfl)]
  go_simp
  go_at_call 16
  (with_reducible refine (C1.out _).mono ?_); rintro e wa1 ⟨rfl, hlow⟩
  have HQ1 := hid (HS5.out.self hlow)
  clear hlow
  refine hK.out _ _ (HQ1.out.src) (fun h1x => ?_)
  clear hK K
  try simp only [Act.put, lay_out]
  refine wpAnyH_ready (rs := [2]) (by kernel_rfl) (by simp) (AllReadyH.cons rfl (fun K hK => ?_) AllReadyH.nil)
  rw [if_pos (by rfl)]
  go_simp
  go_at_call 20
  (with_reducible refine (C2.out _).mono ?_); rintro e wa2 ⟨rfl, hlow⟩
  have HQ2 := hid (HQ1.out.self hlow)
  clear hlow
  refine hK.out _ _ (HQ2.out.src) (fun h2x => ?_)
  clear hK K
  try simp only [Act.put, lay_out]
  refine wpAnyH_take (i := 4) (v := .bool false) rfl (by kernel_rfl) (by kernel_rfl) (by kernel_rfl) (fun _ _ _ h => h) (.inl ⟨by rfl, fun w _ => exec_ne25 (.tmp 7) (.tmp 8) rfl (f := p2) (g := f) (q := true) rfl rfl ⟨fun _ => rfl, fun _ => E1.out⟩⟩) h2x ?_
  try simp only [Act.put, lay_out]
  refine wpAnyH_take (i := 5) (v := .bool false) rfl (by kernel_rfl) (by kernel_rfl) (by kernel_rfl) (fun _ _ _ h => h) (.inl ⟨by rfl, fun w hw => by clear hw; go_simp⟩) h2x ?_
  try simp only [Act.put, lay_out]
  refine wpAnyH_take (i := 6) (v := .agg (wa 25 f)) rfl (by kernel_rfl) (by kernel_rfl) (by kernel_rfl) (fun _ _ _ h => h) (yields_load_wa (by rfl) 23 _ rfl w.heap.size 25 23 22 f rfl (fun w h => h) Try.underlying23 info23) h2x ?_
  try simp only [Act.put, lay_out]
  refine wpAnyH_take (i := 9) (v := .agg (wa 25 f)) rfl (by kernel_rfl) (by kernel_rfl) (by kernel_rfl) (fun _ _ _ h => h) (yields_load_wa (by rfl) 23 _ rfl w.heap.size 25 23 22 f rfl (fun w h => h) Try.underlying23 info23) h2x ?_
  try simp only [Act.put, lay_out]
  refine wpAnyH_ready (rs := [7]) (by kernel_rfl) (by simp) (AllReadyH.cons rfl (fun K hK => ?_) AllReadyH.nil)
  rw [if_pos (by rfl)]
  go_simp
  go_at_call 20
  (with_reducible refine (C3.out _).mono ?_); rintro e wa3 ⟨rfl, hlow⟩
  have HQ3 := hid (HQ2.out.self hlow)
  clear hlow
  refine hK.out _ _ (HQ3.out.src) (fun h3x => ?_)
  clear hK K
  try simp only [Act.put, lay_out]
  refine wpAnyH_ready (rs := [8]) (by kernel_rfl) (by simp) (AllReadyH.cons rfl (fun K hK => ?_) AllReadyH.nil)
  rw [if_pos (by rfl)]
  go_simp
  go_at_call 17
  (with_reducible refine (C4.out _).mono ?_); rintro e wa4 ⟨rfl, hlow⟩
  have HQ4 := hid (HQ3.out.self hlow)
  clear hlow
  refine hK.out _ _ (HQ4.out.src) (fun h4x => ?_)
  clear hK K
  try simp only [Act.put, lay_out]
  refine wpAnyH_take (i := 10) (v := .bool false) rfl (by kernel_rfl) (by kernel_rfl) (by kernel_rfl) (fun _ _ _ h => h) (.inl ⟨by rfl, fun w _ => exec_ne25 (.tmp 13) (.tmp 14) rfl (f := p4) (g := f) (q := true) rfl rfl ⟨fun _ => rfl, fun _ => E2.out⟩⟩) h4x ?_
  try simp only [Act.put, lay_out]
  refine wpAnyH_take (i := 11) (v := .bool false) rfl (by kernel_rfl) (by kernel_rfl) (by kernel_rfl) (fun _ _ _ h => h) (.inl ⟨by rfl, fun w hw => by clear hw; go_simp⟩) h4x ?_
  try simp only [Act.put, lay_out]
  refine wpAnyH_take (i := 12) (v := .bool false) rfl (by kernel_rfl) (by kernel_rfl) (by kernel_rfl) (fun _ _ _ h => h) (.inl ⟨by rfl, fun w hw => by clear hw; go_simp⟩) h4x ?_
  try simp only [Act.put, lay_out]
  refine wpAnyH_take (i := 13) (v := .agg (wa 25 f)) rfl (by kernel_rfl) (by kernel_rfl) (by kernel_rfl) (fun _ _ _ h => h) (yields_load_wa (by rfl) 23 _ rfl w.heap.size 25 23 22 f rfl (fun w h => h) Try.underlying23 info23) h4x ?_
  try simp only [Act.put, lay_out]
  refine wpAnyH_take (i := 16) (v := .agg (wa 25 f)) rfl (by kernel_rfl) (by kernel_rfl) (by kernel_rfl) (fun _ _ _ h => h) (yields_load_wa (by rfl) 23 _ rfl w.heap.size 25 23 22 f rfl (fun w h => h) Try.underlying23 info23) h4x ?_
  try simp only [Act.put, lay_out]
  refine wpAnyH_ready (rs := [14]) (by kernel_rfl) (by simp) (AllReadyH.cons rfl (fun K hK => ?_) AllReadyH.nil)
  rw [if_pos (by rfl)]
  go_simp
  go_at_call 21
  (with_reducible refine (C5.out _).mono ?_); rintro e wa5 ⟨rfl, hlow⟩
  have HQ5 := hid (HQ4.out.self hlow)
  clear hlow
  refine hK.out _ _ (HQ5.out.src) (fun h5x => ?_)
  clear hK K
  try simp only [Act.put, lay_out]
  refine wpAnyH_ready (rs := [15]) (by kernel_rfl) (by simp) (AllReadyH.cons rfl (fun K hK => ?_) AllReadyH.nil)
  rw [if_pos (by rfl)]
  go_simp
  go_at_call 15
  (with_reducible refine (C6.out _).mono ?_); rintro e wa6 ⟨rfl, hlow⟩
  have HQ6 := hid (HQ5.out.self hlow)
  clear hlow
  refine hK.out _ _ (HQ6.out.src) (fun h6x => ?_)
  clear hK K
  try simp only [Act.put, lay_out]
  refine wpAnyH_take (i := 17) (v := .bool false) rfl (by kernel_rfl) (by kernel_rfl) (by kernel_rfl) (fun _ _ _ h => h) (.inl ⟨by rfl, fun w _ => exec_ne25 (.tmp 20) (.tmp 21) rfl (f := p6) (g := f) (q := true) rfl rfl ⟨fun _ => rfl, fun _ => E3.out⟩⟩) h6x ?_
  try simp only [Act.put, lay_out]
  refine wpAnyH_take (i := 18) (v := .bool false) rfl (by kernel_rfl) (by kernel_rfl) (by kernel_rfl) (fun _ _ _ h => h) (.inl ⟨by rfl, fun w hw => by clear hw; go_simp⟩) h6x ?_
  try simp only [Act.put, lay_out]
  refine wpAnyH_take (i := 19) (v := .bool false) rfl (by kernel_rfl) (by kernel_rfl) (by kernel_rfl) (fun _ _ _ h => h) (.inl ⟨by rfl, fun w hw => by clear hw; go_simp⟩) h6x ?_
  try simp only [Act.put, lay_out]
  refine wpAnyH_take (i := 20) (v := .agg (wa 25 f)) rfl (by kernel_rfl) (by kernel_rfl) (by kernel_rfl) (fun _ _ _ h => h) (yields_load_wa (by rfl) 23 _ rfl w.heap.size 25 23 22 f rfl (fun w h => h) Try.underlying23 info23) h6x ?_
  try simp only [Act.put, lay_out]
  refine wpAnyH_take (i := 23) (v := .agg (wa 25 f)) rfl (by kernel_rfl) (by kernel_rfl) (by kernel_rfl) (fun _ _ _ h => h) (yields_load_wa (by rfl) 23 _ rfl w.heap.size 25 23 22 f rfl (fun w h => h) Try.underlying23 info23) h6x ?_
  try simp only [Act.put, lay_out]
  refine wpAnyH_ready (rs := [21]) (by kernel_rfl) (by simp) (AllReadyH.cons rfl (fun K hK => ?_) AllReadyH.nil)
  rw [if_pos (by rfl)]
  go_simp
  go_at_call 22
  (with_reducible refine (C7.out _).mono ?_); rintro e wa7 ⟨rfl, hlow⟩
  have HQ7 := hid (HQ6.out.self hlow)
  clear hlow
  refine hK.out _ _ (HQ7.out.src) (fun h7x => ?_)
  clear hK K
  try simp only [Act.put, lay_out]
  refine wpAnyH_ready (rs := [22]) (by kernel_rfl) (by simp) (AllReadyH.cons rfl (fun K hK => ?_) AllReadyH.nil)
  rw [if_pos (by rfl)]
  go_simp
  go_at_call 13
  (with_reducible refine (C8.out _).mono ?_); rintro e wa8 ⟨rfl, hlow⟩
  have HQ8 := hid (HQ7.out.self hlow)
  clear hlow
  refine hK.out _ _ (HQ8.out.src) (fun h8x => ?_)
  clear hK K
  try simp only [Act.put, lay_out]
  refine wpAnyH_take (i := 24) (v := .bool false) rfl (by kernel_rfl) (by kernel_rfl) (by kernel_rfl) (fun _ _ _ h => h) (.inl ⟨by rfl, fun w _ => exec_ne25 (.tmp 27) (.tmp 28) rfl (f := p8) (g := f) (q := true) rfl rfl ⟨fun _ => rfl, fun _ => E4.out⟩⟩) h8x ?_
  try simp only [Act.put, lay_out]
  refine wpAnyH_take (i := 25) (v := .bool false) rfl (by kernel_rfl) (by kernel_rfl) (by kernel_rfl) (fun _ _ _ h => h) (.inl ⟨by rfl, fun w hw => by clear hw; go_simp⟩) h8x ?_
  try simp only [Act.put, lay_out]
  refine wpAnyH_take (i := 26) (v := .bool false) rfl (by kernel_rfl) (by kernel_rfl) (by kernel_rfl) (fun _ _ _ h => h) (.inl ⟨by rfl, fun w hw => by clear hw; go_simp⟩) h8x ?_
  try simp only [Act.put, lay_out]
  refine wpAnyH_take (i := 27) (v := .agg (wa 25 f)) rfl (by kernel_rfl) (by kernel_rfl) (by kernel_rfl) (fun _ _ _ h => h) (yields_load_wa (by rfl) 23 _ rfl w.heap.size 25 23 22 f rfl (fun w h => h) Try.underlying23 info23) h8x ?_
  try simp only [Act.put, lay_out]
  refine wpAnyH_take (i := 30) (v := .agg (wa 25 f)) rfl (by kernel_rfl) (by kernel_rfl) (by kernel_rfl) (fun _ _ _ h => h) (yields_load_wa (by rfl) 23 _ rfl w.heap.size 25 23 22 f rfl (fun w h => h) Try.underlying23 info23) h8x ?_
  try simp only [Act.put, lay_out]
  refine wpAnyH_ready (rs := [28]) (by kernel_rfl) (by simp) (AllReadyH.cons rfl (fun K hK => ?_) AllReadyH.nil)
  rw [if_pos (by rfl)]
  go_simp
  go_at_call 15
  (with_reducible refine (C9.out _).mono ?_); rintro e wa9 ⟨rfl, hlow⟩
  have HQ9 := hid (HQ8.out.self hlow)
  clear hlow
  refine hK.out _ _ (HQ9.out.src) (fun h9x => ?_)
  clear hK K
  try simp only [Act.put, lay_out]
  refine wpAnyH_ready (rs := [29]) (by kernel_rfl) (by simp) (AllReadyH.cons rfl (fun K hK => ?_) AllReadyH.nil)
  rw [if_pos (by rfl)]
  go_simp
  go_at_call 21
  (with_reducible refine (D1.out _).mono ?_); rintro e wa10 ⟨rfl, hlow⟩
  have HQ10 := hid (HQ9.out.self hlow)
  clear hlow
  refine hK.out _ _ (HQ10.out.src) (fun h10x => ?_)
  clear hK K
  try simp only [Act.put, lay_out]
  refine wpAnyH_take (i := 31) (v := .bool false) rfl (by kernel_rfl) (by kernel_rfl) (by kernel_rfl) (fun _ _ _ h => h) (.inl ⟨by rfl, fun w _ => exec_ne25 (.tmp 34) (.tmp 35) rfl (f := p6) (g := f) (q := true) rfl rfl ⟨fun _ => rfl, fun _ => E5.out⟩⟩) h10x ?_
  try simp only [Act.put, lay_out]
  refine wpAnyH_take (i := 32) (v := .bool false) rfl (by kernel_rfl) (by kernel_rfl) (by kernel_rfl) (fun _ _ _ h => h) (.inl ⟨by rfl, fun w hw => by clear hw; go_simp⟩) h10x ?_
  try simp only [Act.put, lay_out]
  refine wpAnyH_done (by kernel_rfl) ?_ _
  refine NoPanic.normal ?_
  clear h0 h1x h2x h3x h4x h5x h6x h7x h8x h9x h10x
  try simp only [Act.put, lay_out]
  have HK := hid (KB.start HQ10.out f)
  go_wp2_with (first
    | (refine step_load_wa rfl 23 _ rfl w.heap.size 25 23 22 f rfl HQ10.out.src Try.underlying23 info23 ?_)
    | (refine step_store_wa rfl 23 _ _ rfl wa10.heap.size 25 23 (fun _ => 0) f rfl rfl (Aw.new wa10 25 23 (fun _ => 0)) info23 ?_))
  go_loopw [4] (fun i wr => ∃ n : Nat, n ≤ 192 ∧ i = .int .i64 n ∧ KB f (thN n f) wa10.heap.size w wr) (fun i _ => 192 - (intOf i).toNat)
  case atStart => exact ⟨0, by omega, rfl, by rw [HT0.out]; exact HK.out⟩
  case round =>
    obtain ⟨n, hn, rfl, hI⟩ := hrel
    have HI := hid hI
    clear hI
    by_cases hlt : n < 192
    · have HTn := hid (HT.out n)
      rw [HTN.out n] at HTn
      go_wp2_with (first
        | (refine step_load_wa rfl 23 _ rfl wa10.heap.size 25 23 22 _ rfl HI.out.var Try.underlying23 info23 ?_)
        | (go_at_call 10; (with_reducible refine (HTn.out _).mono ?_); rintro e w8 ⟨rfl, hlow⟩; have HI1 := hid (HI.out.self hlow); clear hlow)
        | (refine step_store_wa rfl 23 _ _ rfl wa10.heap.size 25 23 _ _ rfl rfl HI1.out.var info23 ?_))
      go_roundw
      case rel => exact ⟨n + 1, by omega, by go_num, HI1.out.row _⟩
      case measure => simp [intOf]; omega
    · obtain rfl : n = 192 := by omega
      generalize thN 192 f = g at *
      go_wp2_with (first
        | (refine step_load_wa rfl 23 (.tmp 3) rfl wa10.heap.size 25 23 22 g rfl HI.out.var Try.underlying23 info23 ?_)
        | (refine step_load_wa rfl 23 (.tmp 1) rfl w.heap.size 25 23 22 f rfl HI.out.src Try.underlying23 info23 ?_)
        | (refine step_eq25 (by rfl) (.tmp 45) (.tmp 46) rfl g f true rfl rfl ⟨fun _ => rfl, fun _ => E6.out⟩ ?_)
        | (go_at_call 18; (with_reducible refine (kawake_any _).mono ?_); rintro e w9 ⟨rfl, hlow⟩; have HI1 := hid (HI.out.self hlow); clear hlow))
      go_ret
      exact ⟨rfl, HI1.out.low⟩
end Go.Proofs.Ytfgbcohmbbjagaa
