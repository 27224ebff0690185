import Derived.Test.YtkeojphhgebhdaaProg
import Derived.Test.YtkeojphhgebhdaaCdn
/- CodeTells. -/
namespace Go.Proofs.Ytkeojphhgebhdaa
open Go.RowKit

set_option maxRecDepth 100000 in
set_option maxHeartbeats 6400000 in
theorem ctells_core (v : Value) (zs : List Int) (n : Int) (W : World) (h : RdC W v zs) (hn : n ≤ 9223372036854775807) :
    Calls Try.prog 3 #[v, .int .i64 n] W fun e w' => e = .returned (.bool true) ∧ Below W.heap.size W w' := by
  obtain ⟨z, k, ok, ht⟩ := tkr_any zs
  have HV := hid h
  have HL := hid (left_i n hn)
  have HL2 := hid (refleft_i n hn)
  have HR := hid (right_i n hn)
  have HR2 := hid (refright_i n hn)
  have HP := hid (fun w h => pad_i v zs n w h)
  have HP2 := hid (fun w h => refpad_i v zs n w h)
  have HT := hid (fun w h => take_i v zs z k ok ht w h)
  have HT2 := hid (fun w h => reftake_i v zs z k ok ht w h)
  have HS := hid (fun w h => str_i v zs w h)
  have HS2 := hid (fun w h => refstr_i v zs w h)
  have HAw := hid cawake_any
  generalize lefI n = zl at *
  generalize rigI n = zr at *
  generalize pdI zs n = zp at *
  generalize pdE n = pe at *
  generalize sto zs = zt at *
  clear ht h hn
  go_enter Try.func3, Try.ntmps3
  go_wp2_with (first
    | (go_at_call 6; (with_reducible refine (HP.out _ HV.out.rd).mono ?_); rintro e w1 ⟨v1, rfl, hr1, hl1⟩; have HR1 := hid hr1; have HW1 := hid hl1; clear hr1 hl1)
    | (go_at_call 7; (with_reducible refine (HP2.out w1 (HV.out.self HW1.out).rd).mono ?_); rintro e w2 ⟨v2, rfl, hr2, hl2⟩; have HRb := hid (And.intro (HR1.out.self hl2) hr2); have HW2 := hid (HW1.out.trans (hl2.mono HW1.out.size)); clear hr2 hl2)
    | (go_at_call 8; (with_reducible refine (HT.out w2 (HV.out.self HW2.out)).mono ?_); rintro e w3 ⟨v3, rfl, hr3, hl3⟩; have HRc := hid (And.intro (HRb.out.1.self hl3) (And.intro (HRb.out.2.self hl3) hr3)); have HW3 := hid (HW2.out.trans (hl3.mono HW2.out.size)); clear hr3 hl3)
    | (go_at_call 9; (with_reducible refine (HT2.out w3 (HV.out.self HW3.out)).mono ?_); rintro e w4 ⟨v4, rfl, hr4, hl4⟩; have HRd := hid (And.intro (HRc.out.1.self hl4) (And.intro (HRc.out.2.1.self hl4) (And.intro (HRc.out.2.2.self hl4) hr4))); have HW4 := hid (HW3.out.trans (hl4.mono HW3.out.size)); clear hr4 hl4))
  refine wp_region_noPanic ?_
  refine wp_region_held_drew (S := fun w' => Below w4.heap.size w4 w') (by kernel_rfl) ((Below.refl w4.heap.size w4).drew) (fun h0 => ?_)
  generalize w4.drew = w5 at *
  have HD5 := hid h0
  refine wpAnyH_from h0 (fun h1x => ?_)
  refine wpAnyH_take (i := 0) (v := .int .i64 n) rfl (by kernel_rfl) (by kernel_rfl) (by kernel_rfl) (fun _ _ _ h => h) (.inl ⟨by rfl, fun w hw => by clear hw; go_simp⟩) h1x ?_
  try simp only [Act.put, lay_out]
  refine wpAnyH_take (i := 3) (v := .int .i64 n) rfl (by kernel_rfl) (by kernel_rfl) (by kernel_rfl) (fun _ _ _ h => h) (.inl ⟨by rfl, fun w hw => by clear hw; go_simp⟩) h1x ?_
  try simp only [Act.put, lay_out]
  refine wpAnyH_ready (rs := [1]) (by kernel_rfl) (by simp) (AllReadyH.cons rfl (fun K hK => ?_) AllReadyH.nil)
  rw [if_pos (by rfl)]
  go_simp
  go_at_call 10
  (with_reducible refine (HL.out w5).mono ?_); rintro e w6 ⟨v6, rfl, hr6, hl6⟩
  have HR6 := hid hr6
  have HD6 := hid (HD5.out.trans (hl6.mono HD5.out.size))
  clear hr6
  refine hK.out _ _ (hl6) (fun h2x => ?_)
  clear hK K
  try simp only [Act.put, lay_out]
  clear hl6
  refine wpAnyH_from h2x (fun h3x => ?_)
  refine wpAnyH_take (i := 2) (v := .string (strOfNums zl)) rfl (by kernel_rfl) (by kernel_rfl) (by kernel_rfl) (fun _ _ _ h => h) (yields_conv (by rfl) (.tmp 40) rfl rfl (fun w h => HR6.out.self h) Try.underlying22 Try.underlying5 Try.underlying9) h3x ?_
  try simp only [Act.put, lay_out]
  refine wpAnyH_ready (rs := [4]) (by kernel_rfl) (by simp) (AllReadyH.cons rfl (fun K hK => ?_) AllReadyH.nil)
  rw [if_pos (by rfl)]
  go_simp
  go_at_call 11
  (with_reducible refine (HL2.out w6).mono ?_); rintro e w7 ⟨v7, rfl, hr7, hl7⟩
  have HR7 := hid hr7
  have HD7 := hid (HD6.out.trans (hl7.mono HD6.out.size))
  clear hr7
  refine hK.out _ _ (hl7) (fun h4x => ?_)
  clear hK K
  try simp only [Act.put, lay_out]
  clear hl7
  refine wpAnyH_from h4x (fun h5x => ?_)
  refine wpAnyH_take (i := 5) (v := .string (strOfNums zl)) rfl (by kernel_rfl) (by kernel_rfl) (by kernel_rfl) (fun _ _ _ h => h) (yields_conv (by rfl) (.tmp 43) rfl rfl (fun w h => HR7.out.self h) Try.underlying22 Try.underlying5 Try.underlying9) h5x ?_
  try simp only [Act.put, lay_out]
  refine wpAnyH_take (i := 6) (v := .bool false) rfl (by kernel_rfl) (by kernel_rfl) (by kernel_rfl) (fun _ _ _ h => h) (.inl ⟨by rfl, fun w hw => by clear hw; go_simp⟩) h5x ?_
  try simp only [Act.put, lay_out]
  refine wpAnyH_take (i := 7) (v := .bool false) rfl (by kernel_rfl) (by kernel_rfl) (by kernel_rfl) (fun _ _ _ h => h) (.inl ⟨by rfl, fun w hw => by clear hw; go_simp⟩) h5x ?_
  try simp only [Act.put, lay_out]
  refine wpAnyH_take (i := 8) (v := .int .i64 n) rfl (by kernel_rfl) (by kernel_rfl) (by kernel_rfl) (fun _ _ _ h => h) (.inl ⟨by rfl, fun w hw => by clear hw; go_simp⟩) h5x ?_
  try simp only [Act.put, lay_out]
  refine wpAnyH_take (i := 11) (v := .int .i64 n) rfl (by kernel_rfl) (by kernel_rfl) (by kernel_rfl) (fun _ _ _ h => h) (.inl ⟨by rfl, fun w hw => by clear hw; go_simp⟩) h5x ?_
  try simp only [Act.put, lay_out]
  refine wpAnyH_ready (rs := [9]) (by kernel_rfl) (by simp) (AllReadyH.cons rfl (fun K hK => ?_) AllReadyH.nil)
  rw [if_pos (by rfl)]
  go_simp
  go_at_call 12
  (with_reducible refine (HR.out w7).mono ?_); rintro e w8 ⟨v8, rfl, hr8, hl8⟩
  have HR8 := hid hr8
  have HD8 := hid (HD7.out.trans (hl8.mono HD7.out.size))
  clear hr8
  refine hK.out _ _ (hl8) (fun h6x => ?_)
  clear hK K
  try simp only [Act.put, lay_out]
  clear hl8
  refine wpAnyH_from h6x (fun h7x => ?_)
  refine wpAnyH_take (i := 10) (v := .string (strOfNums zr)) rfl (by kernel_rfl) (by kernel_rfl) (by kernel_rfl) (fun _ _ _ h => h) (yields_conv (by rfl) (.tmp 48) rfl rfl (fun w h => HR8.out.self h) Try.underlying22 Try.underlying5 Try.underlying9) h7x ?_
  try simp only [Act.put, lay_out]
  refine wpAnyH_ready (rs := [12]) (by kernel_rfl) (by simp) (AllReadyH.cons rfl (fun K hK => ?_) AllReadyH.nil)
  rw [if_pos (by rfl)]
  go_simp
  go_at_call 13
  (with_reducible refine (HR2.out w8).mono ?_); rintro e w9 ⟨v9, rfl, hr9, hl9⟩
  have HR9 := hid hr9
  have HD9 := hid (HD8.out.trans (hl9.mono HD8.out.size))
  clear hr9
  refine hK.out _ _ (hl9) (fun h8x => ?_)
  clear hK K
  try simp only [Act.put, lay_out]
  clear hl9
  refine wpAnyH_from h8x (fun h9x => ?_)
  refine wpAnyH_take (i := 13) (v := .string (strOfNums zr)) rfl (by kernel_rfl) (by kernel_rfl) (by kernel_rfl) (fun _ _ _ h => h) (yields_conv (by rfl) (.tmp 51) rfl rfl (fun w h => HR9.out.self h) Try.underlying22 Try.underlying5 Try.underlying9) h9x ?_
  try simp only [Act.put, lay_out]
  refine wpAnyH_take (i := 14) (v := .bool false) rfl (by kernel_rfl) (by kernel_rfl) (by kernel_rfl) (fun _ _ _ h => h) (.inl ⟨by rfl, fun w hw => by clear hw; go_simp⟩) h9x ?_
  try simp only [Act.put, lay_out]
  refine wpAnyH_take (i := 15) (v := .bool false) rfl (by kernel_rfl) (by kernel_rfl) (by kernel_rfl) (fun _ _ _ h => h) (.inl ⟨by rfl, fun w hw => by clear hw; go_simp⟩) h9x ?_
  try simp only [Act.put, lay_out]
  refine wpAnyH_take (i := 16) (v := .bool false) rfl (by kernel_rfl) (by kernel_rfl) (by kernel_rfl) (fun _ _ _ h => h) (.inl ⟨by rfl, fun w hw => by clear hw; go_simp⟩) h9x ?_
  try simp only [Act.put, lay_out]
  refine wpAnyH_take (i := 17) (v := v) rfl (by kernel_rfl) (by kernel_rfl) (by kernel_rfl) (fun _ _ _ h => h) (.inl ⟨by rfl, fun w hw => by clear hw; go_simp⟩) h9x ?_
  try simp only [Act.put, lay_out]
  refine wpAnyH_take (i := 20) (v := v) rfl (by kernel_rfl) (by kernel_rfl) (by kernel_rfl) (fun _ _ _ h => h) (.inl ⟨by rfl, fun w hw => by clear hw; go_simp⟩) h9x ?_
  try simp only [Act.put, lay_out]
  refine wpAnyH_ready (rs := [18]) (by kernel_rfl) (by simp) (AllReadyH.cons rfl (fun K hK => ?_) AllReadyH.nil)
  rw [if_pos (by rfl)]
  go_simp
  go_at_call 14
  (with_reducible refine (HS.out w9 (HV.out.self (HW4.out.trans (HD9.out.mono HW4.out.size))).rd).mono ?_); rintro e w10 ⟨v10, rfl, hr10, hl10⟩
  have HR10 := hid hr10
  have HD10 := hid (HD9.out.trans (hl10.mono HD9.out.size))
  clear hr10
  refine hK.out _ _ (hl10) (fun h10x => ?_)
  clear hK K
  try simp only [Act.put, lay_out]
  clear hl10
  refine wpAnyH_from h10x (fun h11x => ?_)
  refine wpAnyH_take (i := 19) (v := .string (strOfNums zt)) rfl (by kernel_rfl) (by kernel_rfl) (by kernel_rfl) (fun _ _ _ h => h) (yields_conv (by rfl) (.tmp 57) rfl rfl (fun w h => HR10.out.self h) Try.underlying22 Try.underlying5 Try.underlying9) h11x ?_
  try simp only [Act.put, lay_out]
  refine wpAnyH_ready (rs := [21]) (by kernel_rfl) (by simp) (AllReadyH.cons rfl (fun K hK => ?_) AllReadyH.nil)
  rw [if_pos (by rfl)]
  go_simp
  go_at_call 15
  (with_reducible refine (HS2.out w10 (HV.out.self (HW4.out.trans (HD10.out.mono HW4.out.size))).rd).mono ?_); rintro e w11 ⟨v11, rfl, hr11, hl11⟩
  have HR11 := hid hr11
  have HD11 := hid (HD10.out.trans (hl11.mono HD10.out.size))
  clear hr11
  refine hK.out _ _ (hl11) (fun h12x => ?_)
  clear hK K
  try simp only [Act.put, lay_out]
  clear hl11
  refine wpAnyH_from h12x (fun h13x => ?_)
  refine wpAnyH_take (i := 22) (v := .string (strOfNums zt)) rfl (by kernel_rfl) (by kernel_rfl) (by kernel_rfl) (fun _ _ _ h => h) (yields_conv (by rfl) (.tmp 60) rfl rfl (fun w h => HR11.out.self h) Try.underlying22 Try.underlying5 Try.underlying9) h13x ?_
  try simp only [Act.put, lay_out]
  refine wpAnyH_take (i := 23) (v := .bool false) rfl (by kernel_rfl) (by kernel_rfl) (by kernel_rfl) (fun _ _ _ h => h) (.inl ⟨by rfl, fun w hw => by clear hw; go_simp⟩) h13x ?_
  try simp only [Act.put, lay_out]
  refine wpAnyH_take (i := 24) (v := .bool false) rfl (by kernel_rfl) (by kernel_rfl) (by kernel_rfl) (fun _ _ _ h => h) (.inl ⟨by rfl, fun w hw => by clear hw; go_simp⟩) h13x ?_
  try simp only [Act.put, lay_out]
  refine wpAnyH_done (by kernel_rfl) ?_ _
  refine NoPanic.normal ?_
  clear h0 h1x h2x h3x h4x h5x h6x h7x h8x h9x h10x h11x h12x h13x
  try simp only [Act.put, lay_out]
  have k0 := run_conv_rw (P := Try.prog) (HRd.out.1.self HD11.out) Try.underlying22 Try.underlying5 9 Try.underlying9
  have k1 := run_conv_rw (P := Try.prog) (HRd.out.2.1.self HD11.out) Try.underlying22 Try.underlying5 9 Try.underlying9
  have k2 := run_conv_rw (P := Try.prog) (HRd.out.2.2.1.self HD11.out) Try.underlying22 Try.underlying5 9 Try.underlying9
  have k3 := run_conv_rw (P := Try.prog) (HRd.out.2.2.2.self HD11.out) Try.underlying22 Try.underlying5 9 Try.underlying9
  generalize strOfNums zp = sp at *
  generalize strOfNums z = sz at *
  have HW11 := hid (HW4.out.trans (HD11.out.mono HW4.out.size))
  go_wp2_with (first
    | (go_at_call 16; (with_reducible refine (HAw.out _).mono ?_); rintro e w12 ⟨rfl, hl12⟩; have HW12 := hid (HW11.out.trans (hl12.mono HW11.out.size)); clear hl12))
  go_ret
  exact ⟨rfl, HW12.out⟩
end Go.Proofs.Ytkeojphhgebhdaa
