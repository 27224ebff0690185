import Derived.Test.YtiejaedljebbfaaProg
import Derived.Test.YtiejaedljebbfaaCts
/- CtrParts: no data. -/
namespace Go.Proofs.Ytiejaedljebbfaa
open Go.RowKit
set_option maxRecDepth 100000

set_option maxHeartbeats 12800000 in
theorem parts_zero (κ f δ : Nat → Nat) (bb bo bc dc : Nat) (da : Option Addr) (w : World) (hκ : ∀ i, i < 16 → κ i < 256) (hB : Wd w 16 bb bo f) (hD : Rd .u8 w (.slice da 0 dc) (ns 0 δ)) (hδ : ∀ j, j < 0 → δ j < 256)
    :
    Calls Try.prog 5 #[.agg (ba 16 κ), .slice (some ⟨bb, bo, none⟩) 16 bc, .slice da 0 dc, .int .i64 0] w fun e w' => e = .returned (.bool true) ∧ Below w.heap.size w w' := by
  have HX := hid (Bx1.start w κ)
  obtain ⟨Y, hky⟩ := ky_box HX.out.key hκ
  have HN := hid (hky.new _ (Below.refl _ _))
  unfold NewD at HN
  have HKY := hid hky
  have HB := hid hB
  have HB16 : Hid (B16 f) := hid hB.byte
  have HDR := hid hD
  have HD := hid hδ
  have HPQ : Hid (0 < 16 ∧ 0 < 9223372036854775808) := hid (by omega)
  have HFF : Hid (∀ j, strF Y 10 (lat f 0) (0 + j) = strF Y 10 f (0 + j)) := hid (fun j => by rw [strF_later]; congr 1; omega)
  have HIN : Hid True := hid trivial
  have hw0 : IntKind.i64.wrap 0 = 0 := by decide
  have HM : Hid (0 ≤ 300) := hid (by decide)
  clear hB hD hδ hκ hky
  go_enter Try.func5, Try.ntmps5
  go_wp2_with (first
    | (go_at_call 8; (with_reducible refine HN.out.mono ?_); rintro e w1 ⟨d, b, c, cap, rfl, hci, hb, hlow⟩
       have HL1 : Hid (Lw b w w1) := hid ⟨HX.out.low.trans (hlow.mono HX.out.low.size), Nat.le_trans HX.out.low.size hb, hci.box.lt⟩
       have HV1 : Hid (Below (w.alloc (.cells (ba 16 κ) 39)).heap.size (w.alloc (.cells (ba 16 κ) 39)) w1 ∧ (w.alloc (.cells (ba 16 κ) 39)).heap.size ≤ b) := hid ⟨hlow, hb⟩
       have HG1 : Hid (Gv w1 d b c cap 10 11 bb bo bc Y f) := hid ⟨HKY.out.num, hci, (HB.out.self HX.out.low).self hlow, by have := HB.out.lt; have := HX.out.low.size; omega⟩
       have HK1 : Hid (KL b w1 [(.slice da 0 dc, ns 0 δ), (.slice (some ⟨bb, bo, none⟩) 16 bc, ns 16 f)]) := hid (((KL.nil.cons (kept_rd ((HB.out.self HX.out.low).rd bc (by decide)) hb)).cons (kept_rd (HDR.out.self HX.out.low) hb)).later (Only.of_below hlow))
       clear hci hb hlow)
    | (go_at_call 17
       have HP : Calls Try.prog 17 #[.pointer (some ⟨d, 0, none⟩), .slice (some ⟨bb, bo, none⟩) 16 bc, .slice da 0 dc, .int .i64 0] w1 _ := part_any (.slice da 0 dc) d b c cap 10 11 bb bo bc 0 0 Y f δ w1 (by have := HM.out; omega) (by decide) (HK1.out.get m0) (HK1.out.all m0) HD.out HG1.out
       (with_reducible refine HP.mono ?_); clear HP; rintro e w2 ⟨u2, rfl, hown, hci, ho⟩
       have HL2 := hid (HL1.out.later ho)
       have HG2 := hid (HG1.out.asked hci ho)
       have HV2 := hid (And.intro (HV1.out.1.trans (ho.below HV1.out.2 HV1.out.1.size)) HV1.out.2)
       have HK2 := hid ((HK1.out.later ho).cons (kept_own hown HL1.out.lt (by have := HM.out; omega) (fun j hj => xorF_b (HD.out j hj) (HG1.out.strb _))))
       clear hown hci ho))
  refine wp_region_noPanic ?_
  refine wp_region_held_drew (S := fun _ => True) (by kernel_rfl) trivial (fun _ => ?_)
  have ho := (Only.refl b w2).drew
  have HL3 := hid (HL2.out.later ho)
  have HG3 := hid (HG2.out.asked HG2.out.ci.drew ho)
  have HV3 := hid (And.intro (HV2.out.1.trans (ho.below HV2.out.2 HV2.out.1.size)) HV2.out.2)
  have HK3 := hid (HK2.out.later ho)
  clear ho
  generalize w2.drew = w3 at *
  refine wpAnyH_take (i := 0) (v := .slice (some ⟨w.heap.size, 0, none⟩) 16 16) rfl (by kernel_rfl) (by kernel_rfl) (by kernel_rfl) (fun _ _ _ h => h) (.inl ⟨by rfl, fun w hw => by clear hw; go_simp⟩) trivial ?_
  try simp only [Act.put, lay_out]
  refine wpAnyH_take (i := 1) (v := .slice (some ⟨bb, bo, none⟩) 16 bc) rfl (by kernel_rfl) (by kernel_rfl) (by kernel_rfl) (fun _ _ _ h => h) (.inl ⟨by rfl, fun w hw => by clear hw; go_simp⟩) trivial ?_
  try simp only [Act.put, lay_out]
  refine wpAnyH_take (i := 2) (v := .int .i64 (0 : Int)) rfl (by kernel_rfl) (by kernel_rfl) (by kernel_rfl) (fun _ _ _ h => h) (.inl ⟨by rfl, fun w hw => by clear hw; go_simp⟩) trivial ?_
  try simp only [Act.put, lay_out]
  refine wpAnyH_take (i := 3) (v := .int .i64 (0 : Int)) rfl (by kernel_rfl) (by kernel_rfl) (by kernel_rfl) (fun _ _ _ h => h) (.inl ⟨by rfl, fun w hw => by clear hw; go_simp⟩) trivial ?_
  try simp only [Act.put, lay_out]
  refine wpAnyH_take (i := 5) (v := .int .i64 (0 : Int)) rfl (by kernel_rfl) (by kernel_rfl) (by kernel_rfl) (fun _ _ _ h => h) (.inl ⟨by rfl, fun w hw => by clear hw; go_simp⟩) trivial ?_
  try simp only [Act.put, lay_out]
  refine wpAnyH_take (i := 6) (v := .int .i64 (0 : Int)) rfl (by kernel_rfl) (by kernel_rfl) (by kernel_rfl) (fun _ _ _ h => h) (.inl ⟨by rfl, fun w hw => by clear hw; go_simp⟩) trivial ?_
  try simp only [Act.put, lay_out]
  refine wpAnyH_take (i := 7) (v := .slice da 0 dc) rfl (by kernel_rfl) (by kernel_rfl) (by kernel_rfl) (fun _ _ _ h => h) (.inl ⟨by rfl, fun w hw => by clear hw; go_simp⟩) trivial ?_
  try simp only [Act.put, lay_out]
  refine wpAnyH_take (i := 8) (v := .int .i64 (0 : Int)) rfl (by kernel_rfl) (by kernel_rfl) (by kernel_rfl) (fun _ _ _ h => h) (.inl ⟨by rfl, fun w hw => by clear hw; go_simp⟩) trivial ?_
  try simp only [Act.put, lay_out]
  refine wpAnyH_take (i := 9) (v := .int .i64 ((0 : Int) + (0 : Int))) rfl (by kernel_rfl) (by kernel_rfl) (by kernel_rfl) (fun _ _ _ h => h) (.inl ⟨by rfl, fun w hw => by clear hw; go_simp⟩) trivial ?_
  try simp only [Act.put, lay_out]
  refine wpAnyH_ready (rs := [4]) (by kernel_rfl) (by simp) (AllReadyH.cons rfl (fun K hK => ?_) AllReadyH.nil)
  rw [if_pos (by rfl)]
  go_simp
  go_at_call 16
  refine (reflater_kept b 0 (.slice (some ⟨bb, bo, none⟩) 16 bc) f w3 HPQ.out.2 HL3.out.lt (HK3.out.get m2) HB16.out).mono ?_
  rintro e w4 ⟨g4, c4, rfl, hk4, hlow⟩
  have HL4 := hid (HL3.out.self hlow)
  have HG4 := hid (HG3.out.self hlow)
  have HV4 := hid (And.intro (HV3.out.1.trans (hlow.mono HV3.out.1.size)) HV3.out.2)
  have HK4 := hid ((HK3.out.self hlow).cons hk4)
  have HS4 := hid (refstream_part b g4 0 c4 10 11 0 0 (0 + 0) (.slice (some ⟨w.heap.size, 0, none⟩) 16 16) Y (lat f 0) (fun j => strF Y 10 f (0 + j)) _ w4 rfl HPQ.out.1 (by have := HM.out; omega) HKY.out HV4.out.1 HL4.out.lt (lat_b f 0) (HK4.out.get m0) HFF.out)
  rw [show ((0 + 0 : Nat) : Int) = (0 : Int) + (0 : Int) from by omega] at HS4
  clear hk4 hlow
  refine hK.out _ _ trivial (fun _ => ?_)
  clear hK K
  try simp only [Act.put, lay_out]
  refine wpAnyH_ready (rs := [10]) (by kernel_rfl) (by simp) (AllReadyH.cons rfl (fun K hK => ?_) AllReadyH.nil)
  rw [if_pos (by rfl)]
  go_simp
  go_at_call 15
  refine HS4.out.mono ?_
  rintro e w5 ⟨g5, c5, rfl, hc5, hk5, hlow⟩
  have HL5 := hid (HL4.out.self hlow)
  have HG5 := hid (HG4.out.self hlow)
  have HV5 := hid (And.intro (HV4.out.1.trans (hlow.mono HV4.out.1.size)) HV4.out.2)
  have HK5 := hid (HK4.out.self hlow)
  have HP5 := hid hk5
  have HP5z : Hid (c5 ≤ 0 → Kept b w5 (.slice (some ⟨g5, 0, none⟩) 0 0) (ns 0 (fun j => strF Y 10 f (0 + j)))) := hid (fun h => by
    exact kept_zero _ _ _)
  clear hk5 hlow hc5
  refine hK.out _ _ trivial (fun _ => ?_)
  clear hK K
  try simp only [Act.put, lay_out]
  refine wpAnyH_take (i := 11) (v := .slice (some ⟨g5, 0, none⟩) (0 + 0) c5) rfl (by kernel_rfl) (by kernel_rfl) (by kernel_rfl) (fun _ _ _ h => h) (.inl ⟨by rfl, fun w hw => by clear hw; go_simp⟩) trivial ?_
  try simp only [Act.put, lay_out]
  refine wpAnyH_done (by kernel_rfl) ?_ _
  refine NoPanic.normal ?_
  try simp only [Act.put, lay_out]
  go_wp2_with (first
    | (go_at_call 14; (with_reducible refine (refxor_kept b 0 (.slice da 0 dc) (.slice (some ⟨g5, 0, none⟩) 0 c5) δ (fun j => strF Y 10 f (0 + j)) w5 (by have := HM.out; omega) HL5.out.lt (HK5.out.get m2) (HP5.out _).rd HD.out (fun j _ => HG5.out.strb _)).mono ?_); rintro e w6 ⟨u6, rfl, hk6, hlow⟩
       have HL6 := hid (HL5.out.self hlow)
       have HG6 := hid (HG5.out.self hlow)
       have HV6 := hid (And.intro (HV5.out.1.trans (hlow.mono HV5.out.1.size)) HV5.out.2)
       have HK6 := hid ((HK5.out.self hlow).cons hk6)
       clear hk6 hlow)
    | (go_at_call 14; (with_reducible refine (refxor_kept b 0 (.slice da 0 dc) (.slice (some ⟨g5, 0, none⟩) 0 0) δ (fun j => strF Y 10 f (0 + j)) w5 (by have := HM.out; omega) HL5.out.lt (HK5.out.get m2) (HP5z.out (by omega)).rd HD.out (fun j _ => HG5.out.strb _)).mono ?_); rintro e w6 ⟨u6, rfl, hk6, hlow⟩
       have HL6 := hid (HL5.out.self hlow)
       have HG6 := hid (HG5.out.self hlow)
       have HV6 := hid (And.intro (HV5.out.1.trans (hlow.mono HV5.out.1.size)) HV5.out.2)
       have HK6 := hid ((HK5.out.self hlow).cons hk6)
       clear hk6 hlow)
    | (go_at_call 13; (with_reducible refine (same_ns u2 u6 _ _ w6 (HK6.out.get m2) (HK6.out.get m0) rfl).mono ?_); rintro e w6 ⟨rfl, rfl⟩)
    | (go_at_call 17
       have HP : Calls Try.prog 17 #[.pointer (some ⟨d, 0, none⟩), .slice (some ⟨bb, bo, none⟩) 16 bc, .slice da 0 dc, .int .i64 0] w6 _ := part_any (.slice da 0 dc) d b c cap 10 11 bb bo bc 0 0 Y f δ w6 (by have := HIN.out; have := HM.out; omega) (by decide) (kept_prefix (HK6.out (.slice da 0 dc, ns 0 δ) m3) (show 0 ≤ 0 by have := HIN.out; omega)).rd (kept_prefix (HK6.out (.slice da 0 dc, ns 0 δ) m3) (show 0 ≤ 0 by have := HIN.out; omega)) (fun j hj => HD.out j (by have := HIN.out; omega)) HG6.out
       (with_reducible refine HP.mono ?_); clear HP; rintro e w7 ⟨u7, rfl, hown, hci, ho⟩
       have HL7 := hid (HL6.out.later ho)
       have HG7 := hid (HG6.out.asked hci ho)
       have HV7 := hid (And.intro (HV6.out.1.trans (ho.below HV6.out.2 HV6.out.1.size)) HV6.out.2)
       rw [show (fun j => strF Y 10 f (0 + j)) = strF Y 10 f from funext fun j => by rw [Nat.zero_add]] at hown
       have HK7 := hid ((HK6.out.later ho).cons (kept_own hown HL6.out.lt (by have := HIN.out; have := HM.out; omega) (fun j hj => xorF_b (HD.out j (by have := HIN.out; omega)) (HG6.out.strb j))))
       clear hown hci ho)
    | (go_at_call 17
       have HP : Calls Try.prog 17 #[.pointer (some ⟨d, 0, none⟩), .slice (some ⟨bb, bo, none⟩) 16 bc, .slice da 0 dc, .int .i64 0] w7 _ := part_any (.slice da 0 dc) d b c cap 10 11 bb bo bc 0 0 Y f (fun j => δ (0 + j)) w7 (by decide) (by decide) (rd_zero _ _ _ _) (fun W _ => rd_zero _ _ _ _) (fun j hj => absurd hj (by omega)) HG7.out
       (with_reducible refine HP.mono ?_); clear HP; rintro e w8 ⟨u8, rfl, hown, hci, ho⟩
       have HL8 := hid (HL7.out.later ho)
       have HG8 := hid (HG7.out.asked hci ho)
       have HV8 := hid (And.intro (HV7.out.1.trans (ho.below HV7.out.2 HV7.out.1.size)) HV7.out.2)
       have HK8 := hid ((HK7.out.later ho).cons (kept_own hown HL7.out.lt (by decide) (fun j hj => absurd hj (by omega))))
       clear hown hci ho))
  refine wp_region_noPanic ?_
  refine wp_region_held_drew (S := fun _ => True) (by kernel_rfl) trivial (fun _ => ?_)
  have ho := (Only.refl b w8).drew
  have HL9 := hid (HL8.out.later ho)
  have HV9 := hid (And.intro (HV8.out.1.trans (ho.below HV8.out.2 HV8.out.1.size)) HV8.out.2)
  have HG9 := hid (HG8.out.asked HG8.out.ci.drew ho)
  have HK9 := hid (HK8.out.later ho)
  clear ho
  generalize w8.drew = w9 at *
  refine wpAnyH_take (i := 0) (v := .int .i64 0) rfl (by kernel_rfl) (by kernel_rfl) (by kernel_rfl) (fun _ _ _ h => h) (.inl ⟨by rfl, fun w hw => by clear hw; go_simp⟩) trivial ?_
  try simp only [Act.put, lay_out]
  refine wpAnyH_take (i := 1) (v := .bool true) rfl (by kernel_rfl) (by kernel_rfl) (by kernel_rfl) (fun _ _ _ h => h) (.inl ⟨by rfl, fun w hw => by clear hw; go_simp⟩) trivial ?_
  try simp only [Act.put, lay_out]
  refine wpAnyH_take (i := 2) (v := .bool true) rfl (by kernel_rfl) (by kernel_rfl) (by kernel_rfl) (fun _ _ _ h => h) (.inl ⟨by rfl, fun w hw => by clear hw; go_simp⟩) trivial ?_
  try simp only [Act.put, lay_out]
  refine wpAnyH_take (i := 3) (v := .int .i64 0) rfl (by kernel_rfl) (by kernel_rfl) (by kernel_rfl) (fun _ _ _ h => h) (.inl ⟨by rfl, fun w hw => by clear hw; go_simp⟩) trivial ?_
  try simp only [Act.put, lay_out]
  refine wpAnyH_take (i := 4) (v := .bool true) rfl (by kernel_rfl) (by kernel_rfl) (by kernel_rfl) (fun _ _ _ h => h) (.inl ⟨by rfl, fun w hw => by clear hw; go_simp⟩) trivial ?_
  try simp only [Act.put, lay_out]
  refine wpAnyH_take (i := 5) (v := .bool true) rfl (by kernel_rfl) (by kernel_rfl) (by kernel_rfl) (fun _ _ _ h => h) (.inl ⟨by rfl, fun w hw => by clear hw; go_simp⟩) trivial ?_
  try simp only [Act.put, lay_out]
  refine wpAnyH_take (i := 6) (v := .bool true) rfl (by kernel_rfl) (by kernel_rfl) (by kernel_rfl) (fun _ _ _ h => h) (.inl ⟨by rfl, fun w hw => by clear hw; go_simp⟩) trivial ?_
  try simp only [Act.put, lay_out]
  refine wpAnyH_take (i := 8) (v := u7) rfl (by kernel_rfl) (by kernel_rfl) (by kernel_rfl) (fun _ _ _ h => h) (.inl ⟨by rfl, fun w hw => by clear hw; go_simp⟩) trivial ?_
  try simp only [Act.put, lay_out]
  refine wpAnyH_take (i := 10) (v := u8) rfl (by kernel_rfl) (by kernel_rfl) (by kernel_rfl) (fun _ _ _ h => h) (.inl ⟨by rfl, fun w hw => by clear hw; go_simp⟩) trivial ?_
  try simp only [Act.put, lay_out]
  refine wpAnyH_take (i := 12) (v := .slice da 0 dc) rfl (by kernel_rfl) (by kernel_rfl) (by kernel_rfl) (fun _ _ _ h => h) (.inl ⟨by rfl, fun w hw => by clear hw; go_simp⟩) trivial ?_
  try simp only [Act.put, lay_out]
  refine wpAnyH_take (i := 13) (v := .slice (some ⟨w.heap.size, 0, none⟩) 16 16) rfl (by kernel_rfl) (by kernel_rfl) (by kernel_rfl) (fun _ _ _ h => h) (.inl ⟨by rfl, fun w hw => by clear hw; go_simp⟩) trivial ?_
  try simp only [Act.put, lay_out]
  refine wpAnyH_take (i := 14) (v := .slice (some ⟨bb, bo, none⟩) 16 bc) rfl (by kernel_rfl) (by kernel_rfl) (by kernel_rfl) (fun _ _ _ h => h) (.inl ⟨by rfl, fun w hw => by clear hw; go_simp⟩) trivial ?_
  try simp only [Act.put, lay_out]
  refine wpAnyH_take (i := 15) (v := .slice da 0 dc) rfl (by kernel_rfl) (by kernel_rfl) (by kernel_rfl) (fun _ _ _ h => h) (.inl ⟨by rfl, fun w hw => by clear hw; go_simp⟩) trivial ?_
  try simp only [Act.put, lay_out]
  refine wpAnyH_take (i := 16) (v := .int .i64 (0 : Int)) rfl (by kernel_rfl) (by kernel_rfl) (by kernel_rfl) (fun _ _ _ h => h) (.inl ⟨by rfl, fun w hw => by clear hw; go_simp⟩) trivial ?_
  try simp only [Act.put, lay_out]
  refine wpAnyH_ready (rs := [7]) (by kernel_rfl) (by simp) (AllReadyH.cons rfl (fun K hK => ?_) AllReadyH.nil)
  rw [if_pos (by rfl)]
  go_simp
  have hlow : Below w9.heap.size w9 (w9.alloc (.cells #[] 5)) := (Below.refl _ _).alloc (Nat.le_refl _) _
  have HE := hid (own_empty (k := .u8) (B := w9.heap.size) (E := 5) w9 (Nat.le_refl _))
  have HLO := hid hlow
  have HKa := hid (HK9.out.self hlow)
  clear hlow
  refine hK.out _ _ trivial (fun _ => ?_)
  clear hK K
  try simp only [Act.put, lay_out]
  refine wpAnyH_ready (rs := [9]) (by kernel_rfl) (by simp) (AllReadyH.cons rfl (fun K hK => ?_) AllReadyH.nil)
  rw [if_pos (by rfl)]
  refine wp_append_rd (.tmp 118) (.tmp 119) 22 rfl .u8 w9.heap.size 5 Try.underlying22 info8 (by decide) (.slice (some ⟨w9.heap.size, 0, none⟩) 0 0) [] rfl HE.out u7 _ rfl (HKa.out.get m1) (by rw [ns_len]; show (0 + _) * 1 ≤ _; have := HIN.out; have := HM.out; omega) (by rw [World.size_alloc]; omega) w9.heap.size w9 HLO.out (Nat.le_refl _) ?_
  intro v9 wb hown hlow _
  have HO9 := hid hown
  have HLb := hid hlow
  have HKb := hid (HK9.out.self hlow)
  clear hown hlow
  refine hK.out _ _ trivial (fun _ => ?_)
  clear hK K
  try simp only [Act.put, lay_out]
  refine wpAnyH_ready (rs := [11]) (by kernel_rfl) (by simp) (AllReadyH.cons rfl (fun K hK => ?_) AllReadyH.nil)
  rw [if_pos (by rfl)]
  refine wp_append_rd (.tmp 120) (.tmp 121) 22 rfl .u8 w9.heap.size 5 Try.underlying22 info8 (by decide) v9 _ rfl HO9.out u8 _ rfl (HKb.out.get m0) (by rw [List.nil_append, ns_len, ns_len]; show (_ + _) * 1 ≤ _; have := HIN.out; have := HM.out; omega) HLb.out.size w9.heap.size w9 HLb.out (Nat.le_refl _) ?_
  intro v10 wc hown hlow _
  rw [List.nil_append, show ns 0 (xorF δ (strF Y 10 f)) ++ ns 0 (xorF (fun j => δ (0 + j)) (fun j => strF Y 10 f (0 + j))) = ns 0 (xorF δ (strF Y 10 f)) from List.append_nil _] at hown
  have HLc := hid (HL9.out.self hlow)
  have HVc := hid (And.intro (HV9.out.1.trans (hlow.mono HV9.out.1.size)) HV9.out.2)
  have HKc := hid ((HK9.out.self hlow).cons (kept_own hown HL9.out.lt (by have := HM.out; omega) (fun j hj => xorF_b (HD.out j hj) (HG9.out.strb j))))
  have HRS := hid (refstream_kept b bb bo bc 10 11 0 (.slice (some ⟨w.heap.size, 0, none⟩) 16 16) Y f _ wc (by have := HM.out; omega) HKY.out HVc.out.1 HLc.out.lt HB16.out (HKc.out.get m7))
  have hnothing := trivial
  clear hown hlow
  refine hK.out _ _ trivial (fun _ => ?_)
  clear hK K
  try simp only [Act.put, lay_out]
  refine wpAnyH_ready (rs := [17]) (by kernel_rfl) (by simp) (AllReadyH.cons rfl (fun K hK => ?_) AllReadyH.nil)
  rw [if_pos (by rfl)]
  go_simp
  go_at_call 15
  refine HRS.out.mono ?_
  rintro e wd ⟨gd, cd, rfl, hkd, hlow⟩
  have HLd := hid (HLc.out.self hlow)
  have HKd := hid ((HKc.out.self hlow).cons hkd)
  clear hkd hlow
  refine hK.out _ _ trivial (fun _ => ?_)
  clear hK K
  try simp only [Act.put, lay_out]
  refine wpAnyH_ready (rs := [18]) (by kernel_rfl) (by simp) (AllReadyH.cons rfl (fun K hK => ?_) AllReadyH.nil)
  rw [if_pos (by rfl)]
  go_simp
  go_at_call 14
  refine (refxor_kept b 0 _ _ δ (strF Y 10 f) wd (by have := HM.out; omega) HLd.out.lt (HKd.out.get m7) (HKd.out.get m0) HD.out (fun j _ => HG9.out.strb j)).mono ?_
  rintro e we ⟨ue, rfl, hke, hlow⟩
  have HLe := hid (HLd.out.self hlow)
  have HKe := hid ((HKd.out.self hlow).cons hke)
  clear hke hlow
  refine hK.out _ _ trivial (fun _ => ?_)
  clear hK K
  try simp only [Act.put, lay_out]
  refine wpAnyH_ready (rs := [19]) (by kernel_rfl) (by simp) (AllReadyH.cons rfl (fun K hK => ?_) AllReadyH.nil)
  rw [if_pos (by rfl)]
  go_simp
  go_at_call 13
  refine (same_ns v10 ue _ _ we (HKe.out.get m2) (HKe.out.get m0) rfl).mono ?_
  rintro e we ⟨rfl, rfl⟩
  refine hK.out _ _ trivial (fun _ => ?_)
  clear hK K
  try simp only [Act.put, lay_out]
  refine wpAnyH_take (i := 20) (v := .bool true) rfl (by kernel_rfl) (by kernel_rfl) (by kernel_rfl) (fun _ _ _ h => h) (.inl ⟨by rfl, fun w hw => by clear hw; go_simp⟩) trivial ?_
  try simp only [Act.put, lay_out]
  refine wpAnyH_take (i := 21) (v := .bool true) rfl (by kernel_rfl) (by kernel_rfl) (by kernel_rfl) (fun _ _ _ h => h) (.inl ⟨by rfl, fun w hw => by clear hw; go_simp⟩) trivial ?_
  try simp only [Act.put, lay_out]
  refine wpAnyH_ready (rs := [22]) (by kernel_rfl) (by simp) (AllReadyH.cons rfl (fun K hK => ?_) AllReadyH.nil)
  rw [if_pos (by rfl)]
  go_simp
  go_at_call 7
  refine (ctrAwake_any we).mono ?_
  rintro e wf ⟨rfl, hlow⟩
  have HLf := hid (HLe.out.self hlow)
  clear hlow
  refine hK.out _ _ trivial (fun _ => ?_)
  clear hK K
  try simp only [Act.put, lay_out]
  refine wpAnyH_take (i := 23) (v := .bool true) rfl (by kernel_rfl) (by kernel_rfl) (by kernel_rfl) (fun _ _ _ h => h) (.inl ⟨by rfl, fun w hw => by clear hw; go_simp⟩) trivial ?_
  try simp only [Act.put, lay_out]
  refine wpAnyH_take (i := 24) (v := .bool true) rfl (by kernel_rfl) (by kernel_rfl) (by kernel_rfl) (fun _ _ _ h => h) (.inl ⟨by rfl, fun w hw => by clear hw; go_simp⟩) trivial ?_
  try simp only [Act.put, lay_out]
  refine wpAnyH_done (by kernel_rfl) ?_ _
  refine NoPanic.normal ?_
  try simp only [Act.put, lay_out]
  go_wp2
  go_ret
  exact ⟨rfl, HLf.out.low⟩
end Go.Proofs.Ytiejaedljebbfaa
