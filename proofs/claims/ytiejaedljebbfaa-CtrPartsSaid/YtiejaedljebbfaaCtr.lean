import Derived.Test.YtiejaedljebbfaaProg
import Derived.Test.YtiejaedljebbfaaCtq
/- CtrParts: a begin and a cut that may be. -/
namespace Go.Proofs.Ytiejaedljebbfaa
open Go.RowKit
set_option maxRecDepth 100000

theorem refstream_part (b g off c R R1 q M n : Nat) (kv : Value) (Y : Nat → Nat → Nat) (f F : Nat → Nat) (wk w : World) (hn : n = q + M) (hq : q < 16) (hM : M ≤ 300) (hk : Ky wk kv R R1 Y) (hb : Below wk.heap.size wk w) (hlt : b < w.heap.size) (hf : B16 f) (hv : Rd .u8 w (.slice (some ⟨g, off, none⟩) 16 c) (ns 16 f)) (hF : ∀ j, strF Y R f (q + j) = F j) :
    Calls Try.prog 15 #[kv, .slice (some ⟨g, off, none⟩) 16 c, .int .i64 n] w fun e w' => ∃ g' c', e = .returned (.slice (some ⟨g', 0, none⟩) (q + M) c') ∧ q + M ≤ c' ∧ (∀ cc, Kept b w' (.slice (some ⟨g', q, none⟩) M cc) (ns M F)) ∧ Below w.heap.size w w' := by
  subst hn
  refine (refstream_any kv _ R R1 (q + M) Y f w hk.num.1 hk.num.2.1 hk.num.2.2 (by omega) hf hk.yb hv (fun w' h => hk.exp w' (hb.trans (h.mono hb.size)))).mono ?_
  rintro e w' ⟨g', c', rfl, hg, hc, hw, hl⟩
  refine ⟨g', c', rfl, hc, fun cc => ?_, hl⟩
  have := part_kept (b := b) (c := cc) (a := q) (m := M) hw (by omega) (by omega) (Nat.le_refl _)
  rw [Nat.zero_add] at this
  rwa [show ns M F = ns M (fun j => strF Y R f (q + j)) from ns_ext fun j _ => (hF j).symm]

set_option maxHeartbeats 12800000 in
theorem parts_out (κ f δ : Nat → Nat) (bb bo bc dc k p q M : Nat) (da : Option Addr) (w : World) (hκ : ∀ i, i < 16 → κ i < 256) (hB : Wd w 16 bb bo f) (hD : Rd .u8 w (.slice da M dc) (ns M δ)) (hδ : ∀ j, j < M → δ j < 256)
    (hM : M ≤ 300 ∧ M ≤ dc) (hk : k < 9223372036854775808) (hp : k / 16 = p) (hq : k % 16 = q) (hin : k > M) :
    Calls Try.prog 5 #[.agg (ba 16 κ), .slice (some ⟨bb, bo, none⟩) 16 bc, .slice da M dc, .int .i64 k] w fun e w' => e = .returned (.bool true) ∧ Below w.heap.size w w' := by
  have HX := hid (Bx1.start w κ)
  obtain ⟨Y, hky⟩ := ky_box HX.out.key hκ
  have HN := hid (hky.new _ (Below.refl _ _))
  unfold NewD at HN
  have HKY := hid hky
  have HB := hid hB
  have HB16 : Hid (B16 f) := hid hB.byte
  have HDR := hid hD
  have HD := hid hδ
  have HK := hid (And.intro hk (And.intro hp hq))
  have e1 : (k : Int) / 16 = p := by omega
  have e2 : (k : Int) % 16 = q := by omega
  have hq0 : (q : Int) < 16 := by omega
  have hq1 : (0 : Int) ≤ q := by omega
  have hwp : wrap64 (p : Int) = p := w64 (by omega) (by omega)
  have hwq : wrap64 (q : Int) = q := w64 (by omega) (by omega)
  have hw : wrap64 ((q : Int) + (M : Int)) = (q : Int) + (M : Int) := w64 (by omega) (by omega)
  have hwp' : IntKind.i64.wrap (p : Int) = p := by rw [IntKind.wrap_i64]; omega
  have hwq' : IntKind.i64.wrap (q : Int) = q := by rw [IntKind.wrap_i64]; omega
  have hw' : IntKind.i64.wrap ((q : Int) + (M : Int)) = (q : Int) + (M : Int) := by rw [IntKind.wrap_i64]; omega
  have ht : Int.tmod (k : Int) 16 = q := by rw [Int.tmod_eq_emod_of_nonneg (by omega)]; exact e2
  have hdv : Int.tdiv (k : Int) 16 = p := by rw [Int.tdiv_eq_ediv_of_nonneg (by omega)]; exact e1
  have hk0 : ¬ (k : Int) < 0 := by omega
  have hks : (k : Int) > (M : Int) := by omega
  have HPQ : Hid (q < 16 ∧ p < 9223372036854775808) := hid (by omega)
  have HFF : Hid (∀ j, strF Y 10 (lat f p) (q + j) = strF Y 10 f (k + j)) := hid (fun j => by rw [strF_later]; congr 1; omega)
  have HM := hid hM.1
  have hM1 : ¬ (M : Int) > 300 := by omega
  have hM2 : (M : Int) ≤ dc := by omega
  have HIN := hid hin
  clear hB hD hδ hM hκ hky hk hp hq hin
  go_enter Try.func5, Try.ntmps5
  go_wp2_with (first
    | (go_at_call 8; (with_reducible refine HN.out.mono ?_); rintro e w1 ⟨d, b, c, cap, rfl, hci, hb, hlow⟩
       have HL1 : Hid (Lw b w w1) := hid ⟨HX.out.low.trans (hlow.mono HX.out.low.size), Nat.le_trans HX.out.low.size hb, hci.box.lt⟩
       have HV1 : Hid (Below (w.alloc (.cells (ba 16 κ) 39)).heap.size (w.alloc (.cells (ba 16 κ) 39)) w1 ∧ (w.alloc (.cells (ba 16 κ) 39)).heap.size ≤ b) := hid ⟨hlow, hb⟩
       have HG1 : Hid (Gv w1 d b c cap 10 11 bb bo bc Y f) := hid ⟨HKY.out.num, hci, (HB.out.self HX.out.low).self hlow, by have := HB.out.lt; have := HX.out.low.size; omega⟩
       have HK1 : Hid (KL b w1 [(.slice da M dc, ns M δ), (.slice (some ⟨bb, bo, none⟩) 16 bc, ns 16 f)]) := hid (((KL.nil.cons (kept_rd ((HB.out.self HX.out.low).rd bc (by decide)) hb)).cons (kept_rd (HDR.out.self HX.out.low) hb)).later (Only.of_below hlow))
       clear hci hb hlow)
    | (go_at_call 17; (with_reducible refine (part_any (.slice da M dc) d b c cap 10 11 bb bo bc M k Y f δ w1 (by have := HM.out; omega) HK.out.1 (HK1.out.get m0) (HK1.out.all m0) HD.out HG1.out).mono ?_); rintro e w2 ⟨u2, rfl, hown, hci, ho⟩
       have HL2 := hid (HL1.out.later ho)
       have HG2 := hid (HG1.out.asked hci ho)
       have HV2 := hid (And.intro (HV1.out.1.trans (ho.below HV1.out.2 HV1.out.1.size)) HV1.out.2)
       have HK2 := hid ((HK1.out.later ho).cons (kept_own hown HL1.out.lt (by have := HM.out; omega) (fun j hj => xorF_b (HD.out j hj) (HG1.out.strb _))))
       clear hown hci ho))
  refine wp_region_noPanic ?_
  refine wp_region_held_drew (S := fun _ => True) (by kernel_rfl) trivial (fun _ => ?_)
  have ho := (Only.refl b w2).drew
  have HL3 := hid (HL2.out.later ho)
  have HG3 := hid (HG2.out.asked HG2.out.ci.drew ho)
  have HV3 := hid (And.intro (HV2.out.1.trans (ho.below HV2.out.2 HV2.out.1.size)) HV2.out.2)
  have HK3 := hid (HK2.out.later ho)
  clear ho
  generalize w2.drew = w3 at *
  refine wpAnyH_take (i := 0) (v := .slice (some ⟨w.heap.size, 0, none⟩) 16 16) rfl (by kernel_rfl) (by kernel_rfl) (by kernel_rfl) (fun _ _ _ h => h) (.inl ⟨by rfl, fun w hw => by clear hw; go_simp⟩) trivial ?_
  try simp only [Act.put, lay_out]
  refine wpAnyH_take (i := 1) (v := .slice (some ⟨bb, bo, none⟩) 16 bc) rfl (by kernel_rfl) (by kernel_rfl) (by kernel_rfl) (fun _ _ _ h => h) (.inl ⟨by rfl, fun w hw => by clear hw; go_simp⟩) trivial ?_
  try simp only [Act.put, lay_out]
  refine wpAnyH_take (i := 2) (v := .int .i64 (k : Int)) rfl (by kernel_rfl) (by kernel_rfl) (by kernel_rfl) (fun _ _ _ h => h) (.inl ⟨by rfl, fun w hw => by clear hw; go_simp⟩) trivial ?_
  try simp only [Act.put, lay_out]
  refine wpAnyH_take (i := 3) (v := .int .i64 (p : Int)) rfl (by kernel_rfl) (by kernel_rfl) (by kernel_rfl) (fun _ _ _ h => h) (.inl ⟨by rfl, fun w hw => by clear hw; go_simp⟩) trivial ?_
  try simp only [Act.put, lay_out]
  refine wpAnyH_take (i := 5) (v := .int .i64 (k : Int)) rfl (by kernel_rfl) (by kernel_rfl) (by kernel_rfl) (fun _ _ _ h => h) (.inl ⟨by rfl, fun w hw => by clear hw; go_simp⟩) trivial ?_
  try simp only [Act.put, lay_out]
  refine wpAnyH_take (i := 6) (v := .int .i64 (q : Int)) rfl (by kernel_rfl) (by kernel_rfl) (by kernel_rfl) (fun _ _ _ h => h) (.inl ⟨by rfl, fun w hw => by clear hw; go_simp⟩) trivial ?_
  try simp only [Act.put, lay_out]
  refine wpAnyH_take (i := 7) (v := .slice da M dc) rfl (by kernel_rfl) (by kernel_rfl) (by kernel_rfl) (fun _ _ _ h => h) (.inl ⟨by rfl, fun w hw => by clear hw; go_simp⟩) trivial ?_
  try simp only [Act.put, lay_out]
  refine wpAnyH_take (i := 8) (v := .int .i64 (M : Int)) rfl (by kernel_rfl) (by kernel_rfl) (by kernel_rfl) (fun _ _ _ h => h) (.inl ⟨by rfl, fun w hw => by clear hw; go_simp⟩) trivial ?_
  try simp only [Act.put, lay_out]
  refine wpAnyH_take (i := 9) (v := .int .i64 ((q : Int) + (M : Int))) rfl (by kernel_rfl) (by kernel_rfl) (by kernel_rfl) (fun _ _ _ h => h) (.inl ⟨by rfl, fun w hw => by clear hw; go_simp⟩) trivial ?_
  try simp only [Act.put, lay_out]
  refine wpAnyH_ready (rs := [4]) (by kernel_rfl) (by simp) (AllReadyH.cons rfl (fun K hK => ?_) AllReadyH.nil)
  rw [if_pos (by rfl)]
  go_simp
  go_at_call 16
  refine (reflater_kept b p (.slice (some ⟨bb, bo, none⟩) 16 bc) f w3 HPQ.out.2 HL3.out.lt (HK3.out.get m2) HB16.out).mono ?_
  rintro e w4 ⟨g4, c4, rfl, hk4, hlow⟩
  have HL4 := hid (HL3.out.self hlow)
  have HG4 := hid (HG3.out.self hlow)
  have HV4 := hid (And.intro (HV3.out.1.trans (hlow.mono HV3.out.1.size)) HV3.out.2)
  have HK4 := hid ((HK3.out.self hlow).cons hk4)
  have HS4 := hid (refstream_part b g4 0 c4 10 11 q M (q + M) (.slice (some ⟨w.heap.size, 0, none⟩) 16 16) Y (lat f p) (fun j => strF Y 10 f (k + j)) _ w4 rfl HPQ.out.1 (by have := HM.out; omega) HKY.out HV4.out.1 HL4.out.lt (lat_b f p) (HK4.out.get m0) HFF.out)
  rw [show ((q + M : Nat) : Int) = (q : Int) + (M : Int) from by omega] at HS4
  clear hk4 hlow
  refine hK.out _ _ trivial (fun _ => ?_)
  clear hK K
  try simp only [Act.put, lay_out]
  refine wpAnyH_ready (rs := [10]) (by kernel_rfl) (by simp) (AllReadyH.cons rfl (fun K hK => ?_) AllReadyH.nil)
  rw [if_pos (by rfl)]
  go_simp
  go_at_call 15
  refine HS4.out.mono ?_
  rintro e w5 ⟨g5, c5, rfl, hc5, hk5, hlow⟩
  have HL5 := hid (HL4.out.self hlow)
  have HG5 := hid (HG4.out.self hlow)
  have HV5 := hid (And.intro (HV4.out.1.trans (hlow.mono HV4.out.1.size)) HV4.out.2)
  have HK5 := hid (HK4.out.self hlow)
  have HP5 := hid hk5
  have HP5z : Hid (c5 ≤ q → Kept b w5 (.slice (some ⟨g5, 0, none⟩) M 0) (ns M (fun j => strF Y 10 f (k + j)))) := hid (fun h => by
    obtain rfl : M = 0 := by omega
    exact kept_zero _ _ _)
  have hc5a : (q : Int) + (M : Int) ≤ c5 := by omega
  clear hk5 hlow hc5
  refine hK.out _ _ trivial (fun _ => ?_)
  clear hK K
  try simp only [Act.put, lay_out]
  refine wpAnyH_take (i := 11) (v := .slice (some ⟨g5, 0, none⟩) (q + M) c5) rfl (by kernel_rfl) (by kernel_rfl) (by kernel_rfl) (fun _ _ _ h => h) (.inl ⟨by rfl, fun w hw => by clear hw; go_simp⟩) trivial ?_
  try simp only [Act.put, lay_out]
  refine wpAnyH_done (by kernel_rfl) ?_ _
  refine NoPanic.normal ?_
  try simp only [Act.put, lay_out]
  go_wp2_with (first
    | (go_at_call 14; (with_reducible refine (refxor_kept b M (.slice da M dc) (.slice (some ⟨g5, q, none⟩) M (c5 - q)) δ (fun j => strF Y 10 f (k + j)) w5 (by have := HM.out; omega) HL5.out.lt (HK5.out.get m2) (HP5.out _).rd HD.out (fun j _ => HG5.out.strb _)).mono ?_); rintro e w6 ⟨u6, rfl, hk6, hlow⟩
       have HL6 := hid (HL5.out.self hlow)
       have HG6 := hid (HG5.out.self hlow)
       have HV6 := hid (And.intro (HV5.out.1.trans (hlow.mono HV5.out.1.size)) HV5.out.2)
       have HK6 := hid ((HK5.out.self hlow).cons hk6)
       clear hk6 hlow)
    | (go_at_call 14; (with_reducible refine (refxor_kept b M (.slice da M dc) (.slice (some ⟨g5, 0, none⟩) M 0) δ (fun j => strF Y 10 f (k + j)) w5 (by have := HM.out; omega) HL5.out.lt (HK5.out.get m2) (HP5z.out (by omega)).rd HD.out (fun j _ => HG5.out.strb _)).mono ?_); rintro e w6 ⟨u6, rfl, hk6, hlow⟩
       have HL6 := hid (HL5.out.self hlow)
       have HG6 := hid (HG5.out.self hlow)
       have HV6 := hid (And.intro (HV5.out.1.trans (hlow.mono HV5.out.1.size)) HV5.out.2)
       have HK6 := hid ((HK5.out.self hlow).cons hk6)
       clear hk6 hlow)
    | (go_at_call 13; (with_reducible refine (same_ns u2 u6 _ _ w6 (HK6.out.get m2) (HK6.out.get m0) rfl).mono ?_); rintro e w6 ⟨rfl, rfl⟩)
    | (go_at_call 7; (with_reducible refine (ctrAwake_any w6).mono ?_); rintro e w9 ⟨rfl, hlow⟩
       have HL9 := hid (HL6.out.self hlow)
       clear hlow))
  all_goals go_ret
  all_goals exact ⟨rfl, HL9.out.low⟩

set_option maxHeartbeats 12800000 in
theorem parts_out3 (κ f δ : Nat → Nat) (bb bo bc dc k p q N : Nat) (da : Option Addr) (w : World) (hκ : ∀ i, i < 16 → κ i < 256) (hB : Wd w 16 bb bo f) (hD : Rd .u8 w (.slice da 300 dc) (ns 300 δ)) (hδ : ∀ j, j < 300 → δ j < 256)
    (hM : 300 < N ∧ N ≤ dc) (hk : k < 9223372036854775808) (hp : k / 16 = p) (hq : k % 16 = q) (hin : k > 300) :
    Calls Try.prog 5 #[.agg (ba 16 κ), .slice (some ⟨bb, bo, none⟩) 16 bc, .slice da N dc, .int .i64 k] w fun e w' => e = .returned (.bool true) ∧ Below w.heap.size w w' := by
  have HX := hid (Bx1.start w κ)
  obtain ⟨Y, hky⟩ := ky_box HX.out.key hκ
  have HN := hid (hky.new _ (Below.refl _ _))
  unfold NewD at HN
  have HKY := hid hky
  have HB := hid hB
  have HB16 : Hid (B16 f) := hid hB.byte
  have HDR := hid hD
  have HD := hid hδ
  have HK := hid (And.intro hk (And.intro hp hq))
  have e1 : (k : Int) / 16 = p := by omega
  have e2 : (k : Int) % 16 = q := by omega
  have hq0 : (q : Int) < 16 := by omega
  have hq1 : (0 : Int) ≤ q := by omega
  have hwp : wrap64 (p : Int) = p := w64 (by omega) (by omega)
  have hwq : wrap64 (q : Int) = q := w64 (by omega) (by omega)
  have hw : wrap64 ((q : Int) + (300 : Int)) = (q : Int) + (300 : Int) := w64 (by omega) (by omega)
  have hwp' : IntKind.i64.wrap (p : Int) = p := by rw [IntKind.wrap_i64]; omega
  have hwq' : IntKind.i64.wrap (q : Int) = q := by rw [IntKind.wrap_i64]; omega
  have hw' : IntKind.i64.wrap ((q : Int) + (300 : Int)) = (q : Int) + (300 : Int) := by rw [IntKind.wrap_i64]; omega
  have ht : Int.tmod (k : Int) 16 = q := by rw [Int.tmod_eq_emod_of_nonneg (by omega)]; exact e2
  have hdv : Int.tdiv (k : Int) 16 = p := by rw [Int.tdiv_eq_ediv_of_nonneg (by omega)]; exact e1
  have hk0 : ¬ (k : Int) < 0 := by omega
  have hks : (k : Int) > (300 : Int) := by omega
  have HPQ : Hid (q < 16 ∧ p < 9223372036854775808) := hid (by omega)
  have HFF : Hid (∀ j, strF Y 10 (lat f p) (q + j) = strF Y 10 f (k + j)) := hid (fun j => by rw [strF_later]; congr 1; omega)
  have hN1 : (N : Int) > 300 := by omega
  have hN2 : (300 : Int) ≤ dc := by omega
  have HIN := hid hin
  clear hB hD hδ hM hκ hky hk hp hq hin
  go_enter Try.func5, Try.ntmps5
  go_wp2_with (first
    | (go_at_call 8; (with_reducible refine HN.out.mono ?_); rintro e w1 ⟨d, b, c, cap, rfl, hci, hb, hlow⟩
       have HL1 : Hid (Lw b w w1) := hid ⟨HX.out.low.trans (hlow.mono HX.out.low.size), Nat.le_trans HX.out.low.size hb, hci.box.lt⟩
       have HV1 : Hid (Below (w.alloc (.cells (ba 16 κ) 39)).heap.size (w.alloc (.cells (ba 16 κ) 39)) w1 ∧ (w.alloc (.cells (ba 16 κ) 39)).heap.size ≤ b) := hid ⟨hlow, hb⟩
       have HG1 : Hid (Gv w1 d b c cap 10 11 bb bo bc Y f) := hid ⟨HKY.out.num, hci, (HB.out.self HX.out.low).self hlow, by have := HB.out.lt; have := HX.out.low.size; omega⟩
       have HK1 : Hid (KL b w1 [(.slice da 300 dc, ns 300 δ), (.slice (some ⟨bb, bo, none⟩) 16 bc, ns 16 f)]) := hid (((KL.nil.cons (kept_rd ((HB.out.self HX.out.low).rd bc (by decide)) hb)).cons (kept_rd (HDR.out.self HX.out.low) hb)).later (Only.of_below hlow))
       clear hci hb hlow)
    | (go_at_call 17; (with_reducible refine (part_any (.slice da 300 dc) d b c cap 10 11 bb bo bc 300 k Y f δ w1 (by decide) HK.out.1 (HK1.out.get m0) (HK1.out.all m0) HD.out HG1.out).mono ?_); rintro e w2 ⟨u2, rfl, hown, hci, ho⟩
       have HL2 := hid (HL1.out.later ho)
       have HG2 := hid (HG1.out.asked hci ho)
       have HV2 := hid (And.intro (HV1.out.1.trans (ho.below HV1.out.2 HV1.out.1.size)) HV1.out.2)
       have HK2 := hid ((HK1.out.later ho).cons (kept_own hown HL1.out.lt (by decide) (fun j hj => xorF_b (HD.out j hj) (HG1.out.strb _))))
       clear hown hci ho))
  refine wp_region_noPanic ?_
  refine wp_region_held_drew (S := fun _ => True) (by kernel_rfl) trivial (fun _ => ?_)
  have ho := (Only.refl b w2).drew
  have HL3 := hid (HL2.out.later ho)
  have HG3 := hid (HG2.out.asked HG2.out.ci.drew ho)
  have HV3 := hid (And.intro (HV2.out.1.trans (ho.below HV2.out.2 HV2.out.1.size)) HV2.out.2)
  have HK3 := hid (HK2.out.later ho)
  clear ho
  generalize w2.drew = w3 at *
  refine wpAnyH_take (i := 0) (v := .slice (some ⟨w.heap.size, 0, none⟩) 16 16) rfl (by kernel_rfl) (by kernel_rfl) (by kernel_rfl) (fun _ _ _ h => h) (.inl ⟨by rfl, fun w hw => by clear hw; go_simp⟩) trivial ?_
  try simp only [Act.put, lay_out]
  refine wpAnyH_take (i := 1) (v := .slice (some ⟨bb, bo, none⟩) 16 bc) rfl (by kernel_rfl) (by kernel_rfl) (by kernel_rfl) (fun _ _ _ h => h) (.inl ⟨by rfl, fun w hw => by clear hw; go_simp⟩) trivial ?_
  try simp only [Act.put, lay_out]
  refine wpAnyH_take (i := 2) (v := .int .i64 (k : Int)) rfl (by kernel_rfl) (by kernel_rfl) (by kernel_rfl) (fun _ _ _ h => h) (.inl ⟨by rfl, fun w hw => by clear hw; go_simp⟩) trivial ?_
  try simp only [Act.put, lay_out]
  refine wpAnyH_take (i := 3) (v := .int .i64 (p : Int)) rfl (by kernel_rfl) (by kernel_rfl) (by kernel_rfl) (fun _ _ _ h => h) (.inl ⟨by rfl, fun w hw => by clear hw; go_simp⟩) trivial ?_
  try simp only [Act.put, lay_out]
  refine wpAnyH_take (i := 5) (v := .int .i64 (k : Int)) rfl (by kernel_rfl) (by kernel_rfl) (by kernel_rfl) (fun _ _ _ h => h) (.inl ⟨by rfl, fun w hw => by clear hw; go_simp⟩) trivial ?_
  try simp only [Act.put, lay_out]
  refine wpAnyH_take (i := 6) (v := .int .i64 (q : Int)) rfl (by kernel_rfl) (by kernel_rfl) (by kernel_rfl) (fun _ _ _ h => h) (.inl ⟨by rfl, fun w hw => by clear hw; go_simp⟩) trivial ?_
  try simp only [Act.put, lay_out]
  refine wpAnyH_take (i := 7) (v := .slice da 300 dc) rfl (by kernel_rfl) (by kernel_rfl) (by kernel_rfl) (fun _ _ _ h => h) (.inl ⟨by rfl, fun w hw => by clear hw; go_simp⟩) trivial ?_
  try simp only [Act.put, lay_out]
  refine wpAnyH_take (i := 8) (v := .int .i64 (300 : Int)) rfl (by kernel_rfl) (by kernel_rfl) (by kernel_rfl) (fun _ _ _ h => h) (.inl ⟨by rfl, fun w hw => by clear hw; go_simp⟩) trivial ?_
  try simp only [Act.put, lay_out]
  refine wpAnyH_take (i := 9) (v := .int .i64 ((q : Int) + (300 : Int))) rfl (by kernel_rfl) (by kernel_rfl) (by kernel_rfl) (fun _ _ _ h => h) (.inl ⟨by rfl, fun w hw => by clear hw; go_simp⟩) trivial ?_
  try simp only [Act.put, lay_out]
  refine wpAnyH_ready (rs := [4]) (by kernel_rfl) (by simp) (AllReadyH.cons rfl (fun K hK => ?_) AllReadyH.nil)
  rw [if_pos (by rfl)]
  go_simp
  go_at_call 16
  refine (reflater_kept b p (.slice (some ⟨bb, bo, none⟩) 16 bc) f w3 HPQ.out.2 HL3.out.lt (HK3.out.get m2) HB16.out).mono ?_
  rintro e w4 ⟨g4, c4, rfl, hk4, hlow⟩
  have HL4 := hid (HL3.out.self hlow)
  have HG4 := hid (HG3.out.self hlow)
  have HV4 := hid (And.intro (HV3.out.1.trans (hlow.mono HV3.out.1.size)) HV3.out.2)
  have HK4 := hid ((HK3.out.self hlow).cons hk4)
  have HS4 := hid (refstream_part b g4 0 c4 10 11 q 300 (q + 300) (.slice (some ⟨w.heap.size, 0, none⟩) 16 16) Y (lat f p) (fun j => strF Y 10 f (k + j)) _ w4 rfl HPQ.out.1 (by decide) HKY.out HV4.out.1 HL4.out.lt (lat_b f p) (HK4.out.get m0) HFF.out)
  rw [show ((q + 300 : Nat) : Int) = (q : Int) + (300 : Int) from rfl] at HS4
  clear hk4 hlow
  refine hK.out _ _ trivial (fun _ => ?_)
  clear hK K
  try simp only [Act.put, lay_out]
  refine wpAnyH_ready (rs := [10]) (by kernel_rfl) (by simp) (AllReadyH.cons rfl (fun K hK => ?_) AllReadyH.nil)
  rw [if_pos (by rfl)]
  go_simp
  go_at_call 15
  refine HS4.out.mono ?_
  rintro e w5 ⟨g5, c5, rfl, hc5, hk5, hlow⟩
  have HL5 := hid (HL4.out.self hlow)
  have HG5 := hid (HG4.out.self hlow)
  have HV5 := hid (And.intro (HV4.out.1.trans (hlow.mono HV4.out.1.size)) HV4.out.2)
  have HK5 := hid (HK4.out.self hlow)
  have HP5 := hid hk5
  have HP5z : Hid (c5 ≤ q → Kept b w5 (.slice (some ⟨g5, 0, none⟩) 300 0) (ns 300 (fun j => strF Y 10 f (k + j)))) := hid (fun h => by
    omega
)
  have hc5a : (q : Int) + (300 : Int) ≤ c5 := by omega
  clear hk5 hlow hc5
  refine hK.out _ _ trivial (fun _ => ?_)
  clear hK K
  try simp only [Act.put, lay_out]
  refine wpAnyH_take (i := 11) (v := .slice (some ⟨g5, 0, none⟩) (q + 300) c5) rfl (by kernel_rfl) (by kernel_rfl) (by kernel_rfl) (fun _ _ _ h => h) (.inl ⟨by rfl, fun w hw => by clear hw; go_simp⟩) trivial ?_
  try simp only [Act.put, lay_out]
  refine wpAnyH_done (by kernel_rfl) ?_ _
  refine NoPanic.normal ?_
  try simp only [Act.put, lay_out]
  go_wp2_with (first
    | (go_at_call 14; (with_reducible refine (refxor_kept b 300 (.slice da 300 dc) (.slice (some ⟨g5, q, none⟩) 300 (c5 - q)) δ (fun j => strF Y 10 f (k + j)) w5 (by decide) HL5.out.lt (HK5.out.get m2) (HP5.out _).rd HD.out (fun j _ => HG5.out.strb _)).mono ?_); rintro e w6 ⟨u6, rfl, hk6, hlow⟩
       have HL6 := hid (HL5.out.self hlow)
       have HG6 := hid (HG5.out.self hlow)
       have HV6 := hid (And.intro (HV5.out.1.trans (hlow.mono HV5.out.1.size)) HV5.out.2)
       have HK6 := hid ((HK5.out.self hlow).cons hk6)
       clear hk6 hlow)
    | (go_at_call 14; (with_reducible refine (refxor_kept b 300 (.slice da 300 dc) (.slice (some ⟨g5, 0, none⟩) 300 0) δ (fun j => strF Y 10 f (k + j)) w5 (by decide) HL5.out.lt (HK5.out.get m2) (HP5z.out (by omega)).rd HD.out (fun j _ => HG5.out.strb _)).mono ?_); rintro e w6 ⟨u6, rfl, hk6, hlow⟩
       have HL6 := hid (HL5.out.self hlow)
       have HG6 := hid (HG5.out.self hlow)
       have HV6 := hid (And.intro (HV5.out.1.trans (hlow.mono HV5.out.1.size)) HV5.out.2)
       have HK6 := hid ((HK5.out.self hlow).cons hk6)
       clear hk6 hlow)
    | (go_at_call 13; (with_reducible refine (same_ns u2 u6 _ _ w6 (HK6.out.get m2) (HK6.out.get m0) rfl).mono ?_); rintro e w6 ⟨rfl, rfl⟩)
    | (go_at_call 7; (with_reducible refine (ctrAwake_any w6).mono ?_); rintro e w9 ⟨rfl, hlow⟩
       have HL9 := hid (HL6.out.self hlow)
       clear hlow))
  all_goals go_ret
  all_goals exact ⟨rfl, HL9.out.low⟩
end Go.Proofs.Ytiejaedljebbfaa
