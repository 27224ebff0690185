import Derived.Test.YthhkhcacljgelaaGreatProg
import Derived.Test.YthhkhcacljgelaaGreatEbb
/- EaxTells, where data is not sealed. -/
namespace Go.Proofs.YthhkhcacljgelaaGreat
open Go.RowKit
set_option maxRecDepth 100000

set_option maxHeartbeats 25600000 in
theorem tells_by (kb ko kc Lk R R1 N ne H he M e L tc : Nat) (n : Int) (na ha a ta : Option Addr) (Y : Nat → Nat → Nat) (ν η δ τ : Nat → Nat) (w : World) (hr : rnd (Lk : Int) = R) (hk : Ky w (.slice (some ⟨kb, ko, none⟩) Lk kc) R R1 Y)
    (hN : Rd .u8 w (.slice na N ne) (ns N ν)) (hν : ∀ j, j < N → ν j < 256) (hN2 : N ≤ 500 ∧ N ≤ ne)
    (hH : Rd .u8 w (.slice ha H he) (ns H η)) (hη : ∀ j, j < H → η j < 256) (hH2 : H ≤ 500 ∧ H ≤ he)
    (hM : Rd .u8 w (.slice a M e) (ns M δ)) (hδ : ∀ j, j < M → δ j < 256) (hM2 : M ≤ 500 ∧ M ≤ e)
    (hT : Rd .u8 w (.slice ta L tc) (ns L τ)) (hτ : ∀ j, j < L → τ j < 256) (hT2 : L ≤ tc) (hn : n < 1 ∨ n > 16) (hL : 1 ≤ L ∧ L ≤ 16) (hz : ns L (eaxF Y R N ν H η M δ) = ns L τ) :
    Calls Tryz.prog 3 #[.slice (some ⟨kb, ko, none⟩) Lk kc, .agg #[.slice na N ne, .slice ha H he, .slice a M e], .int .i64 n, .slice ta L tc] w fun e w' => e = .returned (.bool true) ∧ Below w.heap.size w w' := by
  have HX := hid (Bx4.start w (.slice na N ne) (.slice ha H he) (.slice a M e))
  have HRD := hid (fun w => by have := refrounds_any (Lk : Int) w; rw [hr] at this; exact this)
  have r0 : ((R : Int) == 0) = false := by have := hk.num.2.1; rw [beq_eq_false_iff_ne]; omega
  have HN := hid (hk.new _ HX.out.low)
  unfold NewD at HN
  have HKY := hid hk
  have HMG := hid (fun (b : Nat) (w1 : World) (hb : w.heap.size ≤ b) (hl : Below w.heap.size w w1) => And.intro (mg_open hN hν hN2 hb hl) (And.intro (mg_open hH hη hH2 hb hl) (mg_open hM hδ hM2 hb hl)))
  have HMT := hid (fun (b : Nat) (w1 : World) (hb : w.heap.size ≤ b) (hl : Below w.heap.size w w1) => show Mg b w1 ta L tc τ from ⟨(kept_rd hT hb).later (Only.of_below hl), hτ, hT2, by omega⟩)
  have HLL := hid hL
  have HZ := hid hz
  have HCN : Hid (∀ w, Calls Tryz.prog 9 #[.int .i64 n, .int .i64 M] w fun x w' => x = .returned (.int .i64 5) ∧ w' = w) := hid (fun w => by
    have := rcheck_any n M w
    rwa [rfE_bad hn] at this)
  have HCL : Hid (∀ w, Calls Tryz.prog 9 #[.int .i64 L, .int .i64 M] w fun x w' => x = .returned (.int .i64 0) ∧ w' = w) := hid (fun w => by
    have := rcheck_any (L : Int) M w
    rwa [rfE_ok (by omega) (by omega)] at this)
  have HNN := hid hn
  obtain ⟨c0, c1, c2⟩ := blk3 HX.out.blk
  have h1 : ¬ (N : Int) > 500 := by omega
  have h2 : ¬ (H : Int) > 500 := by omega
  have h3 : ¬ (M : Int) > 500 := by omega
  clear hr hk hN hν hN2 hH hη hH2 hM hδ hM2 hn hL hT hτ hT2 hz
  go_enter Tryz.func3, Tryz.ntmps3
  go_wp2_with (first
    | (go_at_call 4; (with_reducible refine (HRD.out _).mono ?_); rintro e w' ⟨rfl, rfl⟩)
    | (go_at_call 6; (with_reducible refine HN.out.mono ?_); rintro q w1 ⟨d, b, c, cap, rfl, hci, hb, hlow⟩
       have HE1 : Hid (El b w w1 w1 d c cap R R1 Y w.heap.size (.slice na N ne) (.slice ha H he) (.slice a M e) (.slice (some ⟨kb, ko, none⟩) Lk kc)) := hid ⟨⟨⟨HX.out.low.trans (hlow.mono HX.out.low.size), Nat.le_trans HX.out.low.size hb, hci.box.lt⟩, ⟨HKY.out.num, hci⟩, (hlow.block _ (Array.getElem?_eq_some_iff.1 HX.out.blk).1).trans HX.out.blk, by have := (Array.getElem?_eq_some_iff.1 HX.out.blk).1; omega⟩, Only.refl _ _, HKY.out⟩
       have HR1 := hid (HMG.out b w1 HE1.out.eh.lw.le HE1.out.eh.lw.low)
       have HT1 := hid (HMT.out b w1 HE1.out.eh.lw.le HE1.out.eh.lw.low)
       have HS1 := hid (esl_bad (.pointer (some ⟨d, 0, none⟩)) N ne H he M e na ha a n w1 HNN.out)
       obtain ⟨c10, c11, c12⟩ := HE1.out.eh.cell
       clear hci hb hlow)
    | (go_at_call 7; (with_reducible refine HS1.out.mono ?_); rintro q w2 ⟨rfl, rfl⟩
       have HE2 := hid HE1.out
       have HS2 := hid (eun_yes d b c cap R R1 N ne H he M e L tc Y ν η δ τ na ha a ta w2 HE2.out.eh.gc (HR1.out.1.later HE2.out.low) (HR1.out.2.1.later HE2.out.low) (HR1.out.2.2.later HE2.out.low) (HT1.out.later HE2.out.low) HLL.out HZ.out))
    | (go_at_call 8; (with_reducible refine HS2.out.mono ?_); rintro q w3 ⟨ud, uf, rfl, hm, hg, ho⟩
       have HE3 := hid (HE2.out.later hg ho)
       skip
       have HM3 := hid hm
       clear hm hg ho))
  have hdr : Below w3.heap.size w3 w3.drew := (Below.refl _ _).drew
  have HE4 := hid (HE3.out.self hdr)
  have HM4 := hid (HM3.out.self hdr)
  clear hdr HE3 HM3
  refine wp_region_noPanic ?_
  refine wp_region_held_drew (S := fun w' => w'.cell? ⟨w.heap.size, 0, none⟩ = some (.slice na N ne) ∧ w'.cell? ⟨w.heap.size, 1, none⟩ = some (.slice ha H he) ∧ w'.cell? ⟨w.heap.size, 2, none⟩ = some (.slice a M e)) (by kernel_rfl) (HE4.out.eh.cell) (fun h0 => ?_)
  generalize w3.drew = w4 at *
  refine wpAnyH_take (i := 0) (v := .int .i64 5) rfl (by kernel_rfl) (by kernel_rfl) (by kernel_rfl) (fun _ _ _ h => h) (.inl ⟨by rfl, fun w hw => by clear hw; go_simp⟩) h0 ?_
  try simp only [Act.put, lay_out]
  refine wpAnyH_take (i := 1) (v := .int .i64 n) rfl (by kernel_rfl) (by kernel_rfl) (by kernel_rfl) (fun _ _ _ h => h) (.inl ⟨by rfl, fun w hw => by clear hw; go_simp⟩) h0 ?_
  try simp only [Act.put, lay_out]
  refine wpAnyH_take (i := 2) (v := .pointer (some ⟨w.heap.size, 2, none⟩)) rfl (by kernel_rfl) (by kernel_rfl) (by kernel_rfl) (fun _ _ _ h => h) (.inl ⟨by rfl, fun w hw => by clear hw; go_simp⟩) h0 ?_
  try simp only [Act.put, lay_out]
  refine wpAnyH_take (i := 3) (v := .slice a M e) rfl (by kernel_rfl) (by kernel_rfl) (by kernel_rfl) (fun _ _ _ h => h) (.inl ⟨by rfl, fun w hw => by obtain ⟨k0, k1, k2⟩ := hw; go_simp⟩) h0 ?_
  try simp only [Act.put, lay_out]
  refine wpAnyH_take (i := 4) (v := .int .i64 M) rfl (by kernel_rfl) (by kernel_rfl) (by kernel_rfl) (fun _ _ _ h => h) (.inl ⟨by rfl, fun w hw => by clear hw; go_simp⟩) h0 ?_
  try simp only [Act.put, lay_out]
  refine wpAnyH_ready (rs := [5]) (by kernel_rfl) (by simp) (AllReadyH.cons rfl (fun K hK => ?_) AllReadyH.nil)
  rw [if_pos (by rfl)]
  go_simp
  go_at_call 9
  (with_reducible refine (HCN.out _).mono ?_); rintro e w4 ⟨rfl, rfl⟩
  refine hK.out _ _ (HE4.out.eh.cell) (fun h1x => ?_)
  clear hK K
  try simp only [Act.put, lay_out]
  refine wpAnyH_take (i := 6) (v := .bool false) rfl (by kernel_rfl) (by kernel_rfl) (by kernel_rfl) (fun _ _ _ h => h) (.inl ⟨by rfl, fun w hw => by clear hw; go_simp⟩) h1x ?_
  try simp only [Act.put, lay_out]
  refine wpAnyH_take (i := 7) (v := .bool false) rfl (by kernel_rfl) (by kernel_rfl) (by kernel_rfl) (fun _ _ _ h => h) (.inl ⟨by rfl, fun w hw => by clear hw; go_simp⟩) h1x ?_
  try simp only [Act.put, lay_out]
  refine wpAnyH_take (i := 8) (v := .int .i64 0) rfl (by kernel_rfl) (by kernel_rfl) (by kernel_rfl) (fun _ _ _ h => h) (.inl ⟨by rfl, fun w hw => by clear hw; go_simp⟩) h1x ?_
  try simp only [Act.put, lay_out]
  refine wpAnyH_take (i := 9) (v := .slice ta L tc) rfl (by kernel_rfl) (by kernel_rfl) (by kernel_rfl) (fun _ _ _ h => h) (.inl ⟨by rfl, fun w hw => by clear hw; go_simp⟩) h1x ?_
  try simp only [Act.put, lay_out]
  refine wpAnyH_take (i := 10) (v := .int .i64 L) rfl (by kernel_rfl) (by kernel_rfl) (by kernel_rfl) (fun _ _ _ h => h) (.inl ⟨by rfl, fun w hw => by clear hw; go_simp⟩) h1x ?_
  try simp only [Act.put, lay_out]
  refine wpAnyH_take (i := 11) (v := .pointer (some ⟨w.heap.size, 2, none⟩)) rfl (by kernel_rfl) (by kernel_rfl) (by kernel_rfl) (fun _ _ _ h => h) (.inl ⟨by rfl, fun w hw => by clear hw; go_simp⟩) h1x ?_
  try simp only [Act.put, lay_out]
  refine wpAnyH_take (i := 12) (v := .slice a M e) rfl (by kernel_rfl) (by kernel_rfl) (by kernel_rfl) (fun _ _ _ h => h) (.inl ⟨by rfl, fun w hw => by obtain ⟨k0, k1, k2⟩ := hw; go_simp⟩) h1x ?_
  try simp only [Act.put, lay_out]
  refine wpAnyH_take (i := 13) (v := .int .i64 M) rfl (by kernel_rfl) (by kernel_rfl) (by kernel_rfl) (fun _ _ _ h => h) (.inl ⟨by rfl, fun w hw => by clear hw; go_simp⟩) h1x ?_
  try simp only [Act.put, lay_out]
  refine wpAnyH_ready (rs := [14]) (by kernel_rfl) (by simp) (AllReadyH.cons rfl (fun K hK => ?_) AllReadyH.nil)
  rw [if_pos (by rfl)]
  go_simp
  go_at_call 9
  (with_reducible refine (HCL.out _).mono ?_); rintro e w4 ⟨rfl, rfl⟩
  refine hK.out _ _ (HE4.out.eh.cell) (fun h2x => ?_)
  clear hK K
  try simp only [Act.put, lay_out]
  refine wpAnyH_take (i := 15) (v := .bool false) rfl (by kernel_rfl) (by kernel_rfl) (by kernel_rfl) (fun _ _ _ h => h) (.inl ⟨by rfl, fun w hw => by clear hw; go_simp⟩) h2x ?_
  try simp only [Act.put, lay_out]
  refine wpAnyH_take (i := 16) (v := .bool false) rfl (by kernel_rfl) (by kernel_rfl) (by kernel_rfl) (fun _ _ _ h => h) (.inl ⟨by rfl, fun w hw => by clear hw; go_simp⟩) h2x ?_
  try simp only [Act.put, lay_out]
  refine wpAnyH_take (i := 17) (v := .bool false) rfl (by kernel_rfl) (by kernel_rfl) (by kernel_rfl) (fun _ _ _ h => h) (.inl ⟨by rfl, fun w hw => by clear hw; go_simp⟩) h2x ?_
  try simp only [Act.put, lay_out]
  refine wpAnyH_take (i := 18) (v := .pointer (some ⟨d, 0, none⟩)) rfl (by kernel_rfl) (by kernel_rfl) (by kernel_rfl) (fun _ _ _ h => h) (.inl ⟨by rfl, fun w hw => by clear hw; go_simp⟩) h2x ?_
  try simp only [Act.put, lay_out]
  refine wpAnyH_take (i := 19) (v := .pointer (some ⟨w.heap.size, 0, none⟩)) rfl (by kernel_rfl) (by kernel_rfl) (by kernel_rfl) (fun _ _ _ h => h) (.inl ⟨by rfl, fun w hw => by clear hw; go_simp⟩) h2x ?_
  try simp only [Act.put, lay_out]
  refine wpAnyH_take (i := 20) (v := .slice na N ne) rfl (by kernel_rfl) (by kernel_rfl) (by kernel_rfl) (fun _ _ _ h => h) (.inl ⟨by rfl, fun w hw => by obtain ⟨k0, k1, k2⟩ := hw; go_simp⟩) h2x ?_
  try simp only [Act.put, lay_out]
  refine wpAnyH_take (i := 21) (v := .pointer (some ⟨w.heap.size, 1, none⟩)) rfl (by kernel_rfl) (by kernel_rfl) (by kernel_rfl) (fun _ _ _ h => h) (.inl ⟨by rfl, fun w hw => by clear hw; go_simp⟩) h2x ?_
  try simp only [Act.put, lay_out]
  refine wpAnyH_take (i := 22) (v := .slice ha H he) rfl (by kernel_rfl) (by kernel_rfl) (by kernel_rfl) (fun _ _ _ h => h) (.inl ⟨by rfl, fun w hw => by obtain ⟨k0, k1, k2⟩ := hw; go_simp⟩) h2x ?_
  try simp only [Act.put, lay_out]
  refine wpAnyH_take (i := 23) (v := .pointer (some ⟨w.heap.size, 2, none⟩)) rfl (by kernel_rfl) (by kernel_rfl) (by kernel_rfl) (fun _ _ _ h => h) (.inl ⟨by rfl, fun w hw => by clear hw; go_simp⟩) h2x ?_
  try simp only [Act.put, lay_out]
  refine wpAnyH_take (i := 24) (v := .slice a M e) rfl (by kernel_rfl) (by kernel_rfl) (by kernel_rfl) (fun _ _ _ h => h) (.inl ⟨by rfl, fun w hw => by obtain ⟨k0, k1, k2⟩ := hw; go_simp⟩) h2x ?_
  try simp only [Act.put, lay_out]
  refine wpAnyH_take (i := 26) (v := .slice (some ⟨kb, ko, none⟩) Lk kc) rfl (by kernel_rfl) (by kernel_rfl) (by kernel_rfl) (fun _ _ _ h => h) (.inl ⟨by rfl, fun w hw => by clear hw; go_simp⟩) h2x ?_
  try simp only [Act.put, lay_out]
  refine wpAnyH_take (i := 27) (v := .pointer (some ⟨w.heap.size, 0, none⟩)) rfl (by kernel_rfl) (by kernel_rfl) (by kernel_rfl) (fun _ _ _ h => h) (.inl ⟨by rfl, fun w hw => by clear hw; go_simp⟩) h2x ?_
  try simp only [Act.put, lay_out]
  refine wpAnyH_take (i := 28) (v := .slice na N ne) rfl (by kernel_rfl) (by kernel_rfl) (by kernel_rfl) (fun _ _ _ h => h) (.inl ⟨by rfl, fun w hw => by obtain ⟨k0, k1, k2⟩ := hw; go_simp⟩) h2x ?_
  try simp only [Act.put, lay_out]
  refine wpAnyH_take (i := 29) (v := .pointer (some ⟨w.heap.size, 1, none⟩)) rfl (by kernel_rfl) (by kernel_rfl) (by kernel_rfl) (fun _ _ _ h => h) (.inl ⟨by rfl, fun w hw => by clear hw; go_simp⟩) h2x ?_
  try simp only [Act.put, lay_out]
  refine wpAnyH_take (i := 30) (v := .slice ha H he) rfl (by kernel_rfl) (by kernel_rfl) (by kernel_rfl) (fun _ _ _ h => h) (.inl ⟨by rfl, fun w hw => by obtain ⟨k0, k1, k2⟩ := hw; go_simp⟩) h2x ?_
  try simp only [Act.put, lay_out]
  refine wpAnyH_take (i := 31) (v := .pointer (some ⟨w.heap.size, 2, none⟩)) rfl (by kernel_rfl) (by kernel_rfl) (by kernel_rfl) (fun _ _ _ h => h) (.inl ⟨by rfl, fun w hw => by clear hw; go_simp⟩) h2x ?_
  try simp only [Act.put, lay_out]
  refine wpAnyH_take (i := 32) (v := .slice a M e) rfl (by kernel_rfl) (by kernel_rfl) (by kernel_rfl) (fun _ _ _ h => h) (.inl ⟨by rfl, fun w hw => by obtain ⟨k0, k1, k2⟩ := hw; go_simp⟩) h2x ?_
  try simp only [Act.put, lay_out]
  refine wpAnyH_ready (rs := [25]) (by kernel_rfl) (by simp) (AllReadyH.cons rfl (fun K hK => ?_) AllReadyH.nil)
  rw [if_pos (by rfl)]
  go_simp
  go_at_call 11
  (with_reducible refine (etag_any d b c cap R R1 N ne H he M e Y ν η δ na ha a w4 HE4.out.eh.gc (HR1.out.1.later HE4.out.low) (HR1.out.2.1.later HE4.out.low) (HR1.out.2.2.later HE4.out.low)).mono ?_); rintro e w5 ⟨g5, e5, rfl, ht⟩
  have HE5 := hid (HE4.out.later ht.gc ht.low)
  have HM5 := hid (HM4.out.later ht.low)
  have HG5 := hid (ht.mg HE4.out.eh.lw.lt)
  clear ht
  refine hK.out _ _ (HE5.out.eh.cell) (fun h3x => ?_)
  clear hK K
  try simp only [Act.put, lay_out]
  refine wpAnyH_ready (rs := [33]) (by kernel_rfl) (by simp) (AllReadyH.cons rfl (fun K hK => ?_) AllReadyH.nil)
  rw [if_pos (by rfl)]
  go_simp
  go_at_call 12
  (with_reducible refine (rtag_any b R R1 N ne H he M e (.slice (some ⟨kb, ko, none⟩) Lk kc) Y ν η δ na ha a w5 HE5.out.kyr (HR1.out.1.later HE5.out.low) (HR1.out.2.1.later HE5.out.low) (HR1.out.2.2.later HE5.out.low)).mono ?_); rintro e w6 ⟨g6, e6, rfl, ht⟩
  have HE6 := hid (HE5.out.self ht.low)
  have HM6 := hid (HM5.out.later (Only.of_below ht.low))
  have HSM := hid (same_ns (.slice (some ⟨g5, 0, none⟩) 16 e5) (.slice (some ⟨g6, 0, none⟩) 16 e6) _ _ w6 (HG5.out.self ht.low).rd (ht.row.rd e6 (by decide)) rfl)
  clear ht
  refine hK.out _ _ (HE6.out.eh.cell) (fun h4x => ?_)
  clear hK K
  try simp only [Act.put, lay_out]
  refine wpAnyH_ready (rs := [34]) (by kernel_rfl) (by simp) (AllReadyH.cons rfl (fun K hK => ?_) AllReadyH.nil)
  rw [if_pos (by rfl)]
  go_simp
  go_at_call 10
  (with_reducible refine (HSM.out).mono ?_); rintro e w6 ⟨rfl, rfl⟩
  refine hK.out _ _ (HE6.out.eh.cell) (fun h5x => ?_)
  clear hK K
  try simp only [Act.put, lay_out]
  refine wpAnyH_take (i := 35) (v := .bool false) rfl (by kernel_rfl) (by kernel_rfl) (by kernel_rfl) (fun _ _ _ h => h) (.inl ⟨by rfl, fun w hw => by clear hw; go_simp⟩) h5x ?_
  try simp only [Act.put, lay_out]
  refine wpAnyH_take (i := 36) (v := .bool false) rfl (by kernel_rfl) (by kernel_rfl) (by kernel_rfl) (fun _ _ _ h => h) (.inl ⟨by rfl, fun w hw => by clear hw; go_simp⟩) h5x ?_
  try simp only [Act.put, lay_out]
  refine wpAnyH_done (by kernel_rfl) ?_ _
  refine NoPanic.normal ?_
  clear h0 h1x h2x h3x h4x h5x
  try simp only [Act.put, lay_out]
  obtain ⟨c60, c61, c62⟩ := HE6.out.eh.cell
  go_wp2_with (first
    | (go_at_call 13; (with_reducible refine (rcover_any b R R1 N ne M e (.slice (some ⟨kb, ko, none⟩) Lk kc) Y ν δ na a w6 HE6.out.eh.lw.lt HE6.out.kyr (HR1.out.1.later HE6.out.low) (HR1.out.2.2.later HE6.out.low)).mono ?_); rintro q w7 ⟨uw, ux, rfl, hm, hlow⟩
       have HE7 := hid (HE6.out.self hlow)
       have HM7 := hid (HM6.out.later (Only.of_below hlow))
       have HW7 := hid hm
       obtain ⟨c70, c71, c72⟩ := HE7.out.eh.cell
       have HT9 := hid (rtag_any b R R1 N ne H he M e (.slice (some ⟨kb, ko, none⟩) Lk kc) Y ν η δ na ha a w7 HE7.out.kyr (HR1.out.1.later HE7.out.low) (HR1.out.2.1.later HE7.out.low) (HR1.out.2.2.later HE7.out.low))
       clear hm hlow)
    | (go_at_call 12; (with_reducible refine HT9.out.mono ?_); rintro q w9 ⟨g9, e9, rfl, ht⟩
       have HE9 := hid (HE7.out.self ht.low)
       have s10 : (L : Int) ≤ (e9 : Int) := by have := HLL.out; have := ht.cap; omega
       have s11 : (0 : Int) ≤ (L : Int) := by omega
       have HSC := hid (same_ns (.slice (some ⟨g9, 0, none⟩) L e9) (.slice ta L tc) _ _ w9 (kept_prefix (ht.mg HE7.out.eh.lw.lt).kept HLL.out.2).rd (HT1.out.later HE9.out.low).rd HZ.out)
       have HSD := hid (same_ns (.slice ud M uf) (.slice uw M ux) _ _ w9 ((HM7.out.later (Only.of_below ht.low)).rd) (HW7.out.self ht.low).rd rfl)
       clear ht)
    | (go_at_call 10; (with_reducible refine HSC.out.mono ?_); rintro q w9 ⟨rfl, rfl⟩)
    | (go_at_call 10; (with_reducible refine HSD.out.mono ?_); rintro q w9 ⟨rfl, rfl⟩)
    | (go_at_call 5; (with_reducible refine (eawake_any w9).mono ?_); rintro q w10 ⟨rfl, hlow⟩
       have HL10 := hid (HE9.out.eh.lw.self hlow)
       clear hlow))
  go_ret
  exact ⟨rfl, HL10.out.low⟩

set_option maxHeartbeats 25600000 in
theorem tells_bn (kb ko kc Lk R R1 N ne H he M e L tc : Nat) (n : Int) (na ha a ta : Option Addr) (Y : Nat → Nat → Nat) (ν η δ τ : Nat → Nat) (w : World) (hr : rnd (Lk : Int) = R) (hk : Ky w (.slice (some ⟨kb, ko, none⟩) Lk kc) R R1 Y)
    (hN : Rd .u8 w (.slice na N ne) (ns N ν)) (hν : ∀ j, j < N → ν j < 256) (hN2 : N ≤ 500 ∧ N ≤ ne)
    (hH : Rd .u8 w (.slice ha H he) (ns H η)) (hη : ∀ j, j < H → η j < 256) (hH2 : H ≤ 500 ∧ H ≤ he)
    (hM : Rd .u8 w (.slice a M e) (ns M δ)) (hδ : ∀ j, j < M → δ j < 256) (hM2 : M ≤ 500 ∧ M ≤ e)
    (hT : Rd .u8 w (.slice ta L tc) (ns L τ)) (hτ : ∀ j, j < L → τ j < 256) (hT2 : L ≤ tc) (hn : n < 1 ∨ n > 16) (hL : 1 ≤ L ∧ L ≤ 16) (hz : ¬ ns L (eaxF Y R N ν H η M δ) = ns L τ) :
    Calls Tryz.prog 3 #[.slice (some ⟨kb, ko, none⟩) Lk kc, .agg #[.slice na N ne, .slice ha H he, .slice a M e], .int .i64 n, .slice ta L tc] w fun e w' => e = .returned (.bool true) ∧ Below w.heap.size w w' := by
  have HX := hid (Bx4.start w (.slice na N ne) (.slice ha H he) (.slice a M e))
  have HRD := hid (fun w => by have := refrounds_any (Lk : Int) w; rw [hr] at this; exact this)
  have r0 : ((R : Int) == 0) = false := by have := hk.num.2.1; rw [beq_eq_false_iff_ne]; omega
  have HN := hid (hk.new _ HX.out.low)
  unfold NewD at HN
  have HKY := hid hk
  have HMG := hid (fun (b : Nat) (w1 : World) (hb : w.heap.size ≤ b) (hl : Below w.heap.size w w1) => And.intro (mg_open hN hν hN2 hb hl) (And.intro (mg_open hH hη hH2 hb hl) (mg_open hM hδ hM2 hb hl)))
  have HMT := hid (fun (b : Nat) (w1 : World) (hb : w.heap.size ≤ b) (hl : Below w.heap.size w w1) => show Mg b w1 ta L tc τ from ⟨(kept_rd hT hb).later (Only.of_below hl), hτ, hT2, by omega⟩)
  have HLL := hid hL
  have HZ := hid hz
  have HCN : Hid (∀ w, Calls Tryz.prog 9 #[.int .i64 n, .int .i64 M] w fun x w' => x = .returned (.int .i64 5) ∧ w' = w) := hid (fun w => by
    have := rcheck_any n M w
    rwa [rfE_bad hn] at this)
  have HCL : Hid (∀ w, Calls Tryz.prog 9 #[.int .i64 L, .int .i64 M] w fun x w' => x = .returned (.int .i64 0) ∧ w' = w) := hid (fun w => by
    have := rcheck_any (L : Int) M w
    rwa [rfE_ok (by omega) (by omega)] at this)
  have HNN := hid hn
  obtain ⟨c0, c1, c2⟩ := blk3 HX.out.blk
  have h1 : ¬ (N : Int) > 500 := by omega
  have h2 : ¬ (H : Int) > 500 := by omega
  have h3 : ¬ (M : Int) > 500 := by omega
  clear hr hk hN hν hN2 hH hη hH2 hM hδ hM2 hn hL hT hτ hT2 hz
  go_enter Tryz.func3, Tryz.ntmps3
  go_wp2_with (first
    | (go_at_call 4; (with_reducible refine (HRD.out _).mono ?_); rintro e w' ⟨rfl, rfl⟩)
    | (go_at_call 6; (with_reducible refine HN.out.mono ?_); rintro q w1 ⟨d, b, c, cap, rfl, hci, hb, hlow⟩
       have HE1 : Hid (El b w w1 w1 d c cap R R1 Y w.heap.size (.slice na N ne) (.slice ha H he) (.slice a M e) (.slice (some ⟨kb, ko, none⟩) Lk kc)) := hid ⟨⟨⟨HX.out.low.trans (hlow.mono HX.out.low.size), Nat.le_trans HX.out.low.size hb, hci.box.lt⟩, ⟨HKY.out.num, hci⟩, (hlow.block _ (Array.getElem?_eq_some_iff.1 HX.out.blk).1).trans HX.out.blk, by have := (Array.getElem?_eq_some_iff.1 HX.out.blk).1; omega⟩, Only.refl _ _, HKY.out⟩
       have HR1 := hid (HMG.out b w1 HE1.out.eh.lw.le HE1.out.eh.lw.low)
       have HT1 := hid (HMT.out b w1 HE1.out.eh.lw.le HE1.out.eh.lw.low)
       have HS1 := hid (esl_bad (.pointer (some ⟨d, 0, none⟩)) N ne H he M e na ha a n w1 HNN.out)
       obtain ⟨c10, c11, c12⟩ := HE1.out.eh.cell
       clear hci hb hlow)
    | (go_at_call 7; (with_reducible refine HS1.out.mono ?_); rintro q w2 ⟨rfl, rfl⟩
       have HE2 := hid HE1.out
       have HS2 := hid (eun_no d b c cap R R1 N ne H he M e L tc Y ν η δ τ na ha a ta w2 HE2.out.eh.gc (HR1.out.1.later HE2.out.low) (HR1.out.2.1.later HE2.out.low) (HR1.out.2.2.later HE2.out.low) (HT1.out.later HE2.out.low) HLL.out HZ.out))
    | (go_at_call 8; (with_reducible refine HS2.out.mono ?_); rintro q w3 ⟨rfl, hg, ho⟩
       have HE3 := hid (HE2.out.later hg ho)
       skip
       clear hg ho))
  have hdr : Below w3.heap.size w3 w3.drew := (Below.refl _ _).drew
  have HE4 := hid (HE3.out.self hdr)
  clear hdr HE3
  refine wp_region_noPanic ?_
  refine wp_region_held_drew (S := fun w' => w'.cell? ⟨w.heap.size, 0, none⟩ = some (.slice na N ne) ∧ w'.cell? ⟨w.heap.size, 1, none⟩ = some (.slice ha H he) ∧ w'.cell? ⟨w.heap.size, 2, none⟩ = some (.slice a M e)) (by kernel_rfl) (HE4.out.eh.cell) (fun h0 => ?_)
  generalize w3.drew = w4 at *
  refine wpAnyH_take (i := 0) (v := .int .i64 5) rfl (by kernel_rfl) (by kernel_rfl) (by kernel_rfl) (fun _ _ _ h => h) (.inl ⟨by rfl, fun w hw => by clear hw; go_simp⟩) h0 ?_
  try simp only [Act.put, lay_out]
  refine wpAnyH_take (i := 1) (v := .int .i64 n) rfl (by kernel_rfl) (by kernel_rfl) (by kernel_rfl) (fun _ _ _ h => h) (.inl ⟨by rfl, fun w hw => by clear hw; go_simp⟩) h0 ?_
  try simp only [Act.put, lay_out]
  refine wpAnyH_take (i := 2) (v := .pointer (some ⟨w.heap.size, 2, none⟩)) rfl (by kernel_rfl) (by kernel_rfl) (by kernel_rfl) (fun _ _ _ h => h) (.inl ⟨by rfl, fun w hw => by clear hw; go_simp⟩) h0 ?_
  try simp only [Act.put, lay_out]
  refine wpAnyH_take (i := 3) (v := .slice a M e) rfl (by kernel_rfl) (by kernel_rfl) (by kernel_rfl) (fun _ _ _ h => h) (.inl ⟨by rfl, fun w hw => by obtain ⟨k0, k1, k2⟩ := hw; go_simp⟩) h0 ?_
  try simp only [Act.put, lay_out]
  refine wpAnyH_take (i := 4) (v := .int .i64 M) rfl (by kernel_rfl) (by kernel_rfl) (by kernel_rfl) (fun _ _ _ h => h) (.inl ⟨by rfl, fun w hw => by clear hw; go_simp⟩) h0 ?_
  try simp only [Act.put, lay_out]
  refine wpAnyH_ready (rs := [5]) (by kernel_rfl) (by simp) (AllReadyH.cons rfl (fun K hK => ?_) AllReadyH.nil)
  rw [if_pos (by rfl)]
  go_simp
  go_at_call 9
  (with_reducible refine (HCN.out _).mono ?_); rintro e w4 ⟨rfl, rfl⟩
  refine hK.out _ _ (HE4.out.eh.cell) (fun h1x => ?_)
  clear hK K
  try simp only [Act.put, lay_out]
  refine wpAnyH_take (i := 6) (v := .bool false) rfl (by kernel_rfl) (by kernel_rfl) (by kernel_rfl) (fun _ _ _ h => h) (.inl ⟨by rfl, fun w hw => by clear hw; go_simp⟩) h1x ?_
  try simp only [Act.put, lay_out]
  refine wpAnyH_take (i := 7) (v := .bool false) rfl (by kernel_rfl) (by kernel_rfl) (by kernel_rfl) (fun _ _ _ h => h) (.inl ⟨by rfl, fun w hw => by clear hw; go_simp⟩) h1x ?_
  try simp only [Act.put, lay_out]
  refine wpAnyH_take (i := 8) (v := .int .i64 0) rfl (by kernel_rfl) (by kernel_rfl) (by kernel_rfl) (fun _ _ _ h => h) (.inl ⟨by rfl, fun w hw => by clear hw; go_simp⟩) h1x ?_
  try simp only [Act.put, lay_out]
  refine wpAnyH_take (i := 9) (v := .slice ta L tc) rfl (by kernel_rfl) (by kernel_rfl) (by kernel_rfl) (fun _ _ _ h => h) (.inl ⟨by rfl, fun w hw => by clear hw; go_simp⟩) h1x ?_
  try simp only [Act.put, lay_out]
  refine wpAnyH_take (i := 10) (v := .int .i64 L) rfl (by kernel_rfl) (by kernel_rfl) (by kernel_rfl) (fun _ _ _ h => h) (.inl ⟨by rfl, fun w hw => by clear hw; go_simp⟩) h1x ?_
  try simp only [Act.put, lay_out]
  refine wpAnyH_take (i := 11) (v := .pointer (some ⟨w.heap.size, 2, none⟩)) rfl (by kernel_rfl) (by kernel_rfl) (by kernel_rfl) (fun _ _ _ h => h) (.inl ⟨by rfl, fun w hw => by clear hw; go_simp⟩) h1x ?_
  try simp only [Act.put, lay_out]
  refine wpAnyH_take (i := 12) (v := .slice a M e) rfl (by kernel_rfl) (by kernel_rfl) (by kernel_rfl) (fun _ _ _ h => h) (.inl ⟨by rfl, fun w hw => by obtain ⟨k0, k1, k2⟩ := hw; go_simp⟩) h1x ?_
  try simp only [Act.put, lay_out]
  refine wpAnyH_take (i := 13) (v := .int .i64 M) rfl (by kernel_rfl) (by kernel_rfl) (by kernel_rfl) (fun _ _ _ h => h) (.inl ⟨by rfl, fun w hw => by clear hw; go_simp⟩) h1x ?_
  try simp only [Act.put, lay_out]
  refine wpAnyH_ready (rs := [14]) (by kernel_rfl) (by simp) (AllReadyH.cons rfl (fun K hK => ?_) AllReadyH.nil)
  rw [if_pos (by rfl)]
  go_simp
  go_at_call 9
  (with_reducible refine (HCL.out _).mono ?_); rintro e w4 ⟨rfl, rfl⟩
  refine hK.out _ _ (HE4.out.eh.cell) (fun h2x => ?_)
  clear hK K
  try simp only [Act.put, lay_out]
  refine wpAnyH_take (i := 15) (v := .bool false) rfl (by kernel_rfl) (by kernel_rfl) (by kernel_rfl) (fun _ _ _ h => h) (.inl ⟨by rfl, fun w hw => by clear hw; go_simp⟩) h2x ?_
  try simp only [Act.put, lay_out]
  refine wpAnyH_take (i := 16) (v := .bool false) rfl (by kernel_rfl) (by kernel_rfl) (by kernel_rfl) (fun _ _ _ h => h) (.inl ⟨by rfl, fun w hw => by clear hw; go_simp⟩) h2x ?_
  try simp only [Act.put, lay_out]
  refine wpAnyH_take (i := 17) (v := .bool false) rfl (by kernel_rfl) (by kernel_rfl) (by kernel_rfl) (fun _ _ _ h => h) (.inl ⟨by rfl, fun w hw => by clear hw; go_simp⟩) h2x ?_
  try simp only [Act.put, lay_out]
  refine wpAnyH_take (i := 18) (v := .pointer (some ⟨d, 0, none⟩)) rfl (by kernel_rfl) (by kernel_rfl) (by kernel_rfl) (fun _ _ _ h => h) (.inl ⟨by rfl, fun w hw => by clear hw; go_simp⟩) h2x ?_
  try simp only [Act.put, lay_out]
  refine wpAnyH_take (i := 19) (v := .pointer (some ⟨w.heap.size, 0, none⟩)) rfl (by kernel_rfl) (by kernel_rfl) (by kernel_rfl) (fun _ _ _ h => h) (.inl ⟨by rfl, fun w hw => by clear hw; go_simp⟩) h2x ?_
  try simp only [Act.put, lay_out]
  refine wpAnyH_take (i := 20) (v := .slice na N ne) rfl (by kernel_rfl) (by kernel_rfl) (by kernel_rfl) (fun _ _ _ h => h) (.inl ⟨by rfl, fun w hw => by obtain ⟨k0, k1, k2⟩ := hw; go_simp⟩) h2x ?_
  try simp only [Act.put, lay_out]
  refine wpAnyH_take (i := 21) (v := .pointer (some ⟨w.heap.size, 1, none⟩)) rfl (by kernel_rfl) (by kernel_rfl) (by kernel_rfl) (fun _ _ _ h => h) (.inl ⟨by rfl, fun w hw => by clear hw; go_simp⟩) h2x ?_
  try simp only [Act.put, lay_out]
  refine wpAnyH_take (i := 22) (v := .slice ha H he) rfl (by kernel_rfl) (by kernel_rfl) (by kernel_rfl) (fun _ _ _ h => h) (.inl ⟨by rfl, fun w hw => by obtain ⟨k0, k1, k2⟩ := hw; go_simp⟩) h2x ?_
  try simp only [Act.put, lay_out]
  refine wpAnyH_take (i := 23) (v := .pointer (some ⟨w.heap.size, 2, none⟩)) rfl (by kernel_rfl) (by kernel_rfl) (by kernel_rfl) (fun _ _ _ h => h) (.inl ⟨by rfl, fun w hw => by clear hw; go_simp⟩) h2x ?_
  try simp only [Act.put, lay_out]
  refine wpAnyH_take (i := 24) (v := .slice a M e) rfl (by kernel_rfl) (by kernel_rfl) (by kernel_rfl) (fun _ _ _ h => h) (.inl ⟨by rfl, fun w hw => by obtain ⟨k0, k1, k2⟩ := hw; go_simp⟩) h2x ?_
  try simp only [Act.put, lay_out]
  refine wpAnyH_take (i := 26) (v := .slice (some ⟨kb, ko, none⟩) Lk kc) rfl (by kernel_rfl) (by kernel_rfl) (by kernel_rfl) (fun _ _ _ h => h) (.inl ⟨by rfl, fun w hw => by clear hw; go_simp⟩) h2x ?_
  try simp only [Act.put, lay_out]
  refine wpAnyH_take (i := 27) (v := .pointer (some ⟨w.heap.size, 0, none⟩)) rfl (by kernel_rfl) (by kernel_rfl) (by kernel_rfl) (fun _ _ _ h => h) (.inl ⟨by rfl, fun w hw => by clear hw; go_simp⟩) h2x ?_
  try simp only [Act.put, lay_out]
  refine wpAnyH_take (i := 28) (v := .slice na N ne) rfl (by kernel_rfl) (by kernel_rfl) (by kernel_rfl) (fun _ _ _ h => h) (.inl ⟨by rfl, fun w hw => by obtain ⟨k0, k1, k2⟩ := hw; go_simp⟩) h2x ?_
  try simp only [Act.put, lay_out]
  refine wpAnyH_take (i := 29) (v := .pointer (some ⟨w.heap.size, 1, none⟩)) rfl (by kernel_rfl) (by kernel_rfl) (by kernel_rfl) (fun _ _ _ h => h) (.inl ⟨by rfl, fun w hw => by clear hw; go_simp⟩) h2x ?_
  try simp only [Act.put, lay_out]
  refine wpAnyH_take (i := 30) (v := .slice ha H he) rfl (by kernel_rfl) (by kernel_rfl) (by kernel_rfl) (fun _ _ _ h => h) (.inl ⟨by rfl, fun w hw => by obtain ⟨k0, k1, k2⟩ := hw; go_simp⟩) h2x ?_
  try simp only [Act.put, lay_out]
  refine wpAnyH_take (i := 31) (v := .pointer (some ⟨w.heap.size, 2, none⟩)) rfl (by kernel_rfl) (by kernel_rfl) (by kernel_rfl) (fun _ _ _ h => h) (.inl ⟨by rfl, fun w hw => by clear hw; go_simp⟩) h2x ?_
  try simp only [Act.put, lay_out]
  refine wpAnyH_take (i := 32) (v := .slice a M e) rfl (by kernel_rfl) (by kernel_rfl) (by kernel_rfl) (fun _ _ _ h => h) (.inl ⟨by rfl, fun w hw => by obtain ⟨k0, k1, k2⟩ := hw; go_simp⟩) h2x ?_
  try simp only [Act.put, lay_out]
  refine wpAnyH_ready (rs := [25]) (by kernel_rfl) (by simp) (AllReadyH.cons rfl (fun K hK => ?_) AllReadyH.nil)
  rw [if_pos (by rfl)]
  go_simp
  go_at_call 11
  (with_reducible refine (etag_any d b c cap R R1 N ne H he M e Y ν η δ na ha a w4 HE4.out.eh.gc (HR1.out.1.later HE4.out.low) (HR1.out.2.1.later HE4.out.low) (HR1.out.2.2.later HE4.out.low)).mono ?_); rintro e w5 ⟨g5, e5, rfl, ht⟩
  have HE5 := hid (HE4.out.later ht.gc ht.low)
  have HG5 := hid (ht.mg HE4.out.eh.lw.lt)
  clear ht
  refine hK.out _ _ (HE5.out.eh.cell) (fun h3x => ?_)
  clear hK K
  try simp only [Act.put, lay_out]
  refine wpAnyH_ready (rs := [33]) (by kernel_rfl) (by simp) (AllReadyH.cons rfl (fun K hK => ?_) AllReadyH.nil)
  rw [if_pos (by rfl)]
  go_simp
  go_at_call 12
  (with_reducible refine (rtag_any b R R1 N ne H he M e (.slice (some ⟨kb, ko, none⟩) Lk kc) Y ν η δ na ha a w5 HE5.out.kyr (HR1.out.1.later HE5.out.low) (HR1.out.2.1.later HE5.out.low) (HR1.out.2.2.later HE5.out.low)).mono ?_); rintro e w6 ⟨g6, e6, rfl, ht⟩
  have HE6 := hid (HE5.out.self ht.low)
  have HSM := hid (same_ns (.slice (some ⟨g5, 0, none⟩) 16 e5) (.slice (some ⟨g6, 0, none⟩) 16 e6) _ _ w6 (HG5.out.self ht.low).rd (ht.row.rd e6 (by decide)) rfl)
  clear ht
  refine hK.out _ _ (HE6.out.eh.cell) (fun h4x => ?_)
  clear hK K
  try simp only [Act.put, lay_out]
  refine wpAnyH_ready (rs := [34]) (by kernel_rfl) (by simp) (AllReadyH.cons rfl (fun K hK => ?_) AllReadyH.nil)
  rw [if_pos (by rfl)]
  go_simp
  go_at_call 10
  (with_reducible refine (HSM.out).mono ?_); rintro e w6 ⟨rfl, rfl⟩
  refine hK.out _ _ (HE6.out.eh.cell) (fun h5x => ?_)
  clear hK K
  try simp only [Act.put, lay_out]
  refine wpAnyH_take (i := 35) (v := .bool false) rfl (by kernel_rfl) (by kernel_rfl) (by kernel_rfl) (fun _ _ _ h => h) (.inl ⟨by rfl, fun w hw => by clear hw; go_simp⟩) h5x ?_
  try simp only [Act.put, lay_out]
  refine wpAnyH_take (i := 36) (v := .bool false) rfl (by kernel_rfl) (by kernel_rfl) (by kernel_rfl) (fun _ _ _ h => h) (.inl ⟨by rfl, fun w hw => by clear hw; go_simp⟩) h5x ?_
  try simp only [Act.put, lay_out]
  refine wpAnyH_done (by kernel_rfl) ?_ _
  refine NoPanic.normal ?_
  clear h0 h1x h2x h3x h4x h5x
  try simp only [Act.put, lay_out]
  obtain ⟨c60, c61, c62⟩ := HE6.out.eh.cell
  go_wp2_with (first
    | (go_at_call 13; (with_reducible refine (rcover_any b R R1 N ne M e (.slice (some ⟨kb, ko, none⟩) Lk kc) Y ν δ na a w6 HE6.out.eh.lw.lt HE6.out.kyr (HR1.out.1.later HE6.out.low) (HR1.out.2.2.later HE6.out.low)).mono ?_); rintro q w7 ⟨uw, ux, rfl, hm, hlow⟩
       have HE7 := hid (HE6.out.self hlow)
       skip
       have HW7 := hid hm
       obtain ⟨c70, c71, c72⟩ := HE7.out.eh.cell
       have HT9 := hid (rtag_any b R R1 N ne H he M e (.slice (some ⟨kb, ko, none⟩) Lk kc) Y ν η δ na ha a w7 HE7.out.kyr (HR1.out.1.later HE7.out.low) (HR1.out.2.1.later HE7.out.low) (HR1.out.2.2.later HE7.out.low))
       clear hm hlow)
    | (go_at_call 12; (with_reducible refine HT9.out.mono ?_); rintro q w9 ⟨g9, e9, rfl, ht⟩
       have HE9 := hid (HE7.out.self ht.low)
       have s10 : (L : Int) ≤ (e9 : Int) := by have := HLL.out; have := ht.cap; omega
       have s11 : (0 : Int) ≤ (L : Int) := by omega
       have HSC := hid (same_no (.slice (some ⟨g9, 0, none⟩) L e9) (.slice ta L tc) _ _ w9 (kept_prefix (ht.mg HE7.out.eh.lw.lt).kept HLL.out.2).rd (HT1.out.later HE9.out.low).rd HZ.out)
       skip
       clear ht)
    | (go_at_call 10; (with_reducible refine HSC.out.mono ?_); rintro q w9 ⟨rfl, rfl⟩)
    | (go_at_call 5; (with_reducible refine (eawake_any w9).mono ?_); rintro q w10 ⟨rfl, hlow⟩
       have HL10 := hid (HE9.out.eh.lw.self hlow)
       clear hlow))
  go_ret
  exact ⟨rfl, HL10.out.low⟩

set_option maxHeartbeats 25600000 in
theorem tells_bb (kb ko kc Lk R R1 N ne H he M e L tc : Nat) (n : Int) (na ha a ta : Option Addr) (Y : Nat → Nat → Nat) (ν η δ : Nat → Nat) (w : World) (hr : rnd (Lk : Int) = R) (hk : Ky w (.slice (some ⟨kb, ko, none⟩) Lk kc) R R1 Y)
    (hN : Rd .u8 w (.slice na N ne) (ns N ν)) (hν : ∀ j, j < N → ν j < 256) (hN2 : N ≤ 500 ∧ N ≤ ne)
    (hH : Rd .u8 w (.slice ha H he) (ns H η)) (hη : ∀ j, j < H → η j < 256) (hH2 : H ≤ 500 ∧ H ≤ he)
    (hM : Rd .u8 w (.slice a M e) (ns M δ)) (hδ : ∀ j, j < M → δ j < 256) (hM2 : M ≤ 500 ∧ M ≤ e)
    (hn : n < 1 ∨ n > 16) (hL : L < 1 ∨ L > 16)  :
    Calls Tryz.prog 3 #[.slice (some ⟨kb, ko, none⟩) Lk kc, .agg #[.slice na N ne, .slice ha H he, .slice a M e], .int .i64 n, .slice ta L tc] w fun e w' => e = .returned (.bool true) ∧ Below w.heap.size w w' := by
  have HX := hid (Bx4.start w (.slice na N ne) (.slice ha H he) (.slice a M e))
  have HRD := hid (fun w => by have := refrounds_any (Lk : Int) w; rw [hr] at this; exact this)
  have r0 : ((R : Int) == 0) = false := by have := hk.num.2.1; rw [beq_eq_false_iff_ne]; omega
  have HN := hid (hk.new _ HX.out.low)
  unfold NewD at HN
  have HKY := hid hk
  have HMG := hid (fun (b : Nat) (w1 : World) (hb : w.heap.size ≤ b) (hl : Below w.heap.size w w1) => And.intro (mg_open hN hν hN2 hb hl) (And.intro (mg_open hH hη hH2 hb hl) (mg_open hM hδ hM2 hb hl)))
  have HCN : Hid (∀ w, Calls Tryz.prog 9 #[.int .i64 n, .int .i64 M] w fun x w' => x = .returned (.int .i64 5) ∧ w' = w) := hid (fun w => by
    have := rcheck_any n M w
    rwa [rfE_bad hn] at this)
  have HCL : Hid (∀ w, Calls Tryz.prog 9 #[.int .i64 L, .int .i64 M] w fun x w' => x = .returned (.int .i64 5) ∧ w' = w) := hid (fun w => by
    have := rcheck_any (L : Int) M w
    rwa [rfE_bad (by omega)] at this)
  have HNN := hid hn
  have HLL := hid hL
  obtain ⟨c0, c1, c2⟩ := blk3 HX.out.blk
  have h1 : ¬ (N : Int) > 500 := by omega
  have h2 : ¬ (H : Int) > 500 := by omega
  have h3 : ¬ (M : Int) > 500 := by omega
  clear hr hk hN hν hN2 hH hη hH2 hM hδ hM2 hn hL
  go_enter Tryz.func3, Tryz.ntmps3
  go_wp2_with (first
    | (go_at_call 4; (with_reducible refine (HRD.out _).mono ?_); rintro e w' ⟨rfl, rfl⟩)
    | (go_at_call 6; (with_reducible refine HN.out.mono ?_); rintro q w1 ⟨d, b, c, cap, rfl, hci, hb, hlow⟩
       have HE1 : Hid (El b w w1 w1 d c cap R R1 Y w.heap.size (.slice na N ne) (.slice ha H he) (.slice a M e) (.slice (some ⟨kb, ko, none⟩) Lk kc)) := hid ⟨⟨⟨HX.out.low.trans (hlow.mono HX.out.low.size), Nat.le_trans HX.out.low.size hb, hci.box.lt⟩, ⟨HKY.out.num, hci⟩, (hlow.block _ (Array.getElem?_eq_some_iff.1 HX.out.blk).1).trans HX.out.blk, by have := (Array.getElem?_eq_some_iff.1 HX.out.blk).1; omega⟩, Only.refl _ _, HKY.out⟩
       have HR1 := hid (HMG.out b w1 HE1.out.eh.lw.le HE1.out.eh.lw.low)
       skip
       have HS1 := hid (esl_bad (.pointer (some ⟨d, 0, none⟩)) N ne H he M e na ha a n w1 HNN.out)
       obtain ⟨c10, c11, c12⟩ := HE1.out.eh.cell
       clear hci hb hlow)
    | (go_at_call 7; (with_reducible refine HS1.out.mono ?_); rintro q w2 ⟨rfl, rfl⟩
       have HE2 := hid HE1.out
       have HS2 := hid (eun_bad (.pointer (some ⟨d, 0, none⟩)) N ne H he M e L tc na ha a ta w2 HLL.out))
    | (go_at_call 8; (with_reducible refine HS2.out.mono ?_); rintro q w3 ⟨rfl, rfl⟩
       have HE3 := hid HE2.out
       skip))
  have hdr : Below w3.heap.size w3 w3.drew := (Below.refl _ _).drew
  have HE4 := hid (HE3.out.self hdr)
  clear hdr HE3
  refine wp_region_noPanic ?_
  refine wp_region_held_drew (S := fun w' => w'.cell? ⟨w.heap.size, 0, none⟩ = some (.slice na N ne) ∧ w'.cell? ⟨w.heap.size, 1, none⟩ = some (.slice ha H he) ∧ w'.cell? ⟨w.heap.size, 2, none⟩ = some (.slice a M e)) (by kernel_rfl) (HE4.out.eh.cell) (fun h0 => ?_)
  generalize w3.drew = w4 at *
  refine wpAnyH_take (i := 0) (v := .int .i64 5) rfl (by kernel_rfl) (by kernel_rfl) (by kernel_rfl) (fun _ _ _ h => h) (.inl ⟨by rfl, fun w hw => by clear hw; go_simp⟩) h0 ?_
  try simp only [Act.put, lay_out]
  refine wpAnyH_take (i := 1) (v := .int .i64 n) rfl (by kernel_rfl) (by kernel_rfl) (by kernel_rfl) (fun _ _ _ h => h) (.inl ⟨by rfl, fun w hw => by clear hw; go_simp⟩) h0 ?_
  try simp only [Act.put, lay_out]
  refine wpAnyH_take (i := 2) (v := .pointer (some ⟨w.heap.size, 2, none⟩)) rfl (by kernel_rfl) (by kernel_rfl) (by kernel_rfl) (fun _ _ _ h => h) (.inl ⟨by rfl, fun w hw => by clear hw; go_simp⟩) h0 ?_
  try simp only [Act.put, lay_out]
  refine wpAnyH_take (i := 3) (v := .slice a M e) rfl (by kernel_rfl) (by kernel_rfl) (by kernel_rfl) (fun _ _ _ h => h) (.inl ⟨by rfl, fun w hw => by obtain ⟨k0, k1, k2⟩ := hw; go_simp⟩) h0 ?_
  try simp only [Act.put, lay_out]
  refine wpAnyH_take (i := 4) (v := .int .i64 M) rfl (by kernel_rfl) (by kernel_rfl) (by kernel_rfl) (fun _ _ _ h => h) (.inl ⟨by rfl, fun w hw => by clear hw; go_simp⟩) h0 ?_
  try simp only [Act.put, lay_out]
  refine wpAnyH_ready (rs := [5]) (by kernel_rfl) (by simp) (AllReadyH.cons rfl (fun K hK => ?_) AllReadyH.nil)
  rw [if_pos (by rfl)]
  go_simp
  go_at_call 9
  (with_reducible refine (HCN.out _).mono ?_); rintro e w4 ⟨rfl, rfl⟩
  refine hK.out _ _ (HE4.out.eh.cell) (fun h1x => ?_)
  clear hK K
  try simp only [Act.put, lay_out]
  refine wpAnyH_take (i := 6) (v := .bool false) rfl (by kernel_rfl) (by kernel_rfl) (by kernel_rfl) (fun _ _ _ h => h) (.inl ⟨by rfl, fun w hw => by clear hw; go_simp⟩) h1x ?_
  try simp only [Act.put, lay_out]
  refine wpAnyH_take (i := 7) (v := .bool false) rfl (by kernel_rfl) (by kernel_rfl) (by kernel_rfl) (fun _ _ _ h => h) (.inl ⟨by rfl, fun w hw => by clear hw; go_simp⟩) h1x ?_
  try simp only [Act.put, lay_out]
  refine wpAnyH_take (i := 8) (v := .int .i64 5) rfl (by kernel_rfl) (by kernel_rfl) (by kernel_rfl) (fun _ _ _ h => h) (.inl ⟨by rfl, fun w hw => by clear hw; go_simp⟩) h1x ?_
  try simp only [Act.put, lay_out]
  refine wpAnyH_take (i := 9) (v := .slice ta L tc) rfl (by kernel_rfl) (by kernel_rfl) (by kernel_rfl) (fun _ _ _ h => h) (.inl ⟨by rfl, fun w hw => by clear hw; go_simp⟩) h1x ?_
  try simp only [Act.put, lay_out]
  refine wpAnyH_take (i := 10) (v := .int .i64 L) rfl (by kernel_rfl) (by kernel_rfl) (by kernel_rfl) (fun _ _ _ h => h) (.inl ⟨by rfl, fun w hw => by clear hw; go_simp⟩) h1x ?_
  try simp only [Act.put, lay_out]
  refine wpAnyH_take (i := 11) (v := .pointer (some ⟨w.heap.size, 2, none⟩)) rfl (by kernel_rfl) (by kernel_rfl) (by kernel_rfl) (fun _ _ _ h => h) (.inl ⟨by rfl, fun w hw => by clear hw; go_simp⟩) h1x ?_
  try simp only [Act.put, lay_out]
  refine wpAnyH_take (i := 12) (v := .slice a M e) rfl (by kernel_rfl) (by kernel_rfl) (by kernel_rfl) (fun _ _ _ h => h) (.inl ⟨by rfl, fun w hw => by obtain ⟨k0, k1, k2⟩ := hw; go_simp⟩) h1x ?_
  try simp only [Act.put, lay_out]
  refine wpAnyH_take (i := 13) (v := .int .i64 M) rfl (by kernel_rfl) (by kernel_rfl) (by kernel_rfl) (fun _ _ _ h => h) (.inl ⟨by rfl, fun w hw => by clear hw; go_simp⟩) h1x ?_
  try simp only [Act.put, lay_out]
  refine wpAnyH_ready (rs := [14]) (by kernel_rfl) (by simp) (AllReadyH.cons rfl (fun K hK => ?_) AllReadyH.nil)
  rw [if_pos (by rfl)]
  go_simp
  go_at_call 9
  (with_reducible refine (HCL.out _).mono ?_); rintro e w4 ⟨rfl, rfl⟩
  refine hK.out _ _ (HE4.out.eh.cell) (fun h2x => ?_)
  clear hK K
  try simp only [Act.put, lay_out]
  refine wpAnyH_take (i := 15) (v := .bool false) rfl (by kernel_rfl) (by kernel_rfl) (by kernel_rfl) (fun _ _ _ h => h) (.inl ⟨by rfl, fun w hw => by clear hw; go_simp⟩) h2x ?_
  try simp only [Act.put, lay_out]
  refine wpAnyH_take (i := 16) (v := .bool false) rfl (by kernel_rfl) (by kernel_rfl) (by kernel_rfl) (fun _ _ _ h => h) (.inl ⟨by rfl, fun w hw => by clear hw; go_simp⟩) h2x ?_
  try simp only [Act.put, lay_out]
  refine wpAnyH_take (i := 17) (v := .bool false) rfl (by kernel_rfl) (by kernel_rfl) (by kernel_rfl) (fun _ _ _ h => h) (.inl ⟨by rfl, fun w hw => by clear hw; go_simp⟩) h2x ?_
  try simp only [Act.put, lay_out]
  refine wpAnyH_take (i := 18) (v := .pointer (some ⟨d, 0, none⟩)) rfl (by kernel_rfl) (by kernel_rfl) (by kernel_rfl) (fun _ _ _ h => h) (.inl ⟨by rfl, fun w hw => by clear hw; go_simp⟩) h2x ?_
  try simp only [Act.put, lay_out]
  refine wpAnyH_take (i := 19) (v := .pointer (some ⟨w.heap.size, 0, none⟩)) rfl (by kernel_rfl) (by kernel_rfl) (by kernel_rfl) (fun _ _ _ h => h) (.inl ⟨by rfl, fun w hw => by clear hw; go_simp⟩) h2x ?_
  try simp only [Act.put, lay_out]
  refine wpAnyH_take (i := 20) (v := .slice na N ne) rfl (by kernel_rfl) (by kernel_rfl) (by kernel_rfl) (fun _ _ _ h => h) (.inl ⟨by rfl, fun w hw => by obtain ⟨k0, k1, k2⟩ := hw; go_simp⟩) h2x ?_
  try simp only [Act.put, lay_out]
  refine wpAnyH_take (i := 21) (v := .pointer (some ⟨w.heap.size, 1, none⟩)) rfl (by kernel_rfl) (by kernel_rfl) (by kernel_rfl) (fun _ _ _ h => h) (.inl ⟨by rfl, fun w hw => by clear hw; go_simp⟩) h2x ?_
  try simp only [Act.put, lay_out]
  refine wpAnyH_take (i := 22) (v := .slice ha H he) rfl (by kernel_rfl) (by kernel_rfl) (by kernel_rfl) (fun _ _ _ h => h) (.inl ⟨by rfl, fun w hw => by obtain ⟨k0, k1, k2⟩ := hw; go_simp⟩) h2x ?_
  try simp only [Act.put, lay_out]
  refine wpAnyH_take (i := 23) (v := .pointer (some ⟨w.heap.size, 2, none⟩)) rfl (by kernel_rfl) (by kernel_rfl) (by kernel_rfl) (fun _ _ _ h => h) (.inl ⟨by rfl, fun w hw => by clear hw; go_simp⟩) h2x ?_
  try simp only [Act.put, lay_out]
  refine wpAnyH_take (i := 24) (v := .slice a M e) rfl (by kernel_rfl) (by kernel_rfl) (by kernel_rfl) (fun _ _ _ h => h) (.inl ⟨by rfl, fun w hw => by obtain ⟨k0, k1, k2⟩ := hw; go_simp⟩) h2x ?_
  try simp only [Act.put, lay_out]
  refine wpAnyH_take (i := 26) (v := .slice (some ⟨kb, ko, none⟩) Lk kc) rfl (by kernel_rfl) (by kernel_rfl) (by kernel_rfl) (fun _ _ _ h => h) (.inl ⟨by rfl, fun w hw => by clear hw; go_simp⟩) h2x ?_
  try simp only [Act.put, lay_out]
  refine wpAnyH_take (i := 27) (v := .pointer (some ⟨w.heap.size, 0, none⟩)) rfl (by kernel_rfl) (by kernel_rfl) (by kernel_rfl) (fun _ _ _ h => h) (.inl ⟨by rfl, fun w hw => by clear hw; go_simp⟩) h2x ?_
  try simp only [Act.put, lay_out]
  refine wpAnyH_take (i := 28) (v := .slice na N ne) rfl (by kernel_rfl) (by kernel_rfl) (by kernel_rfl) (fun _ _ _ h => h) (.inl ⟨by rfl, fun w hw => by obtain ⟨k0, k1, k2⟩ := hw; go_simp⟩) h2x ?_
  try simp only [Act.put, lay_out]
  refine wpAnyH_take (i := 29) (v := .pointer (some ⟨w.heap.size, 1, none⟩)) rfl (by kernel_rfl) (by kernel_rfl) (by kernel_rfl) (fun _ _ _ h => h) (.inl ⟨by rfl, fun w hw => by clear hw; go_simp⟩) h2x ?_
  try simp only [Act.put, lay_out]
  refine wpAnyH_take (i := 30) (v := .slice ha H he) rfl (by kernel_rfl) (by kernel_rfl) (by kernel_rfl) (fun _ _ _ h => h) (.inl ⟨by rfl, fun w hw => by obtain ⟨k0, k1, k2⟩ := hw; go_simp⟩) h2x ?_
  try simp only [Act.put, lay_out]
  refine wpAnyH_take (i := 31) (v := .pointer (some ⟨w.heap.size, 2, none⟩)) rfl (by kernel_rfl) (by kernel_rfl) (by kernel_rfl) (fun _ _ _ h => h) (.inl ⟨by rfl, fun w hw => by clear hw; go_simp⟩) h2x ?_
  try simp only [Act.put, lay_out]
  refine wpAnyH_take (i := 32) (v := .slice a M e) rfl (by kernel_rfl) (by kernel_rfl) (by kernel_rfl) (fun _ _ _ h => h) (.inl ⟨by rfl, fun w hw => by obtain ⟨k0, k1, k2⟩ := hw; go_simp⟩) h2x ?_
  try simp only [Act.put, lay_out]
  refine wpAnyH_ready (rs := [25]) (by kernel_rfl) (by simp) (AllReadyH.cons rfl (fun K hK => ?_) AllReadyH.nil)
  rw [if_pos (by rfl)]
  go_simp
  go_at_call 11
  (with_reducible refine (etag_any d b c cap R R1 N ne H he M e Y ν η δ na ha a w4 HE4.out.eh.gc (HR1.out.1.later HE4.out.low) (HR1.out.2.1.later HE4.out.low) (HR1.out.2.2.later HE4.out.low)).mono ?_); rintro e w5 ⟨g5, e5, rfl, ht⟩
  have HE5 := hid (HE4.out.later ht.gc ht.low)
  have HG5 := hid (ht.mg HE4.out.eh.lw.lt)
  clear ht
  refine hK.out _ _ (HE5.out.eh.cell) (fun h3x => ?_)
  clear hK K
  try simp only [Act.put, lay_out]
  refine wpAnyH_ready (rs := [33]) (by kernel_rfl) (by simp) (AllReadyH.cons rfl (fun K hK => ?_) AllReadyH.nil)
  rw [if_pos (by rfl)]
  go_simp
  go_at_call 12
  (with_reducible refine (rtag_any b R R1 N ne H he M e (.slice (some ⟨kb, ko, none⟩) Lk kc) Y ν η δ na ha a w5 HE5.out.kyr (HR1.out.1.later HE5.out.low) (HR1.out.2.1.later HE5.out.low) (HR1.out.2.2.later HE5.out.low)).mono ?_); rintro e w6 ⟨g6, e6, rfl, ht⟩
  have HE6 := hid (HE5.out.self ht.low)
  have HSM := hid (same_ns (.slice (some ⟨g5, 0, none⟩) 16 e5) (.slice (some ⟨g6, 0, none⟩) 16 e6) _ _ w6 (HG5.out.self ht.low).rd (ht.row.rd e6 (by decide)) rfl)
  clear ht
  refine hK.out _ _ (HE6.out.eh.cell) (fun h4x => ?_)
  clear hK K
  try simp only [Act.put, lay_out]
  refine wpAnyH_ready (rs := [34]) (by kernel_rfl) (by simp) (AllReadyH.cons rfl (fun K hK => ?_) AllReadyH.nil)
  rw [if_pos (by rfl)]
  go_simp
  go_at_call 10
  (with_reducible refine (HSM.out).mono ?_); rintro e w6 ⟨rfl, rfl⟩
  refine hK.out _ _ (HE6.out.eh.cell) (fun h5x => ?_)
  clear hK K
  try simp only [Act.put, lay_out]
  refine wpAnyH_take (i := 35) (v := .bool false) rfl (by kernel_rfl) (by kernel_rfl) (by kernel_rfl) (fun _ _ _ h => h) (.inl ⟨by rfl, fun w hw => by clear hw; go_simp⟩) h5x ?_
  try simp only [Act.put, lay_out]
  refine wpAnyH_take (i := 36) (v := .bool false) rfl (by kernel_rfl) (by kernel_rfl) (by kernel_rfl) (fun _ _ _ h => h) (.inl ⟨by rfl, fun w hw => by clear hw; go_simp⟩) h5x ?_
  try simp only [Act.put, lay_out]
  refine wpAnyH_done (by kernel_rfl) ?_ _
  refine NoPanic.normal ?_
  clear h0 h1x h2x h3x h4x h5x
  try simp only [Act.put, lay_out]
  obtain ⟨c60, c61, c62⟩ := HE6.out.eh.cell
  go_wp2_with (first
    | (go_at_call 13; (with_reducible refine (rcover_any b R R1 N ne M e (.slice (some ⟨kb, ko, none⟩) Lk kc) Y ν δ na a w6 HE6.out.eh.lw.lt HE6.out.kyr (HR1.out.1.later HE6.out.low) (HR1.out.2.2.later HE6.out.low)).mono ?_); rintro q w7 ⟨uw, ux, rfl, hm, hlow⟩
       have HE7 := hid (HE6.out.self hlow)
       skip
       have HW7 := hid hm
       obtain ⟨c70, c71, c72⟩ := HE7.out.eh.cell
       clear hm hlow)
    | (go_at_call 5; (with_reducible refine (eawake_any w7).mono ?_); rintro q w10 ⟨rfl, hlow⟩
       have HL10 := hid (HE7.out.eh.lw.self hlow)
       clear hlow))
  go_ret
  exact ⟨rfl, HL10.out.low⟩
end Go.Proofs.YthhkhcacljgelaaGreat
