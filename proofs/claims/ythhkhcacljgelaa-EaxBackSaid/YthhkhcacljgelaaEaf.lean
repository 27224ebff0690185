import Derived.Test.YthhkhcacljgelaaProg
import Derived.Test.YthhkhcacljgelaaEae
/- EaxBack, another byte. -/
namespace Go.Proofs.Ythhkhcacljgelaa
open Go.RowKit
set_option maxRecDepth 100000

set_option maxHeartbeats 12800000 in
theorem back_in (κ : Nat → Nat) (N ne H he M e p y : Nat) (ν η δ : Nat → Nat) (na ha a : Option Addr) (w : World) (hκ : ∀ i, i < 16 → κ i < 256)
    (hN : Rd .u8 w (.slice na N ne) (ns N ν)) (hν : ∀ j, j < N → ν j < 256) (hN2 : N ≤ 500 ∧ N ≤ ne)
    (hH : Rd .u8 w (.slice ha H he) (ns H η)) (hη : ∀ j, j < H → η j < 256) (hH2 : H ≤ 500 ∧ H ≤ he)
    (hM : Rd .u8 w (.slice a M e) (ns M δ)) (hδ : ∀ j, j < M → δ j < 256) (hM2 : M ≤ 500 ∧ M ≤ e) (hp : p < 16 + M) (hy : 0 < y ∧ y < 256) :
    Calls Try.prog 3 #[.agg (ba 16 κ), .agg #[.slice na N ne, .slice ha H he, .slice a M e], .int .i64 p, .int .u8 y] w fun e w' => e = .returned (.bool true) ∧ Below w.heap.size w w' := by
  have HX := hid (Bx3.start w κ (.slice na N ne) (.slice ha H he) (.slice a M e))
  obtain ⟨Y, hkn⟩ := kn_box HX.out.key hκ
  have HN := hid (hkn.new _ (Below.refl _ _))
  unfold NewD at HN
  have HYB := hid hkn.yb
  have HMG := hid (fun (b : Nat) (w1 : World) (hb : w.heap.size ≤ b) (hl : Below w.heap.size w w1) => And.intro (mg_open hN hν hN2 hb hl) (And.intro (mg_open hH hη hH2 hb hl) (mg_open hM hδ hM2 hb hl)))
  obtain ⟨c0, c1, c2⟩ := blk3 HX.out.blk
  have h1 : ¬ (N : Int) > 500 := by omega
  have h2 : ¬ (H : Int) > 500 := by omega
  have h3 : ¬ (M : Int) > 500 := by omega
  have h4 : ¬ (p : Int) < 0 := by omega
  obtain ⟨T, hT⟩ : ∃ T, 16 + M = T := ⟨_, rfl⟩
  have h5 : ¬ (p : Int) ≥ (T : Int) := by omega
  have h7 : (0 : Int) ≤ (p : Int) := by omega
  have h8 : (p : Int) < (T : Int) := by omega
  have h6 : ((y : Int) == 0) = false := by rw [beq_eq_false_iff_ne]; omega
  have HP := hid (And.intro (show p < T by omega) (And.intro hy (And.intro (show M ≤ 500 by omega) hT)))
  clear hT hκ hN hν hN2 hH hη hH2 hM hδ hM2 hp hy hkn
  go_enter Try.func3, Try.ntmps3
  go_wp2_with (first
    | (go_at_call 5; (with_reducible refine HN.out.mono ?_); rintro q w1 ⟨d, b, c, cap, rfl, hci, hb, hlow⟩
       have HE1 : Hid (Eh b w w1 d c cap 10 11 Y (w.heap.size + 1) (.slice na N ne) (.slice ha H he) (.slice a M e)) := hid ⟨⟨HX.out.low.trans (hlow.mono HX.out.low.size), Nat.le_trans HX.out.low.size hb, hci.box.lt⟩, ⟨by decide, hci⟩, (hlow.block _ (Array.getElem?_eq_some_iff.1 HX.out.blk).1).trans HX.out.blk, by have := (Array.getElem?_eq_some_iff.1 HX.out.blk).1; omega⟩
       have HR1 := hid (HMG.out b w1 HE1.out.lw.le HE1.out.lw.low)
       have HS1 := hid (esl_16 d b c cap 10 11 N ne H he M e Y ν η δ na ha a w1 HE1.out.gc HR1.out.1 HR1.out.2.1 HR1.out.2.2)
       obtain ⟨c10, c11, c12⟩ := HE1.out.cell
       clear hci hb hlow)
    | (go_at_call 6; (with_reducible refine HS1.out.mono ?_); rintro q w2 ⟨ua, uc, g, rfl, hs⟩
       have HE2 := hid (HE1.out.later hs.gc hs.low)
       have HS2 := hid hs
       have HU2 := hid (eun_yes d b c cap 10 11 N ne H he M uc 16 16 Y ν η (covF Y 10 N ν δ) (eaxF Y 10 N ν H η M (covF Y 10 N ν δ)) na ha ua (some ⟨g, 0, none⟩) w2 hs.gc (HR1.out.1.later hs.low) (HR1.out.2.1.later hs.low) hs.cov hs.tag (by decide) rfl)
       obtain ⟨c20, c21, c22⟩ := HE2.out.cell
       clear hs)
    | (go_at_call 7; (with_reducible refine HU2.out.mono ?_); rintro q w3 ⟨ua3, uc3, rfl, hm, hg, ho⟩
       rw [covF_twice] at hm
       have HE3 := hid (HE2.out.later hg ho)
       have HO3 := hid (HS2.out.low.trans ho)
       have HSM := hid (same_ns (.slice ua3 M uc3) (.slice a M e) _ _ w3 hm.rd (HR1.out.2.2.later HO3.out).rd rfl)
       have HT3 := hid (And.intro (HS2.out.tag.later ho) (HS2.out.cov.later ho))
       obtain ⟨c30, c31, c32⟩ := HE3.out.cell
       clear hm hg ho)
    | (go_at_call 8; (with_reducible refine HSM.out.mono ?_); rintro q w3 ⟨rfl, rfl⟩
       have HAL : Hid (Below w3.heap.size w3 (w3.alloc (.cells #[] 5))) := hid ((Below.refl _ _).alloc (Nat.le_refl _) _)
       have HRB := hid (HT3.out.1.self HAL.out).rd
       have HLI1 := hid (show (([] : List Int).length + (ns 16 (eaxF Y 10 N ν H η M (covF Y 10 N ν δ))).length) * (IntKind.u8.bits / 8) ≤ 140737488355328 by rw [ns_len]; decide)
       have HLI2 := hid (show ((ns 16 (eaxF Y 10 N ν H η M (covF Y 10 N ν δ))).length + (ns M (covF Y 10 N ν δ)).length) * (IntKind.u8.bits / 8) ≤ 140737488355328 by rw [ns_len, ns_len]; have := HP.out; show (16 + M) * 1 ≤ _; omega))
    | (at_builtin; refine wpList_append_rd rfl (.tmp 99) (.tmp 100) 23 rfl .u8 w3.heap.size 5 Try.underlying23 info8 (by decide) _ [] rfl (own_empty w3 (Nat.le_refl _)) _ (ns 16 (eaxF Y 10 N ν H η M (covF Y 10 N ν δ))) rfl HRB.out HLI1.out (by simp) w3.heap.size w3 HAL.out (Nat.le_refl _) ?_; intro u4 w4 hown hlow _
       rw [List.nil_append] at hown
       obtain ⟨pu, cu, rfl⟩ := hown.noRow
       rw [ns_len] at hown ⊢
       have HO4 := hid hown
       have HL4 := hid hlow
       have HRC := hid (HT3.out.2.self hlow).rd
       clear hown hlow)
    | (at_builtin; refine wpList_append_rd rfl (.tmp 101) (.tmp 102) 23 rfl .u8 w3.heap.size 5 Try.underlying23 info8 (by decide) (.slice pu 16 cu) _ rfl HO4.out (.slice ua M uc) (ns M (covF Y 10 N ν δ)) rfl HRC.out HLI2.out HL4.out.size w3.heap.size w3 HL4.out (Nat.le_refl _) ?_; intro u5 w5 hown hlow _
       rw [ns_then, HP.out.2.2.2] at hown
       obtain ⟨g5, c5, rfl, hg1, hg2, hcell, hfr, hset⟩ := hown.part (by rw [ns_len]; have := HP.out; omega)
       rw [ns_len] at hown hcell hset ⊢
       have d1 := hcell p HP.out.1
       rw [ns_nth _ HP.out.1] at d1
       have d2 := hfr p
       have HO5 := hid hown
       have HL5 := hid hlow
       have HG5 := hid hg1
       have HST := hid (fun z => hset p z HP.out.1)
       clear hown hlow hcell hfr hset hg1 hg2))
  -- TAIL
  have HZB : Hid (∀ j, j < T → thenF 16 (eaxF Y 10 N ν H η M (covF Y 10 N ν δ)) (covF Y 10 N ν δ) j < 256) := hid (fun j hj => thenF_b (N := 16) (L := M) HT3.out.1.all HT3.out.2.all j (by have := HP.out; omega))
  have HDF : Hid (¬ ns 16 (eaxF Y 10 N ν H η M (fun j => upd (thenF 16 (eaxF Y 10 N ν H η M (covF Y 10 N ν δ)) (covF Y 10 N ν δ)) p (thenF 16 (eaxF Y 10 N ν H η M (covF Y 10 N ν δ)) (covF Y 10 N ν δ) p ^^^ y) (16 + j))) = ns 16 (upd (thenF 16 (eaxF Y 10 N ν H η M (covF Y 10 N ν δ)) (covF Y 10 N ν δ)) p (thenF 16 (eaxF Y 10 N ν H η M (covF Y 10 N ν δ)) (covF Y 10 N ν δ) p ^^^ y))) :=
    hid (tamper HYB.out HT3.out.2.all (by have := HP.out; omega) HP.out.2.1 rfl (fun j hj => HZB.out j (by have := HP.out; omega)))
  generalize thenF 16 (eaxF Y 10 N ν H η M (covF Y 10 N ν δ)) (covF Y 10 N ν δ) = F at *
  have hx : bits .xor .u8 (F p : Int) (y : Int) = ((F p ^^^ y : Nat) : Int) := xor8 (HZB.out p HP.out.1) HP.out.2.1.2
  rw [hx]
  have HGB : Hid (∀ j, j < T → upd F p (F p ^^^ y) j < 256) := hid (fun j hj => by
    unfold upd; split
    · exact Nat.xor_lt_two_pow (n := 8) (HZB.out p HP.out.1) HP.out.2.1.2
    · exact HZB.out j hj)
  have HO6 := HST.out ((F p ^^^ y : Nat) : Int)
  rw [ns_set] at HO6
  have HW6 := hid (And.intro (wd_own HO6 HGB.out).1 (own_cap HO6))
  have hb6 : Below w3.heap.size w3 (w5.setCell ⟨g5, p, none⟩ (.int .u8 ((F p ^^^ y : Nat) : Int))) := HL5.out.setCell HG5.out _
  have HE6 := hid (HE3.out.self hb6)
  have HR6 := hid (And.intro ((HR1.out.1.later HO3.out).self hb6) ((HR1.out.2.1.later HO3.out).self hb6))
  have HNB : Hid (b < g5) := hid (Nat.lt_of_lt_of_le HE3.out.lw.lt HG5.out)
  generalize w5.setCell ⟨g5, p, none⟩ (.int .u8 ((F p ^^^ y : Nat) : Int)) = w6 at *
  generalize upd F p (F p ^^^ y) = G at *
  clear HO6 hb6 hx d2 HST HO5 HL5 HO4 HL4 HRC HAL HRB HLI1 HLI2 c10 c11 c12 c20 c21 c22 c30 c31 c32
  have hdr : Below w6.heap.size w6 w6.drew := (Below.refl _ _).drew
  have HE7 := hid (HE6.out.self hdr)
  have HR7 := hid (And.intro (HR6.out.1.self hdr) (HR6.out.2.self hdr))
  have HW7 := hid (And.intro (HW6.out.1.self hdr) HW6.out.2)
  clear hdr HE6 HR6 HW6
  by_cases h16 : c5 = 16
  · obtain rfl : T = 16 := by have := HW7.out.2; have := HP.out; omega
    subst h16
    obtain rfl : M = 0 := by have := HP.out; omega
    refine wp_region_noPanic ?_
    refine wp_region_held_drew (S := fun w' => w'.cell? ⟨w.heap.size + 1, 0, none⟩ = some (.slice na N ne) ∧ w'.cell? ⟨w.heap.size + 1, 1, none⟩ = some (.slice ha H he)) (by kernel_rfl) (And.intro HE7.out.cell.1 HE7.out.cell.2.1) (fun h0 => ?_)
    generalize w6.drew = w7 at *
    have HU := hid (eun_no d b c cap 10 11 N ne H he 0 (0) 16 16 Y ν η (fun j => G (16 + j)) G na ha (some ⟨g5, 0, none⟩) (some ⟨g5, 0, none⟩) w7 HE7.out.gc HR7.out.1 HR7.out.2 ⟨kept_zero _ _ _, fun j hj => absurd hj (by omega), Nat.le_refl _, by decide⟩ ⟨kept_prefix (kept_wd HW7.out.1 (by have := HNB.out; omega) (by have := HP.out; omega)) (by have := HP.out; omega), fun j hj => HGB.out j (by have := HP.out; omega), by have := HW7.out.2; have := HP.out; omega, by decide⟩ (by decide) HDF.out)
    refine wpAnyH_take (i := 0) (v := .pointer (some ⟨d, 0, none⟩)) rfl (by kernel_rfl) (by kernel_rfl) (by kernel_rfl) (fun _ _ _ h => h) (.inl ⟨by rfl, fun w hw => by clear hw; go_simp⟩) h0 ?_
    try simp only [Act.put, lay_out]
    refine wpAnyH_take (i := 1) (v := .pointer (some ⟨w.heap.size + 1, 0, none⟩)) rfl (by kernel_rfl) (by kernel_rfl) (by kernel_rfl) (fun _ _ _ h => h) (.inl ⟨by rfl, fun w hw => by clear hw; go_simp⟩) h0 ?_
    try simp only [Act.put, lay_out]
    refine wpAnyH_take (i := 2) (v := .slice na N ne) rfl (by kernel_rfl) (by kernel_rfl) (by kernel_rfl) (fun _ _ _ h => h) (.inl ⟨by rfl, fun w hw => by obtain ⟨k0, k1⟩ := hw; go_simp⟩) h0 ?_
    try simp only [Act.put, lay_out]
    refine wpAnyH_take (i := 3) (v := .pointer (some ⟨w.heap.size + 1, 1, none⟩)) rfl (by kernel_rfl) (by kernel_rfl) (by kernel_rfl) (fun _ _ _ h => h) (.inl ⟨by rfl, fun w hw => by clear hw; go_simp⟩) h0 ?_
    try simp only [Act.put, lay_out]
    refine wpAnyH_take (i := 4) (v := .slice ha H he) rfl (by kernel_rfl) (by kernel_rfl) (by kernel_rfl) (fun _ _ _ h => h) (.inl ⟨by rfl, fun w hw => by obtain ⟨k0, k1⟩ := hw; go_simp⟩) h0 ?_
    try simp only [Act.put, lay_out]
    refine wpAnyH_take (i := 5) (v := .slice (some ⟨g5, 0, none⟩) 16 16) rfl (by kernel_rfl) (by kernel_rfl) (by kernel_rfl) (fun _ _ _ h => h) (.inl ⟨by rfl, fun w hw => by clear hw; go_simp⟩) h0 ?_
    try simp only [Act.put, lay_out]
    refine wpAnyH_take (i := 6) (v := .slice (some ⟨g5, 0, none⟩) (0) (0)) rfl (by kernel_rfl) (by kernel_rfl) (by kernel_rfl) (fun _ _ _ h => h) (.inl ⟨by rfl, fun w hw => by clear hw; go_simp⟩) h0 ?_
    try simp only [Act.put, lay_out]
    refine wpAnyH_take (i := 7) (v := .slice (some ⟨g5, 0, none⟩) 16 16) rfl (by kernel_rfl) (by kernel_rfl) (by kernel_rfl) (fun _ _ _ h => h) (.inl ⟨by rfl, fun w hw => by clear hw; go_simp⟩) h0 ?_
    try simp only [Act.put, lay_out]
    refine wpAnyH_take (i := 8) (v := .slice (some ⟨g5, 0, none⟩) 16 16) rfl (by kernel_rfl) (by kernel_rfl) (by kernel_rfl) (fun _ _ _ h => h) (.inl ⟨by rfl, fun w hw => by clear hw; go_simp⟩) h0 ?_
    try simp only [Act.put, lay_out]
    refine wpAnyH_ready (rs := [9]) (by kernel_rfl) (by simp) (AllReadyH.cons rfl (fun K hK => ?_) AllReadyH.nil)
    rw [if_pos (by rfl)]
    go_simp
    go_at_call 7
    (with_reducible refine (HU.out).mono ?_); rintro e w8 ⟨rfl, hg, ho⟩
    have HE8 := hid (HE7.out.later hg ho)
    clear hg ho
    refine hK.out _ _ (And.intro HE8.out.cell.1 HE8.out.cell.2.1) (fun h1x => ?_)
    clear hK K
    try simp only [Act.put, lay_out]
    refine wpAnyH_take (i := 10) (v := .tuple #[.slice none 0 0, .bool false, .int .i64 0]) rfl (by kernel_rfl) (by kernel_rfl) (by kernel_rfl) (fun _ _ _ h => h) (.inl ⟨by rfl, fun w hw => by clear hw; go_simp⟩) h1x ?_
    try simp only [Act.put, lay_out]
    refine wpAnyH_take (i := 11) (v := .slice none 0 0) rfl (by kernel_rfl) (by kernel_rfl) (by kernel_rfl) (fun _ _ _ h => h) (.inl ⟨by rfl, fun w hw => by clear hw; go_simp⟩) h1x ?_
    try simp only [Act.put, lay_out]
    refine wpAnyH_take (i := 12) (v := .bool false) rfl (by kernel_rfl) (by kernel_rfl) (by kernel_rfl) (fun _ _ _ h => h) (.inl ⟨by rfl, fun w hw => by clear hw; go_simp⟩) h1x ?_
    try simp only [Act.put, lay_out]
    refine wpAnyH_take (i := 13) (v := .int .i64 0) rfl (by kernel_rfl) (by kernel_rfl) (by kernel_rfl) (fun _ _ _ h => h) (.inl ⟨by rfl, fun w hw => by clear hw; go_simp⟩) h1x ?_
    try simp only [Act.put, lay_out]
    refine wpAnyH_take (i := 14) (v := .slice none 0 0) rfl (by kernel_rfl) (by kernel_rfl) (by kernel_rfl) (fun _ _ _ h => h) (.inl ⟨by rfl, fun w hw => by clear hw; go_simp⟩) h1x ?_
    try simp only [Act.put, lay_out]
    refine wpAnyH_take (i := 15) (v := .bool false) rfl (by kernel_rfl) (by kernel_rfl) (by kernel_rfl) (fun _ _ _ h => h) (.inl ⟨by rfl, fun w hw => by clear hw; go_simp⟩) h1x ?_
    try simp only [Act.put, lay_out]
    refine wpAnyH_take (i := 16) (v := .int .i64 0) rfl (by kernel_rfl) (by kernel_rfl) (by kernel_rfl) (fun _ _ _ h => h) (.inl ⟨by rfl, fun w hw => by clear hw; go_simp⟩) h1x ?_
    try simp only [Act.put, lay_out]
    refine wpAnyH_done (by kernel_rfl) ?_ _
    refine NoPanic.normal ?_
    clear h0 h1x
    try simp only [Act.put, lay_out]
    go_wp2_with (first
      | (go_at_call 4; (with_reducible refine (eawake_any w8).mono ?_); rintro q w9 ⟨rfl, hlow⟩
         have HE9 := hid (HE8.out.lw.self hlow)
         clear hlow))
    go_ret
    exact ⟨rfl, HE9.out.low⟩
  · have g1 : (16 : Int) ≤ (T : Int) := by have := HP.out; omega
    have g2 : (16 : Int) ≤ (c5 : Int) := by have := HW7.out.2; have := HP.out; omega
    have g3 : ¬ c5 = 16 := h16
    have g4 : ¬ (c5 : Int) = 16 := by omega
    have g5' : (T : Int) ≤ (c5 : Int) := by have := HW7.out.2; omega
    have HMT : Hid (M = T - 16) := hid (by have := HP.out; omega)
    rw [HMT.out] at HDF
    refine wp_region_noPanic ?_
    refine wp_region_held_drew (S := fun w' => w'.cell? ⟨w.heap.size + 1, 0, none⟩ = some (.slice na N ne) ∧ w'.cell? ⟨w.heap.size + 1, 1, none⟩ = some (.slice ha H he)) (by kernel_rfl) (And.intro HE7.out.cell.1 HE7.out.cell.2.1) (fun h0 => ?_)
    generalize w6.drew = w7 at *
    have HU := hid (eun_no d b c cap 10 11 N ne H he (T - 16) (c5 - 16) 16 c5 Y ν η (fun j => G (16 + j)) G na ha (some ⟨g5, 16, none⟩) (some ⟨g5, 0, none⟩) w7 HE7.out.gc HR7.out.1 HR7.out.2 ⟨kept_suffix (g := g5) (off := 0) (k := 16) (kept_wd (c := c5) HW7.out.1 (by have := HNB.out; omega) (by have := HP.out; omega)) (by have := HP.out; omega), fun j hj => HGB.out _ (by have := HP.out; omega), by have := HW7.out.2; omega, by have := HP.out; omega⟩ ⟨kept_prefix (kept_wd HW7.out.1 (by have := HNB.out; omega) (by have := HP.out; omega)) (by have := HP.out; omega), fun j hj => HGB.out j (by have := HP.out; omega), by have := HW7.out.2; have := HP.out; omega, by decide⟩ (by decide) HDF.out)
    refine wpAnyH_take (i := 0) (v := .pointer (some ⟨d, 0, none⟩)) rfl (by kernel_rfl) (by kernel_rfl) (by kernel_rfl) (fun _ _ _ h => h) (.inl ⟨by rfl, fun w hw => by clear hw; go_simp⟩) h0 ?_
    try simp only [Act.put, lay_out]
    refine wpAnyH_take (i := 1) (v := .pointer (some ⟨w.heap.size + 1, 0, none⟩)) rfl (by kernel_rfl) (by kernel_rfl) (by kernel_rfl) (fun _ _ _ h => h) (.inl ⟨by rfl, fun w hw => by clear hw; go_simp⟩) h0 ?_
    try simp only [Act.put, lay_out]
    refine wpAnyH_take (i := 2) (v := .slice na N ne) rfl (by kernel_rfl) (by kernel_rfl) (by kernel_rfl) (fun _ _ _ h => h) (.inl ⟨by rfl, fun w hw => by obtain ⟨k0, k1⟩ := hw; go_simp⟩) h0 ?_
    try simp only [Act.put, lay_out]
    refine wpAnyH_take (i := 3) (v := .pointer (some ⟨w.heap.size + 1, 1, none⟩)) rfl (by kernel_rfl) (by kernel_rfl) (by kernel_rfl) (fun _ _ _ h => h) (.inl ⟨by rfl, fun w hw => by clear hw; go_simp⟩) h0 ?_
    try simp only [Act.put, lay_out]
    refine wpAnyH_take (i := 4) (v := .slice ha H he) rfl (by kernel_rfl) (by kernel_rfl) (by kernel_rfl) (fun _ _ _ h => h) (.inl ⟨by rfl, fun w hw => by obtain ⟨k0, k1⟩ := hw; go_simp⟩) h0 ?_
    try simp only [Act.put, lay_out]
    refine wpAnyH_take (i := 5) (v := .slice (some ⟨g5, 0, none⟩) T c5) rfl (by kernel_rfl) (by kernel_rfl) (by kernel_rfl) (fun _ _ _ h => h) (.inl ⟨by rfl, fun w hw => by clear hw; go_simp⟩) h0 ?_
    try simp only [Act.put, lay_out]
    refine wpAnyH_take (i := 6) (v := .slice (some ⟨g5, 16, none⟩) (T - 16) (c5 - 16)) rfl (by kernel_rfl) (by kernel_rfl) (by kernel_rfl) (fun _ _ _ h => h) (.inl ⟨by rfl, fun w hw => by clear hw; go_simp⟩) h0 ?_
    try simp only [Act.put, lay_out]
    refine wpAnyH_take (i := 7) (v := .slice (some ⟨g5, 0, none⟩) T c5) rfl (by kernel_rfl) (by kernel_rfl) (by kernel_rfl) (fun _ _ _ h => h) (.inl ⟨by rfl, fun w hw => by clear hw; go_simp⟩) h0 ?_
    try simp only [Act.put, lay_out]
    refine wpAnyH_take (i := 8) (v := .slice (some ⟨g5, 0, none⟩) 16 c5) rfl (by kernel_rfl) (by kernel_rfl) (by kernel_rfl) (fun _ _ _ h => h) (.inl ⟨by rfl, fun w hw => by clear hw; go_simp⟩) h0 ?_
    try simp only [Act.put, lay_out]
    refine wpAnyH_ready (rs := [9]) (by kernel_rfl) (by simp) (AllReadyH.cons rfl (fun K hK => ?_) AllReadyH.nil)
    rw [if_pos (by rfl)]
    go_simp
    go_at_call 7
    (with_reducible refine (HU.out).mono ?_); rintro e w8 ⟨rfl, hg, ho⟩
    have HE8 := hid (HE7.out.later hg ho)
    clear hg ho
    refine hK.out _ _ (And.intro HE8.out.cell.1 HE8.out.cell.2.1) (fun h1x => ?_)
    clear hK K
    try simp only [Act.put, lay_out]
    refine wpAnyH_take (i := 10) (v := .tuple #[.slice none 0 0, .bool false, .int .i64 0]) rfl (by kernel_rfl) (by kernel_rfl) (by kernel_rfl) (fun _ _ _ h => h) (.inl ⟨by rfl, fun w hw => by clear hw; go_simp⟩) h1x ?_
    try simp only [Act.put, lay_out]
    refine wpAnyH_take (i := 11) (v := .slice none 0 0) rfl (by kernel_rfl) (by kernel_rfl) (by kernel_rfl) (fun _ _ _ h => h) (.inl ⟨by rfl, fun w hw => by clear hw; go_simp⟩) h1x ?_
    try simp only [Act.put, lay_out]
    refine wpAnyH_take (i := 12) (v := .bool false) rfl (by kernel_rfl) (by kernel_rfl) (by kernel_rfl) (fun _ _ _ h => h) (.inl ⟨by rfl, fun w hw => by clear hw; go_simp⟩) h1x ?_
    try simp only [Act.put, lay_out]
    refine wpAnyH_take (i := 13) (v := .int .i64 0) rfl (by kernel_rfl) (by kernel_rfl) (by kernel_rfl) (fun _ _ _ h => h) (.inl ⟨by rfl, fun w hw => by clear hw; go_simp⟩) h1x ?_
    try simp only [Act.put, lay_out]
    refine wpAnyH_take (i := 14) (v := .slice none 0 0) rfl (by kernel_rfl) (by kernel_rfl) (by kernel_rfl) (fun _ _ _ h => h) (.inl ⟨by rfl, fun w hw => by clear hw; go_simp⟩) h1x ?_
    try simp only [Act.put, lay_out]
    refine wpAnyH_take (i := 15) (v := .bool false) rfl (by kernel_rfl) (by kernel_rfl) (by kernel_rfl) (fun _ _ _ h => h) (.inl ⟨by rfl, fun w hw => by clear hw; go_simp⟩) h1x ?_
    try simp only [Act.put, lay_out]
    refine wpAnyH_take (i := 16) (v := .int .i64 0) rfl (by kernel_rfl) (by kernel_rfl) (by kernel_rfl) (fun _ _ _ h => h) (.inl ⟨by rfl, fun w hw => by clear hw; go_simp⟩) h1x ?_
    try simp only [Act.put, lay_out]
    refine wpAnyH_done (by kernel_rfl) ?_ _
    refine NoPanic.normal ?_
    clear h0 h1x
    try simp only [Act.put, lay_out]
    go_wp2_with (first
      | (go_at_call 4; (with_reducible refine (eawake_any w8).mono ?_); rintro q w9 ⟨rfl, hlow⟩
         have HE9 := hid (HE8.out.lw.self hlow)
         clear hlow))
    go_ret
    exact ⟨rfl, HE9.out.low⟩
end Go.Proofs.Ythhkhcacljgelaa
