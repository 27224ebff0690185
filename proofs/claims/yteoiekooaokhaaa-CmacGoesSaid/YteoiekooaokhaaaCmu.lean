import Derived.Test.YteoiekooaokhaaaProg
import Derived.Test.YteoiekooaokhaaaCms
/- CmacGoes. -/
namespace Go.Proofs.Yteoiekooaokhaaa
open Go.RowKit
set_option maxRecDepth 100000
set_option maxHeartbeats 25600000 in
theorem goes_eq (κ β δ : Nat → Nat) (e : Nat) (ma : Option Addr) (w : World) (hκ : ∀ i, i < 16 → κ i < 256) (hβ : ∀ i, i < 16 → β i < 256) (hD : Rd .u8 w (.slice ma 16 e) (ns 16 δ)) (hδ : ∀ j, j < 16 → δ j < 256) (hM : 16 ≤ e) :
    Calls Try.prog 4 #[.agg (ba 16 κ), .agg (ba 16 β), .slice ma 16 e] w fun e w' => e = .returned (.bool true) ∧ Below w.heap.size w w' := by
  have HX := hid (Bx2.start w κ β)
  obtain ⟨Y, hky⟩ := ky_box HX.out.key hκ
  have HN := hid (hky.new _ (Below.refl _ _))
  unfold NewD at HN
  have HBB : Hid (B16 β) := hid hβ
  have HBA : Hid (∀ j, j < 16 → β j < 256) := hid hβ
  have HDB : Hid (∀ j, j < 16 → δ j < 256) := hid hδ
  have HYB := hid hky.yb
  have HM1 := hid (m1F_b hky.yb)
  have HXM := hid (xorF_16 hβ (m1F_b hky.yb))
  have HOB := hid (blkF_b hky.yb (xorF_16 hβ (m1F_b hky.yb)))
  have HZB := hid (blkF_b hky.yb hβ)
  have HGO : Hid (tagF Y 10 (fun _ => 0) 16 β = blkF Y 10 (xorF β (m1F Y 10))) := hid (goes_one β)
  have HD := hid (hD.self HX.out.low)
  have HGL : Hid (Eq16 (tagF Y 10 (fun _ => 0) (16 + 16) (thenF 16 β δ)) (tagF Y 10 (fun _ => 0) 16 (thenF 16 (xorF (blkF Y 10 β) δ) (fun j => δ (16 + j))))) := hid (goes_long (Y := Y) (R := 10) β δ (M := 16) (by decide))
  have HM := hid hM
  clear hκ hβ hky hD hδ hM
  go_enter Try.func4, Try.ntmps4
  go_wp2_with (first
    | (go_at_call 8; (with_reducible refine HN.out.mono ?_); rintro q w1 ⟨d, b, c, cap, rfl, hci, hb, hlow⟩
       have HBN : Hid (w.heap.size + 1 < b) := hid (Nat.lt_of_lt_of_le HX.out.beg.lt hb)
       have HL1 : Hid (Lw b w w1) := hid ⟨HX.out.low.trans (hlow.mono HX.out.low.size), Nat.le_trans HX.out.low.size hb, hci.box.lt⟩
       have HS1 : Hid (Gs b w1 w1 d c cap 10 11 Y (w.heap.size + 1) β) := hid ⟨⟨by decide, hci⟩, ⟨by decide, hci⟩, Only.refl _ _, HX.out.beg.self hlow, (HX.out.beg.self hlow).lt, by have := HBN.out; omega⟩
       have HK : Hid (Kept b w1 (.slice ma 16 e) (ns 16 δ)) := hid ((kept_rd HD.out hb).self hlow)
       clear hci hb hlow)
    | (go_at_call 9; (with_reducible refine (masks_any d b c cap 10 11 Y w1 HS1.out.base).mono ?_); rintro q w2 ⟨g1, c1, g2, c2, rfl, hm1, hm2, hl1, hl2, hg, ho⟩
       have HZ2 := hid (two_zero w2)
       have HS2 := hid ((HS1.out.asked hg ho).self HZ2.out.2.2)
       have HM2 := hid (hm1.self HZ2.out.2.2)
       have HN2 := hid (And.intro ho.size (And.intro hm1.lt (show b < w2.heap.size from hg.lt)))
       clear hm1 hm2 hl1 hl2 hg ho)
    | (refine step_store_ba rfl 39 (.tmp 11) (.tmp 38) rfl w2.heap.size 16 39 (fun _ => 0) (fun _ => 0) rfl rfl HZ2.out.1 infoa ?_
       have HA3 := hid (And.intro (HZ2.out.1.row (fun _ => 0)) (HZ2.out.2.1.rowApart (c := w2.heap.size) (by omega) (ba 16 (fun _ => 0))))
       have HS3 := hid (HS2.out.row HN2.out.1 (ba 16 (fun _ => 0)))
       have HM3 := hid (HM2.out.same (by simp) (setRow_other _ w2.heap.size g1 (ba 16 (fun _ => 0)) (by have := HN2.out.2.1; omega)))
       generalize ((w2.alloc (.cells z16 39)).alloc (.cells z16 39)).setRow w2.heap.size (ba 16 (fun _ => 0)) = w3 at *)
    | (refine step_store_ba rfl 39 (.tmp 12) (.tmp 39) rfl (w2.heap.size + 1) 16 39 (fun _ => 0) (fun _ => 0) rfl rfl HA3.out.2 infoa ?_
       have HA4 := hid (And.intro (HA3.out.1.rowApart (c := w2.heap.size + 1) (by omega) (ba 16 (fun _ => 0))) (HA3.out.2.row (fun _ => 0)))
       have HS4 := hid (HS3.out.row (n := w2.heap.size + 1) (by have := HN2.out.1; omega) (ba 16 (fun _ => 0)))
       have HM4 := hid (HM3.out.same (by simp) (setRow_other _ (w2.heap.size + 1) g1 (ba 16 (fun _ => 0)) (by have := HN2.out.2.1; omega)))
       generalize w3.setRow (w2.heap.size + 1) (ba 16 (fun _ => 0)) = w4 at *))
  have HN4 : Hid (w1.heap.size ≤ w2.heap.size ∧ b < w2.heap.size) := hid ⟨HN2.out.1, HN2.out.2.2⟩
  clear HN2 HZ2 HS2 HM2 HA3 HS3 HM3
  generalize w2.heap.size = x at *
  have hdr : Below w4.heap.size w4 w4.drew := (Below.refl _ _).drew
  have HS5 := hid (HS4.out.self hdr)
  have HA5 := hid (And.intro (HA4.out.1.self hdr) (HA4.out.2.self hdr))
  have HM5 := hid (HM4.out.self hdr)
  clear hdr HS4 HA4 HM4
  refine wp_region_noPanic ?_
  refine wp_region_held_drew (S := fun w' => True) (by kernel_rfl) (trivial) (fun h0 => ?_)
  generalize w4.drew = w5 at *
  refine wpAnyH_take (i := 0) (v := .slice (some ⟨x, 0, none⟩) 16 16) rfl (by kernel_rfl) (by kernel_rfl) (by kernel_rfl) (fun _ _ _ h => h) (.inl ⟨by rfl, fun w hw => by clear hw; go_simp⟩) h0 ?_
  try simp only [Act.put, lay_out]
  refine wpAnyH_take (i := 1) (v := .slice (some ⟨w.heap.size + 1, 0, none⟩) 16 16) rfl (by kernel_rfl) (by kernel_rfl) (by kernel_rfl) (fun _ _ _ h => h) (.inl ⟨by rfl, fun w hw => by clear hw; go_simp⟩) h0 ?_
  try simp only [Act.put, lay_out]
  refine wpAnyH_take (i := 2) (v := .slice (some ⟨g1, 0, none⟩) 16 c1) rfl (by kernel_rfl) (by kernel_rfl) (by kernel_rfl) (fun _ _ _ h => h) (.inl ⟨by rfl, fun w hw => by clear hw; go_simp⟩) h0 ?_
  try simp only [Act.put, lay_out]
  refine wpAnyH_ready (rs := [3]) (by kernel_rfl) (by simp) (AllReadyH.cons rfl (fun K hK => ?_) AllReadyH.nil)
  rw [if_pos (by rfl)]
  go_simp
  go_at_call 18
  (with_reducible refine (refxor_16 (.slice (some ⟨w.heap.size + 1, 0, none⟩) 16 16) (.slice (some ⟨g1, 0, none⟩) 16 c1) β (m1F Y 10) w5 ((Wd.of_at HS5.out.beg HBA.out).rd 16 (by decide)) (HM5.out.rd c1 (by decide)) HBB.out HM1.out).mono ?_); rintro e w6 ⟨gx, cx, rfl, hw, -, hlow⟩
  have HS6 := hid (HS5.out.self hlow)
  have HA6 := hid (And.intro (HA5.out.1.self hlow) (HA5.out.2.self hlow))
  have HW6 := hid hw
  clear hw hlow
  refine hK.out _ _ (trivial) (fun h1x => ?_)
  clear hK K
  try simp only [Act.put, lay_out]
  refine wpAnyH_ready (rs := [4]) (by kernel_rfl) (by simp) (AllReadyH.cons rfl (fun K hK => ?_) AllReadyH.nil)
  refine step_copy16 rfl (.tmp 40) (.tmp 43) rfl x 16 gx 0 cx (fun _ => 0) (xorF β (m1F Y 10)) rfl rfl HA6.out.1 HW6.out ?_
  have HS7 := hid (HS6.out.row (n := x) HN4.out.1 (ba 16 (xorF β (m1F Y 10))))
  have HA7 := hid (And.intro (HA6.out.1.row (xorF β (m1F Y 10))) (HA6.out.2.rowApart (c := x) (by omega) (ba 16 (xorF β (m1F Y 10)))))
  generalize w6.setRow x (ba 16 (xorF β (m1F Y 10))) = w7 at *
  refine hK.out _ _ (trivial) (fun h2x => ?_)
  clear hK K
  try simp only [Act.put, lay_out]
  refine wpAnyH_done (by kernel_rfl) ?_ _
  refine NoPanic.normal ?_
  clear h0 h1x h2x
  try simp only [Act.put, lay_out]
  clear HS5 HA5 HM5 HS6 HA6 HW6
  go_wp2_with (first
    | (refine step_load_ba rfl 39 (.tmp 11) rfl x 16 39 5 (xorF β (m1F Y 10)) rfl HA7.out.1 Try.underlying39 infoa ?_)
    | (go_at_call 19; (with_reducible refine (gblock_any d b c cap 10 11 Y (xorF β (m1F Y 10)) w7 HS7.out.gc HXM.out).mono ?_); rintro q w8 ⟨rfl, hg, ho⟩
       have HS8 := hid ((HS7.out.asked hg ho).self ((Below.refl _ w8).alloc (Nat.le_refl _) (.cells z16 39)))
       have HZ8 := hid ((at_asked HA7.out.2 ho (by have := HN4.out.2; omega)).alloc (.cells z16 39))
       have HA8 := hid (at_zero w8)
       have HN8 : Hid (w1.heap.size ≤ w8.heap.size ∧ x + 1 < w8.heap.size) := hid ⟨Nat.le_trans HS7.out.low.size ho.size, (at_asked HA7.out.2 ho (by have := HN4.out.2; omega)).lt⟩
       clear hg ho)
    | (refine step_store_ba rfl 39 (.tmp 13) (.tmp 47) rfl w8.heap.size 16 39 (fun _ => 0) (blkF Y 10 (xorF β (m1F Y 10))) rfl rfl HA8.out infoa ?_
       have HS9 := hid (HS8.out.row HN8.out.1 (ba 16 (blkF Y 10 (xorF β (m1F Y 10)))))
       have HZ9 := hid (HZ8.out.rowApart (c := w8.heap.size) (by have := HN8.out.2; omega) (ba 16 (blkF Y 10 (xorF β (m1F Y 10)))))
       have HO9 := hid (HA8.out.row (blkF Y 10 (xorF β (m1F Y 10))))
       have HN9 : Hid (w1.heap.size ≤ w8.heap.size ∧ x + 1 < w8.heap.size ∧ b < w8.heap.size) := hid ⟨HN8.out.1, HN8.out.2, by have := HN4.out.2; have := HN8.out.2; omega⟩
       generalize (w8.alloc (.cells z16 39)).setRow w8.heap.size (ba 16 (blkF Y 10 (xorF β (m1F Y 10)))) = w9 at *
       clear HN8 HA8 HS8 HZ8
       generalize w8.heap.size = o at *)
    | (refine step_load_ba rfl 39 (.tmp 4) rfl (w.heap.size + 1) 16 39 5 β rfl HS9.out.beg Try.underlying39 infoa ?_)
    | (go_at_call 19; (with_reducible refine (gblock_any d b c cap 10 11 Y β w9 HS9.out.gc HBB.out).mono ?_); rintro q w10 ⟨rfl, hg, ho⟩
       have HS10 := hid (HS9.out.asked hg ho)
       have HZ10 := hid (at_asked HZ9.out ho (by have := HN4.out.2; omega))
       have HO10 := hid (at_asked HO9.out ho (by have := HN9.out.2.2; omega))
       clear hg ho)
    | (refine step_store_ba rfl 39 (.tmp 12) (.tmp 50) rfl (x + 1) 16 39 (fun _ => 0) (blkF Y 10 β) rfl rfl HZ10.out infoa ?_
       have HS11 := hid (HS10.out.row (n := x + 1) (by have := HN4.out.1; omega) (ba 16 (blkF Y 10 β)))
       have HZ11 := hid (HZ10.out.row (blkF Y 10 β))
       have HO11 := hid (HO10.out.rowApart (c := x + 1) (by have := HN9.out.2.1; omega) (ba 16 (blkF Y 10 β)))
       generalize w10.setRow (x + 1) (ba 16 (blkF Y 10 β)) = w11 at *
       have HE11 := hid ((Below.refl _ w11).alloc (Nat.le_refl _) (.cells #[] 5))
       have HR11 := hid (((Wd.of_at HS11.out.beg HBB.out).self HE11.out).rd 16 (by decide)))
    | (at_builtin; refine wpList_append_rd rfl (.tmp 52) (.tmp 53) 22 rfl .u8 w11.heap.size 5 Try.underlying22 info8 (by decide) _ [] rfl (own_empty w11 (Nat.le_refl _)) _ (ns 16 β) rfl HR11.out (by rw [ns_len]; decide) (by simp) w11.heap.size w11 HE11.out (Nat.le_refl _) ?_; intro u12 w12 hown hlow _
       rw [List.nil_append] at hown
       have HO12 := hid hown
       have HL12 := hid hlow
       have HR12 := hid (HK.out.later (HS11.out.low.trans (Only.of_below hlow))).rd
       clear hown hlow)
    | (at_builtin; refine wpList_append_rd rfl (.tmp 54) (.tmp 55) 22 rfl .u8 w11.heap.size 5 Try.underlying22 info8 (by decide) u12 _ rfl HO12.out (.slice ma 16 e) _ rfl HR12.out (by simp only [ns_len]; decide) HL12.out.size w11.heap.size w11 HL12.out (Nat.le_refl _) ?_; intro u13 w13 hown hlow _
       rw [ns_then] at hown
       have HS13 := hid (HS11.out.self hlow)
       have HZ13 := hid (HZ11.out.self hlow)
       have HO13 := hid (HO11.out.self hlow)
       obtain ⟨g13, c13, rfl, hc13, -⟩ : ∃ g c, u13 = .slice (some ⟨g, 0, none⟩) (16 + 16) c ∧ 16 + 16 ≤ c ∧ True := by
         obtain ⟨g, c, rfl, -, -, -⟩ := hown.part (by rw [ns_len]; decide)
         obtain ⟨p4, c4, e4, hc4, -⟩ := hown.slice
         refine ⟨g, c, by rw [ns_len], ?_, trivial⟩
         injection e4 with _ _ e5
         rw [ns_len] at hc4
         omega
       have HT13 := hid (thenF_b (N := 16) (L := 16) HBB.out HDB.out)
       have HP13 := hid (msum_any d b c cap 10 11 (16 + 16) c13 Y (thenF 16 β δ) (some ⟨g13, 0, none⟩) w13 HS13.out.gc HT13.out hc13 (kept_own hown (by have := HS11.out.gc.lt; exact this) (by decide) HT13.out))
       clear hown hlow hc13)
    | (go_at_call 12; (with_reducible refine HP13.out.mono ?_); rintro q w14 ⟨g14, rfl, hte⟩
       have HS14 := hid (HS13.out.asked hte.gc hte.low)
       have HZ14 := hid (at_asked HZ13.out hte.low (by have := HN4.out.2; omega))
       have HO14 := hid (at_asked HO13.out hte.low (by have := HN9.out.2.2; omega))
       have HT14 := hid hte.tag
       have HG14 : Hid (g14 ≠ b) := hid (by have := HS13.out.gc.lt; have := hte.new; omega)
       have HH14 := hid (head_ns (.slice (some ⟨x + 1, 0, none⟩) 16 16) (.slice ma 16 e) (blkF Y 10 β) δ w14 ((Wd.of_at HZ14.out HZB.out).rd 16 (by decide)) (HK.out.later HS14.out.low).rd HZB.out HDB.out (by decide))
       clear hte)
    | (go_at_call 18; (with_reducible refine HH14.out.mono ?_); rintro q w15 ⟨u15, rfl, hown, hlow⟩
       rw [Nat.min_self] at hown
       have HS15 := hid (HS14.out.self hlow)
       have HO15 := hid (HO14.out.self hlow)
       have HT15 := hid (HT14.out.self hlow)
       have HHB : Hid (∀ j, j < 16 → xorF (blkF Y 10 β) δ j < 256) := hid (fun j hj => xorF_b (HZB.out j (by omega)) (HDB.out j (by omega)))
       have HE15 := hid ((Below.refl _ w15).alloc (Nat.le_refl _) (.cells #[] 5))
       have HR15 := hid ((hown.rd (by rw [ns_len]; show _ * 1 ≤ _; omega) (ns_wf HHB.out)).self HE15.out)
       clear hown hlow)
    | (at_builtin; refine wpList_append_rd rfl (.tmp 61) (.tmp 62) 22 rfl .u8 w15.heap.size 5 Try.underlying22 info8 (by decide) _ [] rfl (own_empty w15 (Nat.le_refl _)) _ _ rfl HR15.out (by rw [ns_len]; show (0 + _) * 1 ≤ _; omega) (by simp) w15.heap.size w15 HE15.out (Nat.le_refl _) ?_; intro u16 w16 hown hlow _
       rw [List.nil_append] at hown
       have HO16 := hid hown
       have HL16 := hid hlow
       obtain ⟨p16, c16, rfl⟩ := hown.noRow
       rw [ns_len] at HO16 ⊢
       clear hown hlow))
  have HS18 := hid (HS15.out.self HL16.out)
  have HO18 := hid (HO15.out.self HL16.out)
  have HT18 := hid (HT15.out.self HL16.out)
  have HFB : Hid (∀ j, j < 16 → (xorF (blkF Y 10 β) δ) j < 256) := hid (HHB.out)
  have HQ18 : Hid (Kept b w16 (.slice p16 16 c16) (ns 16 (xorF (blkF Y 10 β) δ))) := hid (kept_own HO16.out (by have := HS15.out.gc.lt; exact this) (by decide) HFB.out)
  have HC18 : Hid (16 ≤ c16) := hid (by
    obtain ⟨p4, c4, e4, hc4, -⟩ := HO16.out.slice
    injection e4 with _ _ e5
    rw [ns_len] at hc4
    omega)
  have hdr : Below w16.heap.size w16 w16.drew := (Below.refl _ _).drew
  have HS19 := hid (HS18.out.self hdr)
  have HO19 := hid (HO18.out.self hdr)
  have HT19 := hid (HT18.out.self hdr)
  have HQ19 := hid (HQ18.out.self hdr)
  clear hdr
  refine wp_region_noPanic ?_
  refine wp_region_held_drew (S := fun w' => True) (by kernel_rfl) (trivial) (fun h0 => ?_)
  generalize w16.drew = w19 at *
  refine wpAnyH_take (i := 0) (v := .pointer (some ⟨d, 0, none⟩)) rfl (by kernel_rfl) (by kernel_rfl) (by kernel_rfl) (fun _ _ _ h => h) (.inl ⟨by rfl, fun w hw => by clear hw; go_simp⟩) h0 ?_
  try simp only [Act.put, lay_out]
  refine wpAnyH_take (i := 1) (v := .slice (some ⟨w.heap.size + 1, 0, none⟩) 16 16) rfl (by kernel_rfl) (by kernel_rfl) (by kernel_rfl) (fun _ _ _ h => h) (.inl ⟨by rfl, fun w hw => by clear hw; go_simp⟩) h0 ?_
  try simp only [Act.put, lay_out]
  refine wpAnyH_take (i := 3) (v := .slice (some ⟨o, 0, none⟩) 16 16) rfl (by kernel_rfl) (by kernel_rfl) (by kernel_rfl) (fun _ _ _ h => h) (.inl ⟨by rfl, fun w hw => by clear hw; go_simp⟩) h0 ?_
  try simp only [Act.put, lay_out]
  refine wpAnyH_ready (rs := [2]) (by kernel_rfl) (by simp) (AllReadyH.cons rfl (fun K hK => ?_) AllReadyH.nil)
  rw [if_pos (by rfl)]
  go_simp
  go_at_call 12
  (with_reducible refine (msum_any d b c cap 10 11 16 16 Y β (some ⟨w.heap.size + 1, 0, none⟩) w19 HS19.out.gc HBA.out (Nat.le_refl _) (kept_wd (Wd.of_at HS19.out.beg HBA.out) HS19.out.num.2 (by decide))).mono ?_); rintro e w20 ⟨g20, rfl, hte⟩
  rw [HGO.out] at hte
  have HS20 := hid (HS19.out.asked hte.gc hte.low)
  have HT20 := hid (at_asked HT19.out hte.low HG14.out)
  have HQ20 := hid (HQ19.out.later hte.low)
  have HSM := hid (same_wd g20 o 16 16 _ w20 (Wd.of_at hte.tag HOB.out) (Wd.of_at (at_asked HO19.out hte.low (by have := HN9.out.2.2; omega)) HOB.out))
  clear hte
  refine hK.out _ _ (trivial) (fun h1x => ?_)
  clear hK K
  try simp only [Act.put, lay_out]
  refine wpAnyH_ready (rs := [4]) (by kernel_rfl) (by simp) (AllReadyH.cons rfl (fun K hK => ?_) AllReadyH.nil)
  rw [if_pos (by rfl)]
  go_simp
  go_at_call 11
  (with_reducible refine (HSM.out).mono ?_); rintro e w20 ⟨rfl, rfl⟩
  refine hK.out _ _ (trivial) (fun h2x => ?_)
  clear hK K
  try simp only [Act.put, lay_out]
  refine wpAnyH_take (i := 5) (v := .bool false) rfl (by kernel_rfl) (by kernel_rfl) (by kernel_rfl) (fun _ _ _ h => h) (y_not (by rfl) 4 (.tmp 75) true rfl rfl) h2x ?_
  try simp only [Act.put, lay_out]
  refine wpAnyH_done (by kernel_rfl) ?_ _
  refine NoPanic.normal ?_
  clear h0 h1x h2x
  try simp only [Act.put, lay_out]
  go_wp2_with (first
    | (go_at_call 12; (with_reducible refine (msum_any d b c cap 10 11 16 c16 Y (xorF (blkF Y 10 β) δ) p16 w20 HS20.out.gc HFB.out HC18.out HQ20.out).mono ?_); rintro q w21 ⟨g21, rfl, hte⟩
       have HS21 := hid (HS20.out.asked hte.gc hte.low)
       have HSN := hid (same_wd g14 g21 16 16 _ w21 (Wd.of_at (at_asked HT20.out hte.low HG14.out) (tagF_b HYB.out B16.zero HT13.out)) (Wd.of_at (hte.tag.ext ((tagF_e (Eq16.refl _) (fun j hj => (thenF_old (by omega)).symm)).trans HGL.out.symm)) (tagF_b HYB.out B16.zero HT13.out)))
       clear hte)
    | (go_at_call 11; (with_reducible refine HSN.out.mono ?_); rintro q w21 ⟨rfl, rfl⟩)
    | (go_at_call 7; (with_reducible refine (cawake_any w21).mono ?_); rintro q w22 ⟨rfl, hlow⟩
       have HL22 := hid ((HL1.out.later HS21.out.low).self hlow)
       clear hlow))
  go_ret
  exact ⟨rfl, HL22.out.low⟩
end Go.Proofs.Yteoiekooaokhaaa
