import Derived.Test.YtiejaedljebbfaaProg
import Derived.Test.YtiejaedljebbfaaCtl
/- CtrTwice. -/
namespace Go.Proofs.Ytiejaedljebbfaa
open Go.RowKit
set_option maxRecDepth 100000

/-- A key of 16 bytes that lies in a block of its own. -/
theorem ky_box {w : World} {g : Nat} {k : Nat → Nat} (hA : At w g 16 39 k) (hk : ∀ i, i < 16 → k i < 256) : ∃ Y, Ky w (.slice (some ⟨g, 0, none⟩) 16 16) 10 11 Y :=
  ⟨_, ky_at g 0 16 4 16 10 11 44 40 (fun x => if x < 16 then k x else 0) w rfl rfl rfl rfl rfl (by decide) (by decide) (by decide) (by decide) (by decide) (Nat.le_refl _) (by decide)
    (fun x => by show (if x < 16 then k x else 0) < 256; split; exact hk x (by assumption); decide) ((Wd.of_at hA hk).ext fun j hj => (if_pos hj).symm)⟩
theorem xorF_back {M : Nat} (x y : Nat → Nat) : ns M (xorF (xorF x y) y) = ns M x := ns_ext fun _ _ => by simp [xorF, Nat.xor_assoc]
theorem xor_comm_ns {M : Nat} (x y : Nat → Nat) : ns M (xorF x y) = ns M (xorF y x) := ns_ext fun _ _ => Nat.xor_comm _ _
/-- Two boxes at a law's start. -/
structure Bx2 (w w0 : World) (k f : Nat → Nat) : Prop where
  key : At w0 w.heap.size 16 39 k
  beg : At w0 (w.heap.size + 1) 16 39 f
  low : Below w.heap.size w w0
theorem Bx2.start (w : World) (k f : Nat → Nat) : Bx2 w ((w.alloc (.cells (ba 16 k) 39)).alloc (.cells (ba 16 f) 39)) k f := by
  refine ⟨(At.new w 16 39 k).alloc _, ?_, ((Below.refl _ w).alloc (Nat.le_refl _) _).alloc (by simp) _⟩
  have := At.new (w.alloc (.cells (ba 16 k) 39)) 16 39 f
  rwa [World.size_alloc] at this
theorem part_kept {b n g off c m a : Nat} {f : Nat → Nat} {w : World} (h : Wd w n g off f) (hg : g ≠ b) (hm : m ≤ 65536) (hn : a + m ≤ n) : Kept b w (.slice (some ⟨g, off + a, none⟩) m c) (ns m (fun j => f (a + j))) := kept_wd (h.part hn) hg hm
theorem ns_later {M : Nat} (Y : Nat → Nat → Nat) (R : Nat) (f : Nat → Nat) (a : Nat) : ns M (fun j => strF Y R f (16 * a + j)) = ns M (strF Y R (lat f a)) := ns_ext fun j _ => (strF_later Y R f a j).symm

set_option maxHeartbeats 12800000 in
theorem twice_0 (κ f δ : Nat → Nat) (dc k M : Nat) (da : Option Addr) (w : World) (hκ : ∀ i, i < 16 → κ i < 256) (hf : ∀ i, i < 16 → f i < 256) (hD : Rd .u8 w (.slice da M dc) (ns M δ)) (hδ : ∀ j, j < M → δ j < 256)
    (hM : M ≤ 500) (hk : k < 256) (ha : k % 40 = 0)  :
    Calls Try.prog 4 #[.agg (ba 16 κ), .agg (ba 16 f), .slice da M dc, .int .u8 k] w fun e w' => e = .returned (.bool true) ∧ Below w.heap.size w w' := by
  have HX := hid (Bx2.start w κ f)
  obtain ⟨Y, hky⟩ := ky_box HX.out.key hκ
  have HN := hid (hky.new _ (Below.refl _ _))
  unfold NewD at HN
  have HKY := hid hky
  have HW : Hid (Wd ((w.alloc (.cells (ba 16 κ) 39)).alloc (.cells (ba 16 f) 39)) 16 (w.heap.size + 1) 0 f) := hid (Wd.of_at HX.out.beg hf)
  have HDR := hid hD
  have HD := hid hδ
  have HB16 : Hid (B16 f) := hid hf
  have hw1 : wrap64 (k : Int) = k := w64 (by omega) (by omega)
  have he : (k : Int) % 40 = 0 := by omega
  have HM := hid hM
  have hM1 : ¬ (M : Int) > 500 := by omega
  have hwm : wrap64 (M : Int) = M := w64 (by omega) (by omega)
  clear hD hδ hM hκ hf hky ha
  go_enter Try.func4, Try.ntmps4
  go_wp2_with (first
    | (go_at_call 8; (with_reducible refine HN.out.mono ?_); rintro e w1 ⟨d, b, c, cap, rfl, hci, hb, hlow⟩
       have HL1 : Hid (Lw b w w1) := hid ⟨HX.out.low.trans (hlow.mono HX.out.low.size), Nat.le_trans HX.out.low.size hb, hci.box.lt⟩
       have HG1 : Hid (Gv w1 d b c cap 10 11 (w.heap.size + 1) 0 16 Y f) := hid ⟨HKY.out.num, hci, HW.out.self hlow, by have := HW.out.lt; omega⟩
       have HK1 : Hid (KL b w1 [(.slice da M dc, ns M δ)]) := hid ((KL.nil.cons (kept_rd (HDR.out.self HX.out.low) hb)).later (Only.of_below hlow))
       clear hci hb hlow)
    | (go_at_call 10; (with_reducible refine (cover_any (.slice da M dc) d b c cap 10 11 (w.heap.size + 1) 0 16 M Y f δ w1 (by have := HM.out; omega) (HK1.out.get m0) (HK1.out.all m0) HD.out HG1.out).mono ?_); rintro e w2 ⟨u2, rfl, hown, hci, ho⟩
       have HL2 := hid (HL1.out.later ho)
       have HG2 := hid (HG1.out.asked hci ho)
       have HD2 : Hid (∀ j, j < M → xorF δ (strF Y 10 f) j < 256) := hid (fun j hj => xorF_b (HD.out j hj) (HG1.out.strb j))
       have HK2 := hid ((HK1.out.later ho).cons (kept_own hown HL1.out.lt (by have := HM.out; omega) HD2.out))
       clear hown hci ho)
    | (go_at_call 10; (with_reducible refine (cover_any u2 d b c cap 10 11 (w.heap.size + 1) 0 16 M Y f (xorF δ (strF Y 10 f)) w2 (by have := HM.out; omega) (HK2.out.get m0) (HK2.out.all m0) HD2.out HG2.out).mono ?_); rintro e w3 ⟨u3, rfl, hown, hci, ho⟩
       have HL3 := hid (HL2.out.later ho)
       have HG3 := hid (HG2.out.asked hci ho)
       have HK3 := hid ((HK2.out.later ho).cons (kept_own hown HL2.out.lt (by have := HM.out; omega) (fun j hj => xorF_b (HD2.out j hj) (HG2.out.strb j))))
       have HS := hid (stream_any d b c cap 10 11 (w.heap.size + 1) 0 16 M Y f w3 (by have := HM.out; omega) HG3.out)
       clear hown hci ho)
    | (go_at_call 9; (with_reducible refine HS.out.mono ?_); rintro e w4 ⟨g4, rfl, hg, hw, hci, ho⟩
       have HL4 := hid (HL3.out.later ho)
       have HG4 := hid (HG3.out.asked hci ho)
       have HK4 := hid ((HK3.out.later ho).cons (kept_wd hw (c := M) (by have := HL3.out.lt; omega) (by have := HM.out; omega)))
       clear hg hw hci ho)
    | (go_at_call 11; have HAT : Calls Try.prog 11 #[.slice (some ⟨w.heap.size + 1, 0, none⟩) 16 16, .int .i64 0] w4 _ := at_ok (w.heap.size + 1) 0 16 f 0 w4 (by decide) HG4.out.cnt
       (with_reducible refine HAT.mono ?_); clear HAT; rintro e w5 ⟨rfl, hown, hlow⟩
       have HL5 := hid (HL4.out.self hlow)
       have HK5 := hid (HK4.out.self hlow)
       have HG5 : Hid (Gv w5 d b c cap 10 11 w4.heap.size 0 16 Y (lat f 0)) := hid ⟨HG4.out.num, HG4.out.ci.self hlow, (wd_own hown (lat_b f 0)).1, by have := HL4.out.lt; omega⟩
       have HS2 := hid (stream_any d b c cap 10 11 w4.heap.size 0 16 M Y (lat f 0) w5 (by have := HM.out; omega) HG5.out)
       clear hown hlow)
    | (go_at_call 9; (with_reducible refine HS2.out.mono ?_); rintro e w6 ⟨g6, rfl, hg, hw, hci, ho⟩
       have HL6 := hid (HL5.out.later ho)
       have HK6 := hid ((HK5.out.later ho).cons (kept_wd hw (c := M) (by have := HL5.out.lt; omega) (by have := HM.out; omega)))
       have HSA := hid (same_ns u3 (.slice da M dc) _ _ w6 (HK6.out.get m2) (HK6.out.get m4) (xorF_back δ (strF Y 10 f)))
       have HSB := hid (same_ns (.slice (some ⟨g4, 0, none⟩) M M) (.slice (some ⟨g6, 0, none⟩) M M) _ _ w6 (HK6.out.get m1) (HK6.out.get m0) (ns_ext fun j _ => by unfold strF; exact blk_e (lat_e (lat_zero HB16.out).symm _) _ (Nat.mod_lt _ (by decide))))
       clear hg hw hci ho)
    | (go_at_call 13; (with_reducible refine HSA.out.mono ?_); rintro e w6 ⟨rfl, rfl⟩)
    | (go_at_call 13; (with_reducible refine HSB.out.mono ?_); rintro e w6 ⟨rfl, rfl⟩)
    | (go_at_call 14; (with_reducible refine (refxor_kept b M (.slice (some ⟨g4, 0, none⟩) M M) (.slice da M dc) (strF Y 10 f) δ w6 (by have := HM.out; omega) HL6.out.lt (HK6.out.get m1) (HK6.out.get m4) (fun j _ => HG3.out.strb j) HD.out).mono ?_); rintro e w7 ⟨u7, rfl, hk7, hlow⟩
       have HL7 := hid (HL6.out.self hlow)
       have HK7 := hid ((HK6.out.self hlow).cons hk7)
       have HSC := hid (same_ns u7 u2 _ _ w7 (HK7.out.get m0) (HK7.out.get m4) (xor_comm_ns (strF Y 10 f) δ))
       clear hk7 hlow)
    | (go_at_call 13; (with_reducible refine HSC.out.mono ?_); rintro e w7 ⟨rfl, rfl⟩)
    | (go_at_call 7; (with_reducible refine (ctrAwake_any w7).mono ?_); rintro e w9 ⟨rfl, hlow⟩
       have HL9 := hid (HL7.out.self hlow)
       clear hlow))
  all_goals go_ret
  all_goals exact ⟨rfl, HL9.out.low⟩

set_option maxHeartbeats 12800000 in
theorem twice_1 (κ f δ : Nat → Nat) (dc k M : Nat) (a : Nat) (da : Option Addr) (w : World) (hκ : ∀ i, i < 16 → κ i < 256) (hf : ∀ i, i < 16 → f i < 256) (hD : Rd .u8 w (.slice da M dc) (ns M δ)) (hδ : ∀ j, j < M → δ j < 256)
    (hM : M ≤ 500) (hk : k < 256) (ha : k % 40 = a) (h0 : 0 < a) :
    Calls Try.prog 4 #[.agg (ba 16 κ), .agg (ba 16 f), .slice da M dc, .int .u8 k] w fun e w' => e = .returned (.bool true) ∧ Below w.heap.size w w' := by
  have HX := hid (Bx2.start w κ f)
  obtain ⟨Y, hky⟩ := ky_box HX.out.key hκ
  have HN := hid (hky.new _ (Below.refl _ _))
  unfold NewD at HN
  have HKY := hid hky
  have HW : Hid (Wd ((w.alloc (.cells (ba 16 κ) 39)).alloc (.cells (ba 16 f) 39)) 16 (w.heap.size + 1) 0 f) := hid (Wd.of_at HX.out.beg hf)
  have HDR := hid hD
  have HD := hid hδ
  have HB16 : Hid (B16 f) := hid hf
  have hw1 : wrap64 (k : Int) = k := w64 (by omega) (by omega)
  have he : (k : Int) % 40 = a := by omega
  have HA : Hid (a < 40) := hid (by omega)
  have ha0 : (a : Int) > 0 := by omega
  have ha1 : (0 : Int) ≤ 16 * (a : Int) := by omega
  have ha2 : (16 * (a : Int)) ≤ 16 * (a : Int) + (M : Int) := by omega
  have hwa : wrap64 (a : Int) = a := w64 (by omega) (by omega)
  have hwb : wrap64 (16 * (a : Int)) = 16 * (a : Int) := w64 (by omega) (by omega)
  have hwc : wrap64 (16 * (a : Int) + (M : Int)) = (16 * (a : Int) + (M : Int)) := w64 (by omega) (by omega)
  have HM := hid hM
  have hM1 : ¬ (M : Int) > 500 := by omega
  have hwm : wrap64 (M : Int) = M := w64 (by omega) (by omega)
  clear hD hδ hM hκ hf hky ha h0
  go_enter Try.func4, Try.ntmps4
  go_wp2_with (first
    | (go_at_call 8; (with_reducible refine HN.out.mono ?_); rintro e w1 ⟨d, b, c, cap, rfl, hci, hb, hlow⟩
       have HL1 : Hid (Lw b w w1) := hid ⟨HX.out.low.trans (hlow.mono HX.out.low.size), Nat.le_trans HX.out.low.size hb, hci.box.lt⟩
       have HG1 : Hid (Gv w1 d b c cap 10 11 (w.heap.size + 1) 0 16 Y f) := hid ⟨HKY.out.num, hci, HW.out.self hlow, by have := HW.out.lt; omega⟩
       have HK1 : Hid (KL b w1 [(.slice da M dc, ns M δ)]) := hid ((KL.nil.cons (kept_rd (HDR.out.self HX.out.low) hb)).later (Only.of_below hlow))
       clear hci hb hlow)
    | (go_at_call 10; (with_reducible refine (cover_any (.slice da M dc) d b c cap 10 11 (w.heap.size + 1) 0 16 M Y f δ w1 (by have := HM.out; omega) (HK1.out.get m0) (HK1.out.all m0) HD.out HG1.out).mono ?_); rintro e w2 ⟨u2, rfl, hown, hci, ho⟩
       have HL2 := hid (HL1.out.later ho)
       have HG2 := hid (HG1.out.asked hci ho)
       have HD2 : Hid (∀ j, j < M → xorF δ (strF Y 10 f) j < 256) := hid (fun j hj => xorF_b (HD.out j hj) (HG1.out.strb j))
       have HK2 := hid ((HK1.out.later ho).cons (kept_own hown HL1.out.lt (by have := HM.out; omega) HD2.out))
       clear hown hci ho)
    | (go_at_call 10; (with_reducible refine (cover_any u2 d b c cap 10 11 (w.heap.size + 1) 0 16 M Y f (xorF δ (strF Y 10 f)) w2 (by have := HM.out; omega) (HK2.out.get m0) (HK2.out.all m0) HD2.out HG2.out).mono ?_); rintro e w3 ⟨u3, rfl, hown, hci, ho⟩
       have HL3 := hid (HL2.out.later ho)
       have HG3 := hid (HG2.out.asked hci ho)
       have HK3 := hid ((HK2.out.later ho).cons (kept_own hown HL2.out.lt (by have := HM.out; omega) (fun j hj => xorF_b (HD2.out j hj) (HG2.out.strb j))))
       have HS := hid (stream_any d b c cap 10 11 (w.heap.size + 1) 0 16 (16 * a + M) Y f w3 (by have := HM.out; have := HA.out; omega) HG3.out)
       rw [show (((16 * a + M) : Nat) : Int) = (16 * (a : Int) + (M : Int)) from by omega] at HS
       clear hown hci ho)
    | (go_at_call 9; (with_reducible refine HS.out.mono ?_); rintro e w4 ⟨g4, rfl, hg, hw, hci, ho⟩
       have HL4 := hid (HL3.out.later ho)
       have HG4 := hid (HG3.out.asked hci ho)
       have HK4 := hid ((HK3.out.later ho).cons (part_kept (a := 16 * a) (m := M) (c := M) hw (by have := HL3.out.lt; omega) (by have := HM.out; omega) (Nat.le_refl _)))
       rw [Nat.zero_add, ns_later] at HK4
       clear hg hw hci ho)
    | (go_at_call 11; have HAT := at_ok (w.heap.size + 1) 0 16 f a w4 (by have := HA.out; omega) HG4.out.cnt
       (with_reducible refine HAT.mono ?_); clear HAT; rintro e w5 ⟨rfl, hown, hlow⟩
       have HL5 := hid (HL4.out.self hlow)
       have HK5 := hid (HK4.out.self hlow)
       have HG5 : Hid (Gv w5 d b c cap 10 11 w4.heap.size 0 16 Y (lat f a)) := hid ⟨HG4.out.num, HG4.out.ci.self hlow, (wd_own hown (lat_b f a)).1, by have := HL4.out.lt; omega⟩
       have HS2 := hid (stream_any d b c cap 10 11 w4.heap.size 0 16 M Y (lat f a) w5 (by have := HM.out; omega) HG5.out)
       clear hown hlow)
    | (go_at_call 9; (with_reducible refine HS2.out.mono ?_); rintro e w6 ⟨g6, rfl, hg, hw, hci, ho⟩
       have HL6 := hid (HL5.out.later ho)
       have HK6 := hid ((HK5.out.later ho).cons (kept_wd hw (c := M) (by have := HL5.out.lt; omega) (by have := HM.out; omega)))
       have HSA := hid (same_ns u3 (.slice da M dc) _ _ w6 (HK6.out.get m2) (HK6.out.get m4) (xorF_back δ (strF Y 10 f)))
       have HSB := hid (same_ns (.slice (some ⟨g4, 16 * a, none⟩) M M) (.slice (some ⟨g6, 0, none⟩) M M) _ _ w6 (HK6.out.get m1) (HK6.out.get m0) rfl)
       clear hg hw hci ho)
    | (go_at_call 13; (with_reducible refine HSA.out.mono ?_); rintro e w6 ⟨rfl, rfl⟩)
    | (go_at_call 13; (with_reducible refine HSB.out.mono ?_); rintro e w6 ⟨rfl, rfl⟩)
    | (go_at_call 13; (with_reducible refine (same_ns _ _ _ _ w6 (rd_zero _ _ δ _) (rd_zero _ _ δ _) rfl).mono ?_); rintro e w6 ⟨rfl, rfl⟩)
    | (go_at_call 7; (with_reducible refine (ctrAwake_any w6).mono ?_); rintro e w9 ⟨rfl, hlow⟩
       have HL9 := hid (HL6.out.self hlow)
       clear hlow))
  all_goals go_ret
  all_goals exact ⟨rfl, HL9.out.low⟩

set_option maxHeartbeats 12800000 in
theorem twice_2 (κ f δ : Nat → Nat) (dc k N : Nat) (da : Option Addr) (w : World) (hκ : ∀ i, i < 16 → κ i < 256) (hf : ∀ i, i < 16 → f i < 256) (hD : Rd .u8 w (.slice da 500 dc) (ns 500 δ)) (hδ : ∀ j, j < 500 → δ j < 256)
    (hM : 500 < N ∧ N ≤ dc) (hk : k < 256) (ha : k % 40 = 0)  :
    Calls Try.prog 4 #[.agg (ba 16 κ), .agg (ba 16 f), .slice da N dc, .int .u8 k] w fun e w' => e = .returned (.bool true) ∧ Below w.heap.size w w' := by
  have HX := hid (Bx2.start w κ f)
  obtain ⟨Y, hky⟩ := ky_box HX.out.key hκ
  have HN := hid (hky.new _ (Below.refl _ _))
  unfold NewD at HN
  have HKY := hid hky
  have HW : Hid (Wd ((w.alloc (.cells (ba 16 κ) 39)).alloc (.cells (ba 16 f) 39)) 16 (w.heap.size + 1) 0 f) := hid (Wd.of_at HX.out.beg hf)
  have HDR := hid hD
  have HD := hid hδ
  have HB16 : Hid (B16 f) := hid hf
  have hw1 : wrap64 (k : Int) = k := w64 (by omega) (by omega)
  have he : (k : Int) % 40 = 0 := by omega
  have hN1 : (N : Int) > 500 := by omega
  have hN2 : (500 : Int) ≤ dc := by omega
  clear hD hδ hM hκ hf hky ha
  go_enter Try.func4, Try.ntmps4
  go_wp2_with (first
    | (go_at_call 8; (with_reducible refine HN.out.mono ?_); rintro e w1 ⟨d, b, c, cap, rfl, hci, hb, hlow⟩
       have HL1 : Hid (Lw b w w1) := hid ⟨HX.out.low.trans (hlow.mono HX.out.low.size), Nat.le_trans HX.out.low.size hb, hci.box.lt⟩
       have HG1 : Hid (Gv w1 d b c cap 10 11 (w.heap.size + 1) 0 16 Y f) := hid ⟨HKY.out.num, hci, HW.out.self hlow, by have := HW.out.lt; omega⟩
       have HK1 : Hid (KL b w1 [(.slice da 500 dc, ns 500 δ)]) := hid ((KL.nil.cons (kept_rd (HDR.out.self HX.out.low) hb)).later (Only.of_below hlow))
       clear hci hb hlow)
    | (go_at_call 10; (with_reducible refine (cover_any (.slice da 500 dc) d b c cap 10 11 (w.heap.size + 1) 0 16 500 Y f δ w1 (by decide) (HK1.out.get m0) (HK1.out.all m0) HD.out HG1.out).mono ?_); rintro e w2 ⟨u2, rfl, hown, hci, ho⟩
       have HL2 := hid (HL1.out.later ho)
       have HG2 := hid (HG1.out.asked hci ho)
       have HD2 : Hid (∀ j, j < 500 → xorF δ (strF Y 10 f) j < 256) := hid (fun j hj => xorF_b (HD.out j hj) (HG1.out.strb j))
       have HK2 := hid ((HK1.out.later ho).cons (kept_own hown HL1.out.lt (by decide) HD2.out))
       clear hown hci ho)
    | (go_at_call 10; (with_reducible refine (cover_any u2 d b c cap 10 11 (w.heap.size + 1) 0 16 500 Y f (xorF δ (strF Y 10 f)) w2 (by decide) (HK2.out.get m0) (HK2.out.all m0) HD2.out HG2.out).mono ?_); rintro e w3 ⟨u3, rfl, hown, hci, ho⟩
       have HL3 := hid (HL2.out.later ho)
       have HG3 := hid (HG2.out.asked hci ho)
       have HK3 := hid ((HK2.out.later ho).cons (kept_own hown HL2.out.lt (by decide) (fun j hj => xorF_b (HD2.out j hj) (HG2.out.strb j))))
       have HS := hid (stream_any d b c cap 10 11 (w.heap.size + 1) 0 16 500 Y f w3 (by decide) HG3.out)
       rw [show ((500 : Nat) : Int) = (500 : Int) from rfl] at HS
       clear hown hci ho)
    | (go_at_call 9; (with_reducible refine HS.out.mono ?_); rintro e w4 ⟨g4, rfl, hg, hw, hci, ho⟩
       have HL4 := hid (HL3.out.later ho)
       have HG4 := hid (HG3.out.asked hci ho)
       have HK4 := hid ((HK3.out.later ho).cons (kept_wd hw (c := 500) (by have := HL3.out.lt; omega) (by decide)))
       clear hg hw hci ho)
    | (go_at_call 11; have HAT : Calls Try.prog 11 #[.slice (some ⟨w.heap.size + 1, 0, none⟩) 16 16, .int .i64 0] w4 _ := at_ok (w.heap.size + 1) 0 16 f 0 w4 (by decide) HG4.out.cnt
       (with_reducible refine HAT.mono ?_); clear HAT; rintro e w5 ⟨rfl, hown, hlow⟩
       have HL5 := hid (HL4.out.self hlow)
       have HK5 := hid (HK4.out.self hlow)
       have HG5 : Hid (Gv w5 d b c cap 10 11 w4.heap.size 0 16 Y (lat f 0)) := hid ⟨HG4.out.num, HG4.out.ci.self hlow, (wd_own hown (lat_b f 0)).1, by have := HL4.out.lt; omega⟩
       have HS2 := hid (stream_any d b c cap 10 11 w4.heap.size 0 16 500 Y (lat f 0) w5 (by decide) HG5.out)
       rw [show ((500 : Nat) : Int) = 500 from rfl] at HS2
       clear hown hlow)
    | (go_at_call 9; (with_reducible refine HS2.out.mono ?_); rintro e w6 ⟨g6, rfl, hg, hw, hci, ho⟩
       have HL6 := hid (HL5.out.later ho)
       have HK6 := hid ((HK5.out.later ho).cons (kept_wd hw (c := 500) (by have := HL5.out.lt; omega) (by decide)))
       have HSA := hid (same_ns u3 (.slice da 500 dc) _ _ w6 (HK6.out.get m2) (HK6.out.get m4) (xorF_back δ (strF Y 10 f)))
       have HSB := hid (same_ns (.slice (some ⟨g4, 0, none⟩) 500 500) (.slice (some ⟨g6, 0, none⟩) 500 500) _ _ w6 (HK6.out.get m1) (HK6.out.get m0) (ns_ext fun j _ => by unfold strF; exact blk_e (lat_e (lat_zero HB16.out).symm _) _ (Nat.mod_lt _ (by decide))))
       clear hg hw hci ho)
    | (go_at_call 13; (with_reducible refine HSA.out.mono ?_); rintro e w6 ⟨rfl, rfl⟩)
    | (go_at_call 13; (with_reducible refine HSB.out.mono ?_); rintro e w6 ⟨rfl, rfl⟩)
    | (go_at_call 14; (with_reducible refine (refxor_kept b 500 (.slice (some ⟨g4, 0, none⟩) 500 500) (.slice da 500 dc) (strF Y 10 f) δ w6 (by decide) HL6.out.lt (HK6.out.get m1) (HK6.out.get m4) (fun j _ => HG3.out.strb j) HD.out).mono ?_); rintro e w7 ⟨u7, rfl, hk7, hlow⟩
       have HL7 := hid (HL6.out.self hlow)
       have HK7 := hid ((HK6.out.self hlow).cons hk7)
       have HSC := hid (same_ns u7 u2 _ _ w7 (HK7.out.get m0) (HK7.out.get m4) (xor_comm_ns (strF Y 10 f) δ))
       clear hk7 hlow)
    | (go_at_call 13; (with_reducible refine HSC.out.mono ?_); rintro e w7 ⟨rfl, rfl⟩)
    | (go_at_call 7; (with_reducible refine (ctrAwake_any w7).mono ?_); rintro e w9 ⟨rfl, hlow⟩
       have HL9 := hid (HL7.out.self hlow)
       clear hlow))
  all_goals go_ret
  all_goals exact ⟨rfl, HL9.out.low⟩

set_option maxHeartbeats 12800000 in
theorem twice_3 (κ f δ : Nat → Nat) (dc k N : Nat) (a : Nat) (da : Option Addr) (w : World) (hκ : ∀ i, i < 16 → κ i < 256) (hf : ∀ i, i < 16 → f i < 256) (hD : Rd .u8 w (.slice da 500 dc) (ns 500 δ)) (hδ : ∀ j, j < 500 → δ j < 256)
    (hM : 500 < N ∧ N ≤ dc) (hk : k < 256) (ha : k % 40 = a) (h0 : 0 < a) :
    Calls Try.prog 4 #[.agg (ba 16 κ), .agg (ba 16 f), .slice da N dc, .int .u8 k] w fun e w' => e = .returned (.bool true) ∧ Below w.heap.size w w' := by
  have HX := hid (Bx2.start w κ f)
  obtain ⟨Y, hky⟩ := ky_box HX.out.key hκ
  have HN := hid (hky.new _ (Below.refl _ _))
  unfold NewD at HN
  have HKY := hid hky
  have HW : Hid (Wd ((w.alloc (.cells (ba 16 κ) 39)).alloc (.cells (ba 16 f) 39)) 16 (w.heap.size + 1) 0 f) := hid (Wd.of_at HX.out.beg hf)
  have HDR := hid hD
  have HD := hid hδ
  have HB16 : Hid (B16 f) := hid hf
  have hw1 : wrap64 (k : Int) = k := w64 (by omega) (by omega)
  have he : (k : Int) % 40 = a := by omega
  have HA : Hid (a < 40) := hid (by omega)
  have ha0 : (a : Int) > 0 := by omega
  have ha1 : (0 : Int) ≤ 16 * (a : Int) := by omega
  have ha2 : (16 * (a : Int)) ≤ 16 * (a : Int) + (500 : Int) := by omega
  have hwa : wrap64 (a : Int) = a := w64 (by omega) (by omega)
  have hwb : wrap64 (16 * (a : Int)) = 16 * (a : Int) := w64 (by omega) (by omega)
  have hwc : wrap64 (16 * (a : Int) + (500 : Int)) = (16 * (a : Int) + (500 : Int)) := w64 (by omega) (by omega)
  have hN1 : (N : Int) > 500 := by omega
  have hN2 : (500 : Int) ≤ dc := by omega
  clear hD hδ hM hκ hf hky ha h0
  go_enter Try.func4, Try.ntmps4
  go_wp2_with (first
    | (go_at_call 8; (with_reducible refine HN.out.mono ?_); rintro e w1 ⟨d, b, c, cap, rfl, hci, hb, hlow⟩
       have HL1 : Hid (Lw b w w1) := hid ⟨HX.out.low.trans (hlow.mono HX.out.low.size), Nat.le_trans HX.out.low.size hb, hci.box.lt⟩
       have HG1 : Hid (Gv w1 d b c cap 10 11 (w.heap.size + 1) 0 16 Y f) := hid ⟨HKY.out.num, hci, HW.out.self hlow, by have := HW.out.lt; omega⟩
       have HK1 : Hid (KL b w1 [(.slice da 500 dc, ns 500 δ)]) := hid ((KL.nil.cons (kept_rd (HDR.out.self HX.out.low) hb)).later (Only.of_below hlow))
       clear hci hb hlow)
    | (go_at_call 10; (with_reducible refine (cover_any (.slice da 500 dc) d b c cap 10 11 (w.heap.size + 1) 0 16 500 Y f δ w1 (by decide) (HK1.out.get m0) (HK1.out.all m0) HD.out HG1.out).mono ?_); rintro e w2 ⟨u2, rfl, hown, hci, ho⟩
       have HL2 := hid (HL1.out.later ho)
       have HG2 := hid (HG1.out.asked hci ho)
       have HD2 : Hid (∀ j, j < 500 → xorF δ (strF Y 10 f) j < 256) := hid (fun j hj => xorF_b (HD.out j hj) (HG1.out.strb j))
       have HK2 := hid ((HK1.out.later ho).cons (kept_own hown HL1.out.lt (by decide) HD2.out))
       clear hown hci ho)
    | (go_at_call 10; (with_reducible refine (cover_any u2 d b c cap 10 11 (w.heap.size + 1) 0 16 500 Y f (xorF δ (strF Y 10 f)) w2 (by decide) (HK2.out.get m0) (HK2.out.all m0) HD2.out HG2.out).mono ?_); rintro e w3 ⟨u3, rfl, hown, hci, ho⟩
       have HL3 := hid (HL2.out.later ho)
       have HG3 := hid (HG2.out.asked hci ho)
       have HK3 := hid ((HK2.out.later ho).cons (kept_own hown HL2.out.lt (by decide) (fun j hj => xorF_b (HD2.out j hj) (HG2.out.strb j))))
       have HS := hid (stream_any d b c cap 10 11 (w.heap.size + 1) 0 16 (16 * a + 500) Y f w3 (by have := HA.out; omega) HG3.out)
       rw [show (((16 * a + 500) : Nat) : Int) = (16 * (a : Int) + (500 : Int)) from by omega] at HS
       clear hown hci ho)
    | (go_at_call 9; (with_reducible refine HS.out.mono ?_); rintro e w4 ⟨g4, rfl, hg, hw, hci, ho⟩
       have HL4 := hid (HL3.out.later ho)
       have HG4 := hid (HG3.out.asked hci ho)
       have HK4 := hid ((HK3.out.later ho).cons (part_kept (a := 16 * a) (m := 500) (c := 500) hw (by have := HL3.out.lt; omega) (by decide) (Nat.le_refl _)))
       rw [Nat.zero_add, ns_later] at HK4
       clear hg hw hci ho)
    | (go_at_call 11; have HAT := at_ok (w.heap.size + 1) 0 16 f a w4 (by have := HA.out; omega) HG4.out.cnt
       (with_reducible refine HAT.mono ?_); clear HAT; rintro e w5 ⟨rfl, hown, hlow⟩
       have HL5 := hid (HL4.out.self hlow)
       have HK5 := hid (HK4.out.self hlow)
       have HG5 : Hid (Gv w5 d b c cap 10 11 w4.heap.size 0 16 Y (lat f a)) := hid ⟨HG4.out.num, HG4.out.ci.self hlow, (wd_own hown (lat_b f a)).1, by have := HL4.out.lt; omega⟩
       have HS2 := hid (stream_any d b c cap 10 11 w4.heap.size 0 16 500 Y (lat f a) w5 (by decide) HG5.out)
       rw [show ((500 : Nat) : Int) = 500 from rfl] at HS2
       clear hown hlow)
    | (go_at_call 9; (with_reducible refine HS2.out.mono ?_); rintro e w6 ⟨g6, rfl, hg, hw, hci, ho⟩
       have HL6 := hid (HL5.out.later ho)
       have HK6 := hid ((HK5.out.later ho).cons (kept_wd hw (c := 500) (by have := HL5.out.lt; omega) (by decide)))
       have HSA := hid (same_ns u3 (.slice da 500 dc) _ _ w6 (HK6.out.get m2) (HK6.out.get m4) (xorF_back δ (strF Y 10 f)))
       have HSB := hid (same_ns (.slice (some ⟨g4, 16 * a, none⟩) 500 500) (.slice (some ⟨g6, 0, none⟩) 500 500) _ _ w6 (HK6.out.get m1) (HK6.out.get m0) rfl)
       clear hg hw hci ho)
    | (go_at_call 13; (with_reducible refine HSA.out.mono ?_); rintro e w6 ⟨rfl, rfl⟩)
    | (go_at_call 13; (with_reducible refine HSB.out.mono ?_); rintro e w6 ⟨rfl, rfl⟩)
    | (go_at_call 7; (with_reducible refine (ctrAwake_any w6).mono ?_); rintro e w9 ⟨rfl, hlow⟩
       have HL9 := hid (HL6.out.self hlow)
       clear hlow))
  all_goals go_ret
  all_goals exact ⟨rfl, HL9.out.low⟩

theorem rd_prefix {w : World} {a : Option Addr} {N c m : Nat} {δ : Nat → Nat} (h : Rd .u8 w (.slice a N c) (ns N δ)) (hm : m ≤ N) (h0 : 0 < m) : Rd .u8 w (.slice a m c) (ns m δ) := by
  obtain ⟨a', c', e, hl, hw, hc⟩ := h
  injection e with e1 e2 e3
  subst e1; subst e3
  rw [ns_len] at hl hc
  have hb : ∀ j, j < N → δ j < 256 := fun j hj => by
    have hz := bounds_u8 (hw (δ j : Int) (List.mem_of_getElem? (ns_at δ hj)))
    omega
  refine ⟨a, c, by rw [ns_len], by rw [ns_len]; exact Nat.le_trans (Nat.mul_le_mul_right _ hm) hl, ns_wf fun j hj => hb j (by omega), fun _ => ?_⟩
  obtain ⟨b, off, rfl, hlt, hcell⟩ := hc (by omega)
  exact ⟨b, off, rfl, hlt, fun j hj => by rw [ns_len] at hj; rw [hcell j (by omega), ns_nth δ (show j < N by omega), ns_nth δ hj]⟩
theorem ctwice_core (κ f : Nat → Nat) (dv : Value) (ds : List Int) (k : Nat) (w : World) (hκ : ∀ i, i < 16 → κ i < 256) (hf : ∀ i, i < 16 → f i < 256) (hd : Rd .u8 w dv ds) (hcap : ∀ a n c, dv = .slice a n c → n ≤ c ∧ c ≤ maxLen) (hk : k < 256) :
    Calls Try.prog 4 #[.agg (ba 16 κ), .agg (ba 16 f), dv, .int .u8 k] w fun e w' => e = .returned (.bool true) ∧ Below w.heap.size w w' := by
  have hdn := ns_of hd
  have hdb : ∀ j, j < ds.length → (fun j => (nth ds j).toNat) j < 256 := fun j _ => nth_lt hd j
  generalize (fun j => (nth ds j).toNat) = δ at *
  generalize ds.length = M at *
  subst hdn
  obtain ⟨da, dc, rfl, -⟩ := id hd
  rw [ns_len] at *
  obtain ⟨hc1, _⟩ := hcap _ _ _ rfl
  by_cases hM : M ≤ 500
  · by_cases ha : k % 40 = 0
    · exact twice_0 κ f δ dc k M da w hκ hf hd hdb hM hk ha
    · exact twice_1 κ f δ dc k M (k % 40) da w hκ hf hd hdb hM hk rfl (by omega)
  · have hd' := rd_prefix hd (show 500 ≤ M by omega) (by decide)
    by_cases ha : k % 40 = 0
    · exact twice_2 κ f δ dc k M da w hκ hf hd' (fun j hj => hdb j (by omega)) ⟨by omega, hc1⟩ hk ha
    · exact twice_3 κ f δ dc k M (k % 40) da w hκ hf hd' (fun j hj => hdb j (by omega)) ⟨by omega, hc1⟩ hk rfl (by omega)
end Go.Proofs.Ytiejaedljebbfaa
