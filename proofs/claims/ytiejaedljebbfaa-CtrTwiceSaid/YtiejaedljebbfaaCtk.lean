import Derived.Test.YtiejaedljebbfaaProg
import Derived.Test.YtiejaedljebbfaaCtj
/- CtrTells, a number or a begin that may not be; a key that may not be. -/
namespace Go.Proofs.Ytiejaedljebbfaa
open Go.RowKit
set_option maxRecDepth 100000

theorem none2_1 {e : Ending} {x : Int} (h : x = 1) (he : e = none2 x) : e = .returned (.tuple #[.slice none 0 0, .int .i64 1]) := by subst h; exact he
theorem outs_neg {n : Int} (h : n < 0) : outs n = true := by unfold outs; rw [decide_eq_true h]; rfl
theorem outs_big {n : Int} (h : n > 65536) : outs n = true := by unfold outs; rw [decide_eq_true h, Bool.or_true]
theorem ckr_16t {q : Bool} (h : q = true) : ckr 16 q = 1 := by subst h; rfl

set_option maxHeartbeats 12800000 in
theorem tells_neg (kb ko kc L R R1 bb bo bc dc M : Nat) (n : Int) (da : Option Addr) (Y : Nat → Nat → Nat) (f δ : Nat → Nat) (w : World) (hr : rnd (L : Int) = R) (hk : Ky w (.slice (some ⟨kb, ko, none⟩) L kc) R R1 Y) (hB : Wd w 16 bb bo f) (hD : Rd .u8 w (.slice da M dc) (ns M δ)) (hδ : ∀ j, j < M → δ j < 256)
    (hM : M ≤ 2000) (hn : n < 0) :
    Calls Try.prog 3 #[.slice (some ⟨kb, ko, none⟩) L kc, .slice (some ⟨bb, bo, none⟩) 16 bc, .slice da M dc, .int .i64 n] w fun e w' => e = .returned (.bool true) ∧ Below w.heap.size w w' := by
  have HRD := hid (fun w => by have := refrounds_any (L : Int) w; rw [hr] at this; exact this)
  have r0 : ((R : Int) == 0) = false := by have := hk.num.2.1; rw [beq_eq_false_iff_ne]; omega
  have HN := hid (hk.new w (Below.refl _ _))
  unfold NewD at HN
  have HKY := hid hk
  have HB := hid hB
  have HDR := hid hD
  have HB16 : Hid (B16 f) := hid hB.byte
  have HD := hid hδ
  have HM := hid (And.intro hM hn)
  have HC2 := hid (fun w => by have := check_any (some ⟨bb, bo, none⟩) 16 bc M w; rw [ckr_16 (outs_ok (by omega))] at this; exact this)
  have HS : Hid (∀ d w, Calls Try.prog 9 #[.pointer (some ⟨d, 0, none⟩), .slice (some ⟨bb, bo, none⟩) 16 bc, .int .i64 n] w (fun e w' => e = .returned (.tuple #[.slice none 0 0, .int .i64 1]) ∧ w' = w)) := hid (fun d w => by
    have := stream_bad (.pointer (some ⟨d, 0, none⟩)) (some ⟨bb, bo, none⟩) 16 bc n w (by rw [ckr_16t (outs_neg hn)]; decide)
    rw [ckr_16t (outs_neg hn)] at this; exact this)
  have HC1 := hid (fun w => by have := check_any (some ⟨bb, bo, none⟩) 16 bc n w; rw [ckr_16t (outs_neg hn)] at this; exact this)
  have HA : Hid (∀ w, Calls Try.prog 11 #[.slice (some ⟨bb, bo, none⟩) 16 bc, .int .i64 n] w (fun e w' => e = .returned (.tuple #[.slice none 0 0, .int .i64 1]) ∧ w' = w)) := hid (fun w => by
    have := at_bad (some ⟨bb, bo, none⟩) 16 bc n w (.inr hn)
    rw [ckr_16t (decide_eq_true hn)] at this; exact this)
  have h1 : ¬ (M : Int) > 2000 := by omega
  have h2 : ¬ n > 2000 := by omega
  clear hr hk hB hD hδ hM
  go_enter Try.func3, Try.ntmps3
  go_wp2_with (first
    | (go_at_call 6; (with_reducible refine (HRD.out _).mono ?_); rintro e w ⟨rfl, rfl⟩)
    | (go_at_call 8; (with_reducible refine HN.out.mono ?_); rintro e w1 ⟨d, b, c, cap, rfl, hci, hb, hlow⟩
       have HL1 : Hid (Lw b w w1) := hid ⟨hlow, hb, hci.box.lt⟩
       have HG1 : Hid (Gv w1 d b c cap R R1 bb bo bc Y f) := hid ⟨HKY.out.num, hci, HB.out.self hlow, by have := HB.out.lt; omega⟩
       have HK1 : Hid (KL b w1 [(.slice da M dc, ns M δ), (.slice (some ⟨bb, bo, none⟩) 16 bc, ns 16 f)]) := hid (((KL.nil.cons (kept_rd (HB.out.rd bc (by decide)) hb)).cons (kept_rd HDR.out hb)).later (Only.of_below hlow))
       clear hci hb hlow)
    | (go_at_call 9; (with_reducible refine (HS.out d w1).mono ?_); rintro e w1 ⟨rfl, rfl⟩)
    | (go_at_call 10; (with_reducible refine (cover_any (.slice da M dc) d b c cap R R1 bb bo bc M Y f δ w1 (by have := HM.out; omega) (HK1.out.get m0) (HK1.out.all m0) HD.out HG1.out).mono ?_); rintro e w3 ⟨u3, rfl, hown, hci, ho⟩
       have HL3 := hid (HL1.out.later ho)
       have HG3 := hid (HG1.out.asked hci ho)
       have HK3 := hid ((HK1.out.later ho).cons (kept_own hown HL1.out.lt (by have := HM.out; omega) (fun j hj => xorF_b (HD.out j hj) (HG1.out.strb j))))
       clear hown hci ho)
    | (go_at_call 11; (with_reducible refine (HA.out w3).mono ?_); rintro e w3 ⟨rfl, rfl⟩)
    | (go_at_call 12; (with_reducible refine (HC1.out _).mono ?_); rintro e w3 ⟨rfl, rfl⟩)
    | (go_at_call 12; (with_reducible refine (HC2.out _).mono ?_); rintro e w3 ⟨rfl, rfl⟩)
    | (go_at_call 15; (with_reducible refine (refstream_kept b bb bo bc R R1 M (.slice (some ⟨kb, ko, none⟩) L kc) Y f w w3 (by have := HM.out; omega) HKY.out HL3.out.low HL3.out.lt HB16.out (HK3.out.get m2)).mono ?_); rintro e w5 ⟨g5, c5, rfl, hk5, hlow⟩
       have HL5 := hid (HL3.out.self hlow)
       have HK5 := hid ((HK3.out.self hlow).cons hk5)
       clear hk5 hlow)
    | (go_at_call 14; (with_reducible refine (refxor_kept b M _ _ δ (strF Y R f) w5 (by have := HM.out; omega) HL5.out.lt (HK5.out.get m2) (HK5.out.get m0) HD.out (fun j _ => HG3.out.strb j)).mono ?_); rintro e w6 ⟨u6, rfl, hk6, hlow⟩
       have HL6 := hid (HL5.out.self hlow)
       have HK6 := hid ((HK5.out.self hlow).cons hk6)
       clear hk6 hlow)
    | (go_at_call 13; (with_reducible refine (same_ns u3 u6 _ _ w6 (HK6.out.get m2) (HK6.out.get m0) rfl).mono ?_); rintro e w6 ⟨rfl, rfl⟩)
    | (go_at_call 7; (with_reducible refine (ctrAwake_any w6).mono ?_); rintro e w9 ⟨rfl, hlow⟩
       have HL9 := hid (HL6.out.self hlow)
       clear hlow))
  go_ret
  exact ⟨rfl, HL9.out.low⟩

set_option maxHeartbeats 12800000 in
theorem tells_big (kb ko kc L R R1 bb bo bc dc M : Nat) (n : Nat) (da : Option Addr) (Y : Nat → Nat → Nat) (f δ : Nat → Nat) (w : World) (hr : rnd (L : Int) = R) (hk : Ky w (.slice (some ⟨kb, ko, none⟩) L kc) R R1 Y) (hB : Wd w 16 bb bo f) (hD : Rd .u8 w (.slice da M dc) (ns M δ)) (hδ : ∀ j, j < M → δ j < 256)
    (hM : M ≤ 2000) (hn : (n : Int) > 65536) (hn2 : n < 9223372036854775808) :
    Calls Try.prog 3 #[.slice (some ⟨kb, ko, none⟩) L kc, .slice (some ⟨bb, bo, none⟩) 16 bc, .slice da M dc, .int .i64 n] w fun e w' => e = .returned (.bool true) ∧ Below w.heap.size w w' := by
  have HRD := hid (fun w => by have := refrounds_any (L : Int) w; rw [hr] at this; exact this)
  have r0 : ((R : Int) == 0) = false := by have := hk.num.2.1; rw [beq_eq_false_iff_ne]; omega
  have HN := hid (hk.new w (Below.refl _ _))
  unfold NewD at HN
  have HKY := hid hk
  have HB := hid hB
  have HDR := hid hD
  have HB16 : Hid (B16 f) := hid hB.byte
  have HD := hid hδ
  have HM := hid (And.intro hM hn2)
  have HC2 := hid (fun w => by have := check_any (some ⟨bb, bo, none⟩) 16 bc M w; rw [ckr_16 (outs_ok (by omega))] at this; exact this)
  have HS : Hid (∀ d w, Calls Try.prog 9 #[.pointer (some ⟨d, 0, none⟩), .slice (some ⟨bb, bo, none⟩) 16 bc, .int .i64 n] w (fun e w' => e = .returned (.tuple #[.slice none 0 0, .int .i64 1]) ∧ w' = w)) := hid (fun d w => by
    have := stream_bad (.pointer (some ⟨d, 0, none⟩)) (some ⟨bb, bo, none⟩) 16 bc n w (by rw [ckr_16t (outs_big hn)]; decide)
    rw [ckr_16t (outs_big hn)] at this; exact this)
  have HC1 := hid (fun w => by have := check_any (some ⟨bb, bo, none⟩) 16 bc n w; rw [ckr_16t (outs_big hn)] at this; exact this)
  have h1 : ¬ (M : Int) > 2000 := by omega
  have h2 : (n : Int) > 2000 := by omega
  have h4 : ¬ (n : Int) ≤ 65536 := by omega
  have h3 : ¬ (n : Int) < 0 := by omega
  clear hr hk hB hD hδ hM
  go_enter Try.func3, Try.ntmps3
  go_wp2_with (first
    | (go_at_call 6; (with_reducible refine (HRD.out _).mono ?_); rintro e w ⟨rfl, rfl⟩)
    | (go_at_call 8; (with_reducible refine HN.out.mono ?_); rintro e w1 ⟨d, b, c, cap, rfl, hci, hb, hlow⟩
       have HL1 : Hid (Lw b w w1) := hid ⟨hlow, hb, hci.box.lt⟩
       have HG1 : Hid (Gv w1 d b c cap R R1 bb bo bc Y f) := hid ⟨HKY.out.num, hci, HB.out.self hlow, by have := HB.out.lt; omega⟩
       have HK1 : Hid (KL b w1 [(.slice da M dc, ns M δ), (.slice (some ⟨bb, bo, none⟩) 16 bc, ns 16 f)]) := hid (((KL.nil.cons (kept_rd (HB.out.rd bc (by decide)) hb)).cons (kept_rd HDR.out hb)).later (Only.of_below hlow))
       clear hci hb hlow)
    | (go_at_call 9; (with_reducible refine (HS.out d w1).mono ?_); rintro e w1 ⟨rfl, rfl⟩)
    | (go_at_call 10; (with_reducible refine (cover_any (.slice da M dc) d b c cap R R1 bb bo bc M Y f δ w1 (by have := HM.out; omega) (HK1.out.get m0) (HK1.out.all m0) HD.out HG1.out).mono ?_); rintro e w3 ⟨u3, rfl, hown, hci, ho⟩
       have HL3 := hid (HL1.out.later ho)
       have HG3 := hid (HG1.out.asked hci ho)
       have HK3 := hid ((HK1.out.later ho).cons (kept_own hown HL1.out.lt (by have := HM.out; omega) (fun j hj => xorF_b (HD.out j hj) (HG1.out.strb j))))
       clear hown hci ho)
    | (go_at_call 11; (with_reducible refine (at_ok bb bo bc f n w3 (by have := HM.out; omega) HG3.out.cnt).mono ?_); rintro e w4 ⟨rfl, hown, hlow⟩
       have HL4 := hid (HL3.out.self hlow)
       have HK4 := hid ((HK3.out.self hlow).cons (kept_own hown HL3.out.lt (by decide) (lat_b f n)))
       clear hown hlow)
    | (go_at_call 12; (with_reducible refine (HC1.out _).mono ?_); rintro e w4 ⟨rfl, rfl⟩)
    | (go_at_call 12; (with_reducible refine (HC2.out _).mono ?_); rintro e w4 ⟨rfl, rfl⟩)
    | (go_at_call 15; (with_reducible refine (refstream_kept b bb bo bc R R1 M (.slice (some ⟨kb, ko, none⟩) L kc) Y f w w4 (by have := HM.out; omega) HKY.out HL4.out.low HL4.out.lt HB16.out (HK4.out.get m3)).mono ?_); rintro e w5 ⟨g5, c5, rfl, hk5, hlow⟩
       have HL5 := hid (HL4.out.self hlow)
       have HK5 := hid ((HK4.out.self hlow).cons hk5)
       clear hk5 hlow)
    | (go_at_call 14; (with_reducible refine (refxor_kept b M _ _ δ (strF Y R f) w5 (by have := HM.out; omega) HL5.out.lt (HK5.out.get m3) (HK5.out.get m0) HD.out (fun j _ => HG3.out.strb j)).mono ?_); rintro e w6 ⟨u6, rfl, hk6, hlow⟩
       have HL6 := hid (HL5.out.self hlow)
       have HK6 := hid ((HK5.out.self hlow).cons hk6)
       clear hk6 hlow)
    | (go_at_call 13; (with_reducible refine (same_ns u3 u6 _ _ w6 (HK6.out.get m3) (HK6.out.get m0) rfl).mono ?_); rintro e w6 ⟨rfl, rfl⟩)
    | (go_at_call 16; (with_reducible refine (reflater_kept b n (.slice (some ⟨bb, bo, none⟩) 16 bc) f w6 (by have := HM.out; omega) HL6.out.lt (HK6.out.get m5) HB16.out).mono ?_); rintro e w8 ⟨g8, c8, rfl, hk8, hlow⟩
       have HL8 := hid (HL6.out.self hlow)
       have HK8 := hid ((HK6.out.self hlow).cons hk8)
       clear hk8 hlow)
    | (go_at_call 13; (with_reducible refine (same_ns (.slice (some ⟨w3.heap.size, 0, none⟩) 16 16) (.slice (some ⟨g8, 0, none⟩) 16 c8) _ _ w8 (HK8.out.get m3) (HK8.out.get m0) rfl).mono ?_); rintro e w8 ⟨rfl, rfl⟩)
    | (go_at_call 7; (with_reducible refine (ctrAwake_any w8).mono ?_); rintro e w9 ⟨rfl, hlow⟩
       have HL9 := hid (HL8.out.self hlow)
       clear hlow))
  go_ret
  exact ⟨rfl, HL9.out.low⟩
end Go.Proofs.Ytiejaedljebbfaa
