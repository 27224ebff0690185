import Derived.Test.YtfjgelialaccdaaProg
import Derived.Test.YtfjgelialaccdaaSpi
/- SpongeTells. -/
namespace Go.Proofs.Ytfjgelialaccdaa
open Go.RowKit

theorem rd_zero_open {w : World} {u : Value} (h : Rd .u8 w u []) : ∃ a c, u = .slice a 0 c := by
  obtain ⟨a, c, e, _⟩ := h
  exact ⟨a, c, e⟩

set_option maxRecDepth 100000 in
set_option maxHeartbeats 1600000 in
theorem stells_long (v : Value) (zs : List Int) (rate mark n : Int) (w : World) (h : Rd .u8 w v zs) (_ : 0 ≤ mark ∧ mark ≤ 255) (hl : 1000 < zs.length) :
    Calls Try.prog 3 #[v, .int .i64 rate, .int .u8 mark, .int .i64 n] w fun e w' => e = .returned (.bool true) ∧ Below w.heap.size w w' := by
  obtain ⟨a, cap, rfl, _⟩ := h
  generalize zs.length = L at *
  have g1 : (1000 : Int) < (L : Int) := by omega
  clear hl
  go_enter Try.func3, Try.ntmps3
  go_wp2_with (first
    | (go_at_call 6; (with_reducible refine (sawake_any _).mono ?_); rintro e w9 ⟨rfl, hl9⟩; have HW9 := hid hl9; clear hl9))
  go_ret
  exact ⟨rfl, HW9.out⟩

set_option maxRecDepth 100000 in
set_option maxHeartbeats 1600000 in
theorem stells_many (v : Value) (zs : List Int) (rate mark n : Int) (w : World) (h : Rd .u8 w v zs) (_ : 0 ≤ mark ∧ mark ≤ 255) (hl : zs.length ≤ 1000) (hn : 1000 < n ∧ n ≤ 65536) :
    Calls Try.prog 3 #[v, .int .i64 rate, .int .u8 mark, .int .i64 n] w fun e w' => e = .returned (.bool true) ∧ Below w.heap.size w w' := by
  obtain ⟨a, cap, rfl, _⟩ := h
  generalize zs.length = L at *
  have g1 : ¬ (1000 : Int) < (L : Int) := by omega
  obtain ⟨g2, g3⟩ := hn
  clear hl
  go_enter Try.func3, Try.ntmps3
  go_wp2_with (first
    | (go_at_call 6; (with_reducible refine (sawake_any _).mono ?_); rintro e w9 ⟨rfl, hl9⟩; have HW9 := hid hl9; clear hl9))
  go_ret
  exact ⟨rfl, HW9.out⟩

set_option maxRecDepth 100000 in
set_option maxHeartbeats 1600000 in
theorem stells_bl (v : Value) (zs : List Int) (rate mark n : Int) (w : World) (h : Rd .u8 w v zs) (hv : CapV v) (hm : 0 ≤ mark ∧ mark ≤ 255) (hl : zs.length ≤ 1000) (hn : n ≤ 1000) (hr : rad rate = false) :
    Calls Try.prog 3 #[v, .int .i64 rate, .int .u8 mark, .int .i64 n] w fun e w' => e = .returned (.bool true) ∧ Below w.heap.size w w' := by
  have HF := hid (sfill_i v zs rate mark w h (by omega) hm)
  have HS := hid (fun w (h : Rd .u8 w v zs) => ssum_i v zs rate mark n w ⟨h, hv⟩ (by omega) hm)
  have HRa := hid (fun k w => srate_i k w)
  have HRb := hid (fun k w => refrate_any k w)
  have HRd := hid (fun w => refrated_any rate w)
  have HR := hid h
  rw [hr] at HRd
  have hk : suK rate n = false := by unfold suK; rw [hr]; rfl
  rw [fiL, fiE, hr] at HF
  rw [suL, suE, hk] at HS
  obtain ⟨a, cap, rfl, _⟩ := h
  obtain ⟨L, eL⟩ : ∃ L, zs.length = L := ⟨_, rfl⟩
  rw [eL] at HF HS HR hl ⊢
  have g1 : ¬ (1000 : Int) < (L : Int) := by omega
  have g2 : ¬ (1000 : Int) < n := by omega
  clear hk hn hm hr hl
  clear eL
  go_enter Try.func3, Try.ntmps3
  go_wp2_with (first
    | (go_at_call 7; (with_reducible refine (HF.out).mono ?_); rintro e w1 ⟨v1, rfl, hr1, hl1⟩; obtain ⟨a1, c1, rfl⟩ := rd_zero_open hr1; have HW1 := hid hl1; clear hr1 hl1)
    | (go_at_call 8; (with_reducible refine (HS.out w1 (HR.out.self HW1.out)).mono ?_); rintro e w2 ⟨v2, rfl, hr2, hl2⟩; obtain ⟨a2, c2, rfl⟩ := rd_zero_open hr2; have HW2 := hid (HW1.out.trans (hl2.mono HW1.out.size)); clear hr2 hl2)
    | (go_at_call 9; (with_reducible refine (HRa.out _ w2).mono ?_); rintro e w3 ⟨rfl, hl3⟩; have HW3 := hid (HW2.out.trans (hl3.mono HW2.out.size)); clear hl3)
    | (go_at_call 10; (with_reducible refine (HRb.out _ w3).mono ?_); rintro e w3 ⟨rfl, rfl⟩)
    | (go_at_call 9; (with_reducible refine (HRa.out _ w3).mono ?_); rintro e w4 ⟨rfl, hl4⟩; have HW4 := hid (HW3.out.trans (hl4.mono HW3.out.size)); clear hl4)
    | (go_at_call 10; (with_reducible refine (HRb.out _ w4).mono ?_); rintro e w4 ⟨rfl, rfl⟩)
    | (go_at_call 11; (with_reducible refine (HRd.out w4).mono ?_); rintro e w4 ⟨rfl, rfl⟩)
    | (go_at_call 6; (with_reducible refine (sawake_any _).mono ?_); rintro e w9 ⟨rfl, hl9⟩; have HW9 := hid (HW4.out.trans (hl9.mono HW4.out.size)); clear hl9))
  go_ret
  exact ⟨rfl, HW9.out⟩

set_option maxRecDepth 100000 in
set_option maxHeartbeats 1600000 in
theorem stells_bb (v : Value) (zs : List Int) (rate mark n : Int) (w : World) (h : Rd .u8 w v zs) (hv : CapV v) (hm : 0 ≤ mark ∧ mark ≤ 255) (hl : zs.length ≤ 1000) (hn : 65536 < n) (hr : rad rate = false) :
    Calls Try.prog 3 #[v, .int .i64 rate, .int .u8 mark, .int .i64 n] w fun e w' => e = .returned (.bool true) ∧ Below w.heap.size w w' := by
  have HF := hid (sfill_i v zs rate mark w h (by omega) hm)
  have HS := hid (fun w (h : Rd .u8 w v zs) => ssum_i v zs rate mark n w ⟨h, hv⟩ (by omega) hm)
  have HRa := hid (fun k w => srate_i k w)
  have HRb := hid (fun k w => refrate_any k w)
  have HRd := hid (fun w => refrated_any rate w)
  have HR := hid h
  rw [hr] at HRd
  have hk : suK rate n = false := by unfold suK; rw [hr]; rfl
  rw [fiL, fiE, hr] at HF
  rw [suL, suE, hk] at HS
  obtain ⟨a, cap, rfl, _⟩ := h
  obtain ⟨L, eL⟩ : ∃ L, zs.length = L := ⟨_, rfl⟩
  rw [eL] at HF HS HR hl ⊢
  have g1 : ¬ (1000 : Int) < (L : Int) := by omega
  have g2 : (1000 : Int) < n := by omega
  have g3 : ¬ n ≤ 65536 := by omega
  have g4 : ¬ n < 0 := by omega
  have g5 : (65536 : Int) < n := hn
  clear hk hn hm hr hl
  clear eL
  go_enter Try.func3, Try.ntmps3
  go_wp2_with (first
    | (go_at_call 7; (with_reducible refine (HF.out).mono ?_); rintro e w1 ⟨v1, rfl, hr1, hl1⟩; obtain ⟨a1, c1, rfl⟩ := rd_zero_open hr1; have HW1 := hid hl1; clear hr1 hl1)
    | (go_at_call 8; (with_reducible refine (HS.out w1 (HR.out.self HW1.out)).mono ?_); rintro e w2 ⟨v2, rfl, hr2, hl2⟩; obtain ⟨a2, c2, rfl⟩ := rd_zero_open hr2; have HW2 := hid (HW1.out.trans (hl2.mono HW1.out.size)); clear hr2 hl2)
    | (go_at_call 9; (with_reducible refine (HRa.out _ w2).mono ?_); rintro e w3 ⟨rfl, hl3⟩; have HW3 := hid (HW2.out.trans (hl3.mono HW2.out.size)); clear hl3)
    | (go_at_call 10; (with_reducible refine (HRb.out _ w3).mono ?_); rintro e w3 ⟨rfl, rfl⟩)
    | (go_at_call 9; (with_reducible refine (HRa.out _ w3).mono ?_); rintro e w4 ⟨rfl, hl4⟩; have HW4 := hid (HW3.out.trans (hl4.mono HW3.out.size)); clear hl4)
    | (go_at_call 10; (with_reducible refine (HRb.out _ w4).mono ?_); rintro e w4 ⟨rfl, rfl⟩)
    | (go_at_call 11; (with_reducible refine (HRd.out w4).mono ?_); rintro e w4 ⟨rfl, rfl⟩)
    | (go_at_call 6; (with_reducible refine (sawake_any _).mono ?_); rintro e w9 ⟨rfl, hl9⟩; have HW9 := hid (HW4.out.trans (hl9.mono HW4.out.size)); clear hl9))
  go_ret
  exact ⟨rfl, HW9.out⟩

set_option maxRecDepth 100000 in
set_option maxHeartbeats 1600000 in
theorem stells_rn (v : Value) (zs : List Int) (rate mark n : Int) (w : World) (h : Rd .u8 w v zs) (hv : CapV v) (hm : 0 ≤ mark ∧ mark ≤ 255) (hl : zs.length ≤ 1000) (hn : n < 0) (hr : rad rate = true) :
    Calls Try.prog 3 #[v, .int .i64 rate, .int .u8 mark, .int .i64 n] w fun e w' => e = .returned (.bool true) ∧ Below w.heap.size w w' := by
  have HF := hid (sfill_i v zs rate mark w h (by omega) hm)
  have HS := hid (fun w (h : Rd .u8 w v zs) => ssum_i v zs rate mark n w ⟨h, hv⟩ (by omega) hm)
  have HRa := hid (fun k w => srate_i k w)
  have HRb := hid (fun k w => refrate_any k w)
  have HRd := hid (fun w => refrated_any rate w)
  have HR := hid h
  rw [hr] at HRd
  have hk : suK rate n = false := by unfold suK; rw [hr]; simp; omega
  rw [suL, suE, hk] at HS
  obtain ⟨q, rfl, hq, hq2⟩ := rad_of hr
  have HF2 := hid (fun w (h : Rd .u8 w v zs) => reffill_any v zs (8 * q) mark w h (by omega) (by omega) hm)
  have HFl := hid (flL_len zs (8 * q) mark)
  have HFm := hid (mis_lt (n := zs.length + 1) (w := 8 * q) (by omega))
  have HFw := hid (flL_bytes (rate := 8 * q) (rd_bytes h) hm)
  rw [fiL, fiE, hr, Int.toNat_natCast] at HF
  have HQ : Hid (zs.length ≤ 1000 ∧ 8 * q ≤ 192) := hid ⟨hl, by omega⟩
  generalize flL zs (8 * q) mark = FL at *
  generalize 8 * q = R at *
  obtain ⟨a, cap, rfl, _⟩ := h
  obtain ⟨L, eL⟩ : ∃ L, zs.length = L := ⟨_, rfl⟩
  rw [eL] at HF HS HR hl ⊢
  rw [eL] at HF2
  have g1 : ¬ (1000 : Int) < (L : Int) := by omega
  have g2 : ¬ (1000 : Int) < n := by omega
  have g3 : n < 0 := by omega
  clear hk hn hm hr hl
  clear hq hq2
  have HEL := hid eL
  clear eL
  go_enter Try.func3, Try.ntmps3
  go_wp2_with (first
    | (go_at_call 7; (with_reducible refine (HF.out).mono ?_); rintro e w1 ⟨v1, rfl, hr1, hl1⟩; have HX1 := hid hr1; have HW1 := hid hl1; clear hr1 hl1)
    | (go_at_call 8; (with_reducible refine (HS.out w1 (HR.out.self HW1.out)).mono ?_); rintro e w2 ⟨v2, rfl, hr2, hl2⟩; obtain ⟨a2, c2, rfl⟩ := rd_zero_open hr2; have HX2 := hid (HX1.out.self hl2); have HY2 := hid hr2; have HW2 := hid (HW1.out.trans (hl2.mono HW1.out.size)); clear hr2 hl2)
    | (go_at_call 9; (with_reducible refine (HRa.out _ w2).mono ?_); rintro e w3 ⟨rfl, hl3⟩; have HX3 := hid (HX2.out.self hl3); have HY3 := hid (HY2.out.self hl3); have HW3 := hid (HW2.out.trans (hl3.mono HW2.out.size)); clear hl3)
    | (go_at_call 10; (with_reducible refine (HRb.out _ w3).mono ?_); rintro e w3 ⟨rfl, rfl⟩)
    | (go_at_call 9; (with_reducible refine (HRa.out _ w3).mono ?_); rintro e w4 ⟨rfl, hl4⟩; have HX4 := hid (HX3.out.self hl4); have HY4 := hid (HY3.out.self hl4); have HW4 := hid (HW3.out.trans (hl4.mono HW3.out.size)); clear hl4)
    | (go_at_call 10; (with_reducible refine (HRb.out _ w4).mono ?_); rintro e w4 ⟨rfl, rfl⟩)
    | (go_at_call 11; (with_reducible refine (HRd.out w4).mono ?_); rintro e w4 ⟨rfl, rfl⟩)
    | (go_at_call 13; (with_reducible refine (HF2.out w4 (HR.out.self HW4.out)).mono ?_); rintro e w5 ⟨v5, rfl, ho5, hl5⟩; have HX5 := hid (HX4.out.self hl5); have HY5 := hid (HY4.out.self hl5); have HZ5 : Hid (Rd .u8 w5 v5 FL) := hid (ho5.rd (by have := HFl.out; have := HFm.out; have := HQ.out; show _ * 1 ≤ _; omega) (fun z hz => WalkArith.wf_u8 (HFw.out z hz))); have HW5 := hid (HW4.out.trans (hl5.mono HW4.out.size)); have HSa := hid (same_ns _ _ _ _ w5 HX5.out HZ5.out rfl); clear hl5 ho5)
    | (go_at_call 12; (with_reducible refine (HSa.out).mono ?_); rintro e w5 ⟨rfl, rfl⟩)
    | (go_at_call 6; (with_reducible refine (sawake_any _).mono ?_); rintro e w9 ⟨rfl, hl9⟩; have HW9 := hid (HW5.out.trans (hl9.mono HW5.out.size)); clear hl9))
  go_ret
  exact ⟨rfl, HW9.out⟩

set_option maxRecDepth 100000 in
set_option maxHeartbeats 1600000 in
theorem stells_rb (v : Value) (zs : List Int) (rate mark n : Int) (w : World) (h : Rd .u8 w v zs) (hv : CapV v) (hm : 0 ≤ mark ∧ mark ≤ 255) (hl : zs.length ≤ 1000) (hn : 65536 < n) (hr : rad rate = true) :
    Calls Try.prog 3 #[v, .int .i64 rate, .int .u8 mark, .int .i64 n] w fun e w' => e = .returned (.bool true) ∧ Below w.heap.size w w' := by
  have HF := hid (sfill_i v zs rate mark w h (by omega) hm)
  have HS := hid (fun w (h : Rd .u8 w v zs) => ssum_i v zs rate mark n w ⟨h, hv⟩ (by omega) hm)
  have HRa := hid (fun k w => srate_i k w)
  have HRb := hid (fun k w => refrate_any k w)
  have HRd := hid (fun w => refrated_any rate w)
  have HR := hid h
  rw [hr] at HRd
  have hk : suK rate n = false := by unfold suK; rw [hr]; simp; omega
  rw [suL, suE, hk] at HS
  obtain ⟨q, rfl, hq, hq2⟩ := rad_of hr
  have HF2 := hid (fun w (h : Rd .u8 w v zs) => reffill_any v zs (8 * q) mark w h (by omega) (by omega) hm)
  have HFl := hid (flL_len zs (8 * q) mark)
  have HFm := hid (mis_lt (n := zs.length + 1) (w := 8 * q) (by omega))
  have HFw := hid (flL_bytes (rate := 8 * q) (rd_bytes h) hm)
  rw [fiL, fiE, hr, Int.toNat_natCast] at HF
  have HQ : Hid (zs.length ≤ 1000 ∧ 8 * q ≤ 192) := hid ⟨hl, by omega⟩
  generalize flL zs (8 * q) mark = FL at *
  generalize 8 * q = R at *
  obtain ⟨a, cap, rfl, _⟩ := h
  obtain ⟨L, eL⟩ : ∃ L, zs.length = L := ⟨_, rfl⟩
  rw [eL] at HF HS HR hl ⊢
  rw [eL] at HF2
  have g1 : ¬ (1000 : Int) < (L : Int) := by omega
  have g2 : (1000 : Int) < n := by omega
  have g3 : ¬ n ≤ 65536 := by omega
  have g4 : ¬ n < 0 := by omega
  have g5 : (65536 : Int) < n := hn
  clear hk hn hm hr hl
  clear hq hq2
  have HEL := hid eL
  clear eL
  go_enter Try.func3, Try.ntmps3
  go_wp2_with (first
    | (go_at_call 7; (with_reducible refine (HF.out).mono ?_); rintro e w1 ⟨v1, rfl, hr1, hl1⟩; have HX1 := hid hr1; have HW1 := hid hl1; clear hr1 hl1)
    | (go_at_call 8; (with_reducible refine (HS.out w1 (HR.out.self HW1.out)).mono ?_); rintro e w2 ⟨v2, rfl, hr2, hl2⟩; obtain ⟨a2, c2, rfl⟩ := rd_zero_open hr2; have HX2 := hid (HX1.out.self hl2); have HY2 := hid hr2; have HW2 := hid (HW1.out.trans (hl2.mono HW1.out.size)); clear hr2 hl2)
    | (go_at_call 9; (with_reducible refine (HRa.out _ w2).mono ?_); rintro e w3 ⟨rfl, hl3⟩; have HX3 := hid (HX2.out.self hl3); have HY3 := hid (HY2.out.self hl3); have HW3 := hid (HW2.out.trans (hl3.mono HW2.out.size)); clear hl3)
    | (go_at_call 10; (with_reducible refine (HRb.out _ w3).mono ?_); rintro e w3 ⟨rfl, rfl⟩)
    | (go_at_call 9; (with_reducible refine (HRa.out _ w3).mono ?_); rintro e w4 ⟨rfl, hl4⟩; have HX4 := hid (HX3.out.self hl4); have HY4 := hid (HY3.out.self hl4); have HW4 := hid (HW3.out.trans (hl4.mono HW3.out.size)); clear hl4)
    | (go_at_call 10; (with_reducible refine (HRb.out _ w4).mono ?_); rintro e w4 ⟨rfl, rfl⟩)
    | (go_at_call 11; (with_reducible refine (HRd.out w4).mono ?_); rintro e w4 ⟨rfl, rfl⟩)
    | (go_at_call 13; (with_reducible refine (HF2.out w4 (HR.out.self HW4.out)).mono ?_); rintro e w5 ⟨v5, rfl, ho5, hl5⟩; have HX5 := hid (HX4.out.self hl5); have HY5 := hid (HY4.out.self hl5); have HZ5 : Hid (Rd .u8 w5 v5 FL) := hid (ho5.rd (by have := HFl.out; have := HFm.out; have := HQ.out; show _ * 1 ≤ _; omega) (fun z hz => WalkArith.wf_u8 (HFw.out z hz))); have HW5 := hid (HW4.out.trans (hl5.mono HW4.out.size)); have HSa := hid (same_ns _ _ _ _ w5 HX5.out HZ5.out rfl); clear hl5 ho5)
    | (go_at_call 12; (with_reducible refine (HSa.out).mono ?_); rintro e w5 ⟨rfl, rfl⟩)
    | (go_at_call 6; (with_reducible refine (sawake_any _).mono ?_); rintro e w9 ⟨rfl, hl9⟩; have HW9 := hid (HW5.out.trans (hl9.mono HW5.out.size)); clear hl9))
  go_ret
  exact ⟨rfl, HW9.out⟩

set_option maxRecDepth 100000 in
set_option maxHeartbeats 1600000 in
theorem stells_ok (v : Value) (zs : List Int) (rate mark n : Int) (w : World) (h : Rd .u8 w v zs) (hv : CapV v) (hm : 0 ≤ mark ∧ mark ≤ 255) (hl : zs.length ≤ 1000) (hn : 0 ≤ n ∧ n ≤ 1000) (hr : rad rate = true) :
    Calls Try.prog 3 #[v, .int .i64 rate, .int .u8 mark, .int .i64 n] w fun e w' => e = .returned (.bool true) ∧ Below w.heap.size w w' := by
  have HF := hid (sfill_i v zs rate mark w h (by omega) hm)
  have HS := hid (fun w (h : Rd .u8 w v zs) => ssum_i v zs rate mark n w ⟨h, hv⟩ (by omega) hm)
  have HRa := hid (fun k w => srate_i k w)
  have HRb := hid (fun k w => refrate_any k w)
  have HRd := hid (fun w => refrated_any rate w)
  have HR := hid h
  rw [hr] at HRd
  have hk : suK rate n = true := by unfold suK; rw [hr]; simp; omega
  rw [suL, suE, hk] at HS
  obtain ⟨q, rfl, hq, hq2⟩ := rad_of hr
  have HF2 := hid (fun w (h : Rd .u8 w v zs) => reffill_any v zs (8 * q) mark w h (by omega) (by omega) hm)
  have HFl := hid (flL_len zs (8 * q) mark)
  have HFm := hid (mis_lt (n := zs.length + 1) (w := 8 * q) (by omega))
  have HFw := hid (flL_bytes (rate := 8 * q) (rd_bytes h) hm)
  rw [fiL, fiE, hr, Int.toNat_natCast] at HF
  obtain ⟨m, rfl⟩ : ∃ m : Nat, n = m := ⟨n.toNat, by omega⟩
  have HS2 := hid (fun w (h : Rd .u8 w v zs) => refsum_any v zs q m mark w h (by omega) ⟨hq, hq2⟩ hm (by omega))
  rw [Int.toNat_natCast, Int.toNat_natCast] at HS
  generalize sumL zs (8 * q) mark m = SL at *
  have HQ : Hid (zs.length ≤ 1000 ∧ 8 * q ≤ 192) := hid ⟨hl, by omega⟩
  generalize flL zs (8 * q) mark = FL at *
  generalize 8 * q = R at *
  obtain ⟨a, cap, rfl, _⟩ := h
  obtain ⟨L, eL⟩ : ∃ L, zs.length = L := ⟨_, rfl⟩
  rw [eL] at HF HS HR hl ⊢
  rw [eL] at HF2
  rw [eL] at HS2
  have g1 : ¬ (1000 : Int) < (L : Int) := by omega
  have g2 : ¬ (1000 : Int) < (m : Int) := by omega
  have g3 : ¬ (m : Int) < 0 := by omega
  have g4 : ¬ (65536 : Int) < (m : Int) := by omega
  clear hk hn hm hr hl
  clear hq hq2
  have HEL := hid eL
  clear eL
  go_enter Try.func3, Try.ntmps3
  go_wp2_with (first
    | (go_at_call 7; (with_reducible refine (HF.out).mono ?_); rintro e w1 ⟨v1, rfl, hr1, hl1⟩; have HX1 := hid hr1; have HW1 := hid hl1; clear hr1 hl1)
    | (go_at_call 8; (with_reducible refine (HS.out w1 (HR.out.self HW1.out)).mono ?_); rintro e w2 ⟨v2, rfl, hr2, hl2⟩; have HX2 := hid (HX1.out.self hl2); have HY2 := hid hr2; have HW2 := hid (HW1.out.trans (hl2.mono HW1.out.size)); clear hr2 hl2)
    | (go_at_call 9; (with_reducible refine (HRa.out _ w2).mono ?_); rintro e w3 ⟨rfl, hl3⟩; have HX3 := hid (HX2.out.self hl3); have HY3 := hid (HY2.out.self hl3); have HW3 := hid (HW2.out.trans (hl3.mono HW2.out.size)); clear hl3)
    | (go_at_call 10; (with_reducible refine (HRb.out _ w3).mono ?_); rintro e w3 ⟨rfl, rfl⟩)
    | (go_at_call 9; (with_reducible refine (HRa.out _ w3).mono ?_); rintro e w4 ⟨rfl, hl4⟩; have HX4 := hid (HX3.out.self hl4); have HY4 := hid (HY3.out.self hl4); have HW4 := hid (HW3.out.trans (hl4.mono HW3.out.size)); clear hl4)
    | (go_at_call 10; (with_reducible refine (HRb.out _ w4).mono ?_); rintro e w4 ⟨rfl, rfl⟩)
    | (go_at_call 11; (with_reducible refine (HRd.out w4).mono ?_); rintro e w4 ⟨rfl, rfl⟩)
    | (go_at_call 13; (with_reducible refine (HF2.out w4 (HR.out.self HW4.out)).mono ?_); rintro e w5 ⟨v5, rfl, ho5, hl5⟩; have HX5 := hid (HX4.out.self hl5); have HY5 := hid (HY4.out.self hl5); have HZ5 : Hid (Rd .u8 w5 v5 FL) := hid (ho5.rd (by have := HFl.out; have := HFm.out; have := HQ.out; show _ * 1 ≤ _; omega) (fun z hz => WalkArith.wf_u8 (HFw.out z hz))); have HW5 := hid (HW4.out.trans (hl5.mono HW4.out.size)); have HSa := hid (same_ns _ _ _ _ w5 HX5.out HZ5.out rfl); clear hl5 ho5)
    | (go_at_call 12; (with_reducible refine (HSa.out).mono ?_); rintro e w5 ⟨rfl, rfl⟩)
    | (go_at_call 14; (with_reducible refine (HS2.out w5 (HR.out.self HW5.out)).mono ?_); rintro e w6 ⟨v6, rfl, hr6, hl6⟩; have HY6 := hid (HY5.out.self hl6); have HW6 := hid (HW5.out.trans (hl6.mono HW5.out.size)); have HSb := hid (same_ns _ _ _ _ w6 HY6.out hr6 rfl); clear hl6 hr6)
    | (go_at_call 12; (with_reducible refine (HSb.out).mono ?_); rintro e w6 ⟨rfl, rfl⟩)
    | (go_at_call 6; (with_reducible refine (sawake_any _).mono ?_); rintro e w9 ⟨rfl, hl9⟩; have HW9 := hid (HW6.out.trans (hl9.mono HW6.out.size)); clear hl9))
  go_ret
  exact ⟨rfl, HW9.out⟩
theorem stells_core (v : Value) (zs : List Int) (rate mark n : Int) (w : World) (h : Rd .u8 w v zs) (hv : CapV v) (hm : 0 ≤ mark ∧ mark ≤ 255) :
    Calls Try.prog 3 #[v, .int .i64 rate, .int .u8 mark, .int .i64 n] w fun e w' => e = .returned (.bool true) ∧ Below w.heap.size w w' := by
  by_cases h1 : 1000 < zs.length
  · exact stells_long v zs rate mark n w h hm h1
  by_cases h2 : 65536 < n
  · cases hr : rad rate
    · exact stells_bb v zs rate mark n w h hv hm (by omega) h2 hr
    · exact stells_rb v zs rate mark n w h hv hm (by omega) h2 hr
  by_cases h3 : 1000 < n
  · exact stells_many v zs rate mark n w h hm (by omega) (by omega)
  cases hr : rad rate
  · exact stells_bl v zs rate mark n w h hv hm (by omega) (by omega) hr
  · by_cases h4 : n < 0
    · exact stells_rn v zs rate mark n w h hv hm (by omega) h4 hr
    · exact stells_ok v zs rate mark n w h hv hm (by omega) (by omega) hr
end Go.Proofs.Ytfjgelialaccdaa
