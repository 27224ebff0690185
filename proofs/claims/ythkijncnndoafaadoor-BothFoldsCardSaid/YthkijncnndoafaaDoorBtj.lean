import Derived.Test.YthkijncnndoafaaDoorBtf
import Derived.Test.YthkijncnndoafaaDoorTmc
/- Both: BothFolds, over any machine. -/
namespace Go.Proofs.YthkijncnndoafaaDoor
open Go.RowKit Go.Deep
set_option maxRecDepth 100000
def td0 (n : Nat) (tw : Nat → Nat) : Ms := startD (n : Int) 2000 tw 40 0 40
theorem td0_bq {n : Nat} (hn : n = 2 ∨ n = 3) {tw : Nat → Nat} (htw : ∀ i, i < 40 → tw i < 2 ^ 64) : Bq 0 (td0 n tw) := startD_bq (n : Int) 2000 tw 40 0 40 0 (by omega) (by decide) (by decide) (by omega) htw (by omega) (Nat.le_refl _)
theorem td0_fin {n : Nat} (hn : n = 2 ∨ n = 3) (tw : Nat → Nat) : Fin_ 40 2000 (td0 n tw) 0 0 := ⟨rfl, rfl, rfl, rfl, rfl, rfl, rfl, rfl, rfl, rfl, by show (n : Int) = 2 ∨ (n : Int) = 3; omega⟩
def td1 (n : Nat) (tw : Nat → Nat) (a : Nat) : Ms := cstS (td0 n tw) 3 a
def tdA (n : Nat) (tw : Nat → Nat) (a : Nat) : Nat → Int := cstR (td0 n tw) 3 a
def td2 (n : Nat) (tw : Nat → Nat) (a : Nat) (dom : Bool) (z : Int) : Ms := bfS (td1 n tw a) dom (tdA n tw a) z
def tdR (n : Nat) (tw : Nat → Nat) (a : Nat) (dom : Bool) (z : Int) : Nat → Int := bfR (td1 n tw a) dom (tdA n tw a) z
theorem td_all {n : Nat} (hn : n = 2 ∨ n = 3) {tw : Nat → Nat} (htw : ∀ i, i < 40 → tw i < 2 ^ 64) {a : Nat} (ha : a < 2 ^ 64) (dom : Bool) (z : Int) :
    Bq 6 (td1 n tw a) ∧ Wb (tdA n tw a) ∧ ((td1 n tw a).n = 2 ∨ (td1 n tw a).n = 3) ∧ Bq 426 (td2 n tw a dom z) ∧ (td2 n tw a dom z).e = 0 ∧ (td2 n tw a dom z).dry = false ∧ (td2 n tw a dom z).draws = lgW z * dN (n : Int) ∧
      (vlN (td2 n tw a dom z).v (td2 n tw a dom z).L (tdR n tw a dom z) % 2 = 1 ↔ a % 2 ^ (2 ^ lgW z) ≠ 0) := by
  have hl := lgW_le z
  have h0 := td0_bq hn htw
  have n0 : (td0 n tw).n = 2 ∨ (td0 n tw).n = 3 := (td0_fin hn tw).n
  have h1 : Bq 6 (td1 n tw a) := cstS_bq h0 n0 (i64k 3 (by decide) (by decide)) ha
  have w1 : Wb (tdA n tw a) := cstR_wb h0 (by decide) n0 (i64k 3 (by decide) (by decide)) ha
  have n1 : (td1 n tw a).n = 2 ∨ (td1 n tw a).n = 3 := by rw [show (td1 n tw a).n = (td0 n tw).n from (cstS_ext _ _ _).n]; exact n0
  obtain ⟨f1, r1⟩ := cst_fin (c := a) (td0_fin hn tw) (by decide)
  have hs := (sh_n n0).2.2
  have k1 : 6 + 70 * lgW z ≤ 1000000 := by omega
  obtain ⟨⟨L', _, f2⟩, r2⟩ := bf_fin (dom := dom) (m := lgW z) hl f1 r1 (j := lgW z) (by omega) (by omega)
  have h2 : Bq (6 + 70 * lgW z) (td2 n tw a dom z) := (bfX_bq (dom := dom) hl n1 h1 w1 (j := lgW z) k1).1
  obtain ⟨s1, _⟩ := cs_sf (S := td0 n tw) (c := a) (td0_fin hn tw).wt f1.e
  obtain ⟨s2, _⟩ := bfX_sf (dom := dom) hl f1.wt h1 w1 s1 (j := lgW z) k1 f2.e
  have en : (cstS (td0 n tw) 3 a).n = (n : Int) := (cstS_ext _ _ _).n
  refine ⟨h1, w1, n1, h2.mono (by omega), f2.e, f2.dry, ?_, ?_⟩
  · have e := f2.draws
    rw [en, Nat.zero_add] at e
    exact e
  · rw [show vlN (td2 n tw a dom z).v (td2 n tw a dom z).L (tdR n tw a dom z) = _ from s2.vl]
    exact fo_any (lgW z) a
theorem nth_wdB (f : Nat → Nat) {n j : Nat} (h : j < n) : nth (wdL f n) j = ((f j : Nat) : Int) := by unfold nth wdL; simp [h]
theorem wdL_wfB {f : Nat → Nat} {n : Nat} (h : ∀ i, i < n → f i < 2 ^ 64) : ∀ z ∈ wdL f n, (Lit.int .u64 z).wf = true := fun z hz => by
  unfold wdL at hz
  obtain ⟨i, hi, rfl⟩ := List.mem_map.1 hz
  have := h i (List.mem_range.1 hi)
  exact WalkArith.wf_u64 (by omega)
set_option maxHeartbeats 12800000 in
theorem bfolds2_1 {Pm : World → Nat → Ms → (Nat → Prop) → Prop} (hM : Mach Pm) (hN : MachN Pm) (K : Int) (hK : I64 K) (a : Nat) (ha : a < 2 ^ 64) (Wd : Nat) (hwd : Wd < 256) (hwk : Wd % 6 = 0) (tw : Nat → Nat) (htw : ∀ i, i < 40 → tw i < 2 ^ 64) (W : World) (hp : Pv W) :
    Calls Tryd.prog 3 #[.bool false, .int .i64 K, .int .u64 (a : Int), .int .u8 (Wd : Int), .agg (wa 40 tw)] W fun e w' => e = .returned (.bool true) ∧ Below W.heap.size W w' := by
  obtain ⟨q1, q2, q3, q4, q5, q6, q7, q8⟩ := td_all (n := 2) (by decide) htw ha (isDom K) 2
  have hl : lgW 2 = 1 := by decide
  rw [hl, show (2 : Nat) ^ (2 ^ 1) = 4 by decide] at q8
  rw [hl, show 1 * dN ((2 : Nat) : Int) = 2 by decide] at q7
  have hlow := (Below.refl W.heap.size W).alloc (Nat.le_refl _) (.cells (wa 40 tw) 23)
  obtain ⟨w1, hw1⟩ : ∃ w1, W.alloc (.cells (wa 40 tw) 23) = w1 := ⟨_, rfl⟩
  rw [hw1] at hlow
  have HWJ := hid hlow
  have hp1 := hp.self hlow
  have HP1 := hid hp1
  have HGL : Hid (gpair < w1.heap.size) := hid hp1.1
  have hblk : w1.heap[W.heap.size]? = some (.cells (wa 40 tw) 23 (0, 0)) := by rw [← hw1]; exact heap_alloc_new _ _
  have HBG : Hid (Calls Tryd.prog 4 #[.int .i64 2, .slice (some ⟨W.heap.size, 0, none⟩) 40 40, .int .i64 2000] w1 fun e w' => ∃ p b, e = .returned (.tuple #[.agg (paC p b (.slice none 0 0) (.slice none 0 0)), .bool true]) ∧ Bz Pm w1.heap.size (fun _ => False) w1 w' p b (td0 2 tw) (td0 2 tw)) := hid (by
    have hlen := wdL_len tw 40
    have hrd : RdS .u64 w1 (fun g => g < w1.heap.size) (.slice (some ⟨W.heap.size, 0, none⟩) 40 40) (wdL tw 40) := by
      refine ⟨some ⟨W.heap.size, 0, none⟩, 40, by rw [hlen], by rw [hlen]; exact Nat.le_refl 40, by decide, by rw [hlen]; show 40 * 8 ≤ _; decide, fun z hz => wdL_wfB htw z hz, fun _ => ⟨W.heap.size, 0, rfl, (Array.getElem?_eq_some_iff.1 hblk).1, (Array.getElem?_eq_some_iff.1 hblk).1, fun j hj => ?_⟩⟩
      rw [hlen] at hj
      rw [nth_wdB tw hj, Nat.zero_add]
      exact row_c (i := j) hblk (wa_get tw hj)
    exact lbegins_any hM hN ((2 : Nat) : Int) 2000 (by decide) (by decide) (by decide) tw 40 _ _ hrd)
  have HAW := hid (fun (w : World) (h : Below W.heap.size W w) => bawake_any hM hN w (hp.self h))
  have n0 : (td0 2 tw).n = 2 ∨ (td0 2 tw).n = 3 := .inl rfl
  have HC1a := hid (fun (X' : Nat → Prop) (W' wx : World) (lo p b : Nat) (S2 : Ms) (hz : Bz Pm lo X' W' wx p b (td0 2 tw) S2) => qpub hM (shI hM) a hz (td0_bq (n := 2) (by decide) htw) (by decide) n0 ha)
  have HC2a := hid (fun (X' : Nat → Prop) (W' wx : World) (lo p b : Nat) (S2 : Ms) (hz : Bz Pm lo X' W' wx p b (td1 2 tw a) S2) (hpv : Pv wx) (hg : gpair < lo) => qfold hM K (tdA 2 tw a) 2 hz hpv hg q1 (by decide) q3 hK q2)
  have HB2 := hid q4
  have HE2 := hid q5
  have HY2 := hid q6
  have HD2 := hid q7
  have HRD : Hid (∀ w, Calls Tryd.prog 11 #[.int .i64 2] w fun e w' => e = .returned (.int .i64 2) ∧ w' = w) := hid (fun w => rbdr_any 2 w)
  obtain ⟨qq, hqq⟩ : ∃ qq, decide (a % 4 ≠ 0) = qq := ⟨_, rfl⟩
  obtain ⟨v5, hv5⟩ : ∃ v5, vlN (td2 2 tw a (isDom K) 2).v (td2 2 tw a (isDom K) 2).L (tdR 2 tw a (isDom K) 2) = v5 := ⟨_, rfl⟩
  rw [hv5] at q8
  have e22 : ((v5 : Int)).tmod 2 = ((v5 % 2 : Nat) : Int) := by rw [Int.tmod_eq_emod_of_nonneg (by omega)]; omega
  obtain ⟨m5, hm5⟩ : ∃ m5, v5 % 2 = m5 := ⟨_, rfl⟩
  rw [hm5] at e22 q8
  have hm2 : m5 < 2 := by omega
  have e23 : ((m5 : Int) == 1) = qq := by
    rw [← hqq]
    by_cases h : m5 = 1
    · rw [decide_eq_true (q8.1 h), h]; rfl
    · rw [decide_eq_false (fun h2 => h (q8.2 h2))]; simp; omega
  have HV5 := hid hv5
  have e62 : ((a : Int)).tmod 4 = ((a % 4 : Nat) : Int) := by rw [Int.tmod_eq_emod_of_nonneg (by omega)]; omega
  obtain ⟨r, hr⟩ : ∃ r, a % 4 = r := ⟨_, rfl⟩
  rw [hr] at e62
  have e63 : ((r : Int) != 0) = qq := by rw [← hqq, ← hr]; by_cases h : a % 4 = 0 <;> simp [h] <;> omega
  have er : ((Wd : Int)).tmod 6 = 0 := by rw [Int.tmod_eq_emod_of_nonneg (by omega)]; omega
  have ew : IntKind.i64.wrap (Wd : Int) = (Wd : Int) := by rw [IntKind.wrap_i64]; omega
  have HW := hid hw1
  clear q1 q2 q3 q4 q5 q6 q7 q8 hl hlow hp1 hblk hw1 htw hp hK n0 hqq hv5 hm5 hm2 hwd hwk ha hr
  have HS2 : Hid (td2 2 tw a (isDom K) 2 = bfS (td1 2 tw a) (isDom K) (tdA 2 tw a) 2 ∧ tdR 2 tw a (isDom K) 2 = bfR (td1 2 tw a) (isDom K) (tdA 2 tw a) 2) := hid ⟨rfl, rfl⟩
  have HS1 : Hid (td1 2 tw a = cstS (td0 2 tw) 3 a ∧ tdA 2 tw a = cstR (td0 2 tw) 3 a) := hid ⟨rfl, rfl⟩
  simp only [← HS2.out.1, ← HS2.out.2] at HC2a
  simp only [← HS1.out.1, ← HS1.out.2] at HC1a
  clear HS2 HS1
  obtain ⟨S2, hS2⟩ : ∃ S2, td2 2 tw a (isDom K) 2 = S2 := ⟨_, rfl⟩
  obtain ⟨R2, hR2⟩ : ∃ R2, tdR 2 tw a (isDom K) 2 = R2 := ⟨_, rfl⟩
  simp only [hS2, hR2] at HC2a HB2 HE2 HY2 HD2 HV5
  clear hS2 hR2
  obtain ⟨S1, hS1⟩ : ∃ S1, td1 2 tw a = S1 := ⟨_, rfl⟩
  obtain ⟨A1, hA1⟩ : ∃ A1, tdA 2 tw a = A1 := ⟨_, rfl⟩
  simp only [hS1, hA1] at HC1a HC2a
  clear hS1 hA1
  obtain ⟨sN, hsN⟩ : ∃ sN : Nat → Nat, ∀ i, 2 ^ i = sN i := ⟨_, fun _ => rfl⟩
  have HSN : Hid (∀ i, 2 * sN i = sN (i + 1)) := hid (fun i => by rw [← hsN i, ← hsN (i + 1), Nat.pow_succ, Nat.mul_comm])
  have HS0 : Hid (sN 0 = 1) := hid (hsN 0).symm
  have HSK : Hid (sN 1 = 2) := hid (hsN 1).symm
  have HSB : Hid (∀ i, i ≤ 6 → sN i ≤ 64) := hid (fun i hi => by rw [← hsN i]; exact Nat.le_trans (Nat.pow_le_pow_right (by decide) hi) (by decide))
  clear hsN
  go_enter Tryd.func3, Tryd.ntmps3
  go_upto_region 1 with fail
  rw [HW.out]
  go_upto_region 7 with fail
  go_loopw [13, 14] (fun sv iv wr => ∃ i : Nat, i ≤ 1 ∧ iv = .int .i64 (i : Int) ∧ sv = .int .i64 (sN i : Int) ∧ w1 = wr) (fun _ iv _ => 1 - (intOf iv).toNat)
  case atStart => exact ⟨0, by omega, rfl, by rw [HS0.out]; rfl, rfl⟩
  case round =>
    obtain ⟨i, hi, rfl, rfl, rfl⟩ := hrel
    have hb := HSB.out i (by omega)
    have hn := HSN.out i
    have hb1 := HSB.out (i + 1)
    by_cases hlt : i < 1
    · have j1 : (i : Int) < 1 := by omega
      have j0 : (0 : Int) ≤ (i : Int) := by omega
      have em : IntKind.i64.wrap (2 * (sN i : Int)) = (sN (i + 1) : Int) := by rw [IntKind.wrap_i64]; omega
      clear hb hn hb1
      go_wp2
      go_roundw
      case rel => exact ⟨i + 1, by omega, by go_num, by first | rw [em] | rfl, by first | trivial | rfl⟩
      case measure => simp [intOf]; omega
    · obtain rfl : i = 1 := by omega
      rw [HSK.out]
      rw [show ((1 : Nat) : Int) = 1 from rfl, show ((2 : Nat) : Int) = 2 from rfl]
      clear hb hn hb1 hlt hi HSN HSB HS0 HSK
      go_upto_region 11 with (go_at_call 4; (with_reducible refine (HBG.out).mono ?_); rintro e w2 ⟨p, b, rfl, hz⟩; have Z2 := hid hz; clear hz)
      have H3 := hid ((Gy.start Z2.out).new hM (paC p b (.slice none 0 0) (.slice none 0 0)) 29)
      obtain ⟨b1, hb1⟩ : ∃ b1, w2.heap.size = b1 := ⟨_, rfl⟩
      rw [hb1] at H3
      generalize w2.alloc (.cells #[.pointer (some ⟨p, 0, none⟩), .pointer (some ⟨b, 0, none⟩), .slice none 0 0, .slice none 0 0] 29) = w3' at *
      try rw [hb1]
      clear hb1 HBG HW
      have HC1 := hid (fun (wx : World) (bs : List (Nat × Obj)) (h : Gy Pm w1.heap.size (fun _ => False) w1 w2 wx p b (td0 2 tw) (td0 2 tw) bs) => h.lift (f := 6) (args := #[.pointer (some ⟨p, 0, none⟩), .int .u64 (a : Int)]) (E := fun e => e = .returned (.agg (wdV A1))) (S1' := S1) (S2' := (td0 2 tw)) (fun X' W' hz => HC1a.out X' W' wx _ p b _ hz))
      have HC2 := hid (fun (wx : World) (bs : List (Nat × Obj)) (h : Gy Pm w1.heap.size (fun _ => False) w1 w2 wx p b S1 (td0 2 tw) bs) => h.lift (f := 5) (args := #[.pointer (some ⟨p, 0, none⟩), .int .i64 K, .agg (wdV A1), .int .i64 2]) (E := fun e => e = .returned (.agg (wdV R2))) (S1' := S2) (S2' := (td0 2 tw)) (fun X' W' hz => HC2a.out X' W' wx _ p b _ hz (Pv.bz HP1.out HGL.out h.z) HGL.out))
      have HVL : Hid (∀ (w : World) (bs : List (Nat × Obj)), Gy Pm w1.heap.size (fun _ => False) w1 w2 w p b S2 (td0 2 tw) bs → Calls Tryd.prog 8 #[.pointer (some ⟨p, 0, none⟩)] w fun e w' => (∃ v, e = .returned v ∧ Rd .u64 w' v (wdL S2.v S2.L)) ∧ Below w.heap.size w w') := hid (fun w bs h => (zvalues hM h.z HB2.out (by decide)).mono fun _ _ ⟨v, e1, e2, e3⟩ => ⟨⟨v, e1, by rw [show S2.keep S2.L = S2.L by unfold Ms.keep; rw [HY2.out]; rfl] at e2; exact e2⟩, e3⟩)
      have HVV : Hid (∀ (v : Value) (w : World), Rd .u64 w v (wdL S2.v S2.L) → Calls Tryd.prog 7 #[v, .agg (wdV R2)] w fun e w' => e = .returned (.int .u64 (v5 : Nat)) ∧ Below w.heap.size w w') := hid (fun v w h => by
        have := (shI hM).value v _ _ R2 w h (fun i hi => HB2.out.v i hi)
        rw [HV5.out] at this
        exact this)
      have HER : Hid (∀ (w : World) (bs : List (Nat × Obj)), Gy Pm w1.heap.size (fun _ => False) w1 w2 w p b S2 (td0 2 tw) bs → Calls Tryd.prog 9 #[.pointer (some ⟨p, 0, none⟩)] w fun e w' => e = .returned (.int .i64 0) ∧ Below w.heap.size w w') := hid (fun w bs h => by
        have := zerr hM h.z HB2.out (by decide)
        rw [HE2.out] at this
        exact this)
      have HDW : Hid (∀ (w : World) (bs : List (Nat × Obj)), Gy Pm w1.heap.size (fun _ => False) w1 w2 w p b S2 (td0 2 tw) bs → Calls Tryd.prog 10 #[.pointer (some ⟨p, 0, none⟩)] w fun e w' => e = .returned (.int .i64 2) ∧ Below w.heap.size w w') := hid (fun w bs h => by
        have := zdraws hM h.z HB2.out (by decide)
        rw [HD2.out] at this
        exact this)
      clear HC1a HC2a HV5 HE2 HD2
      go_upto_region 13 with fail
      go_cut [17] from 40 to 48 (fun q3 wx => ∃ b3, q3 = .pointer (some ⟨b3, 0, none⟩) ∧ Gy Pm w1.heap.size (fun _ => False) w1 w2 wx p b S2 (td0 2 tw) [(b3, .cells (wdV R2) 34 (0, 0)), (b1, .cells (paC p b (.slice none 0 0) (.slice none 0 0)) 29 (0, 0))])
      case first =>
        have G0 := hid (H3.out.self hM ((Below.refl _ w3').drew))
        refine wp_region_noPanic ?_
        refine wp_region_held_drew (S := fun w' => w'.heap[b1]? = some (.cells (paC p b (.slice none 0 0) (.slice none 0 0)) 29 (0, 0))) (by kernel_rfl) (G0.out.mem (by simp)) (fun h0 => ?_)
        generalize w3'.drew = q0 at *
        refine wpAnyH_take (i := 0) (v := .pointer (some ⟨b1, 0, none⟩)) rfl (by kernel_rfl) (by kernel_rfl) (by kernel_rfl) (fun _ _ _ h => h) (.inl ⟨by rfl, fun w hw => by clear hw; go_simp⟩) h0 ?_
        try simp only [Act.put, lay_out]
        refine wpAnyH_take (i := 1) (v := .pointer (some ⟨p, 0, none⟩)) rfl (by kernel_rfl) (by kernel_rfl) (by kernel_rfl) (fun _ _ _ h => h) (.inl ⟨by rfl, fun w' hw => by have hc := row_c (i := 0) (u := .pointer (some ⟨p, 0, none⟩)) hw rfl; clear hw; go_simp⟩) h0 ?_
        try simp only [Act.put, lay_out]
        refine wpAnyH_take (i := 3) (v := .pointer (some ⟨b1, 0, none⟩)) rfl (by kernel_rfl) (by kernel_rfl) (by kernel_rfl) (fun _ _ _ h => h) (.inl ⟨by rfl, fun w hw => by clear hw; go_simp⟩) h0 ?_
        try simp only [Act.put, lay_out]
        refine wpAnyH_take (i := 4) (v := .pointer (some ⟨p, 0, none⟩)) rfl (by kernel_rfl) (by kernel_rfl) (by kernel_rfl) (fun _ _ _ h => h) (.inl ⟨by rfl, fun w' hw => by have hc := row_c (i := 0) (u := .pointer (some ⟨p, 0, none⟩)) hw rfl; clear hw; go_simp⟩) h0 ?_
        try simp only [Act.put, lay_out]
        refine wpAnyH_take (i := 2) (v := .int .i64 K) rfl (by kernel_rfl) (by kernel_rfl) (by kernel_rfl) (fun _ _ _ h => h) (.inl ⟨by rfl, fun w hw => by clear hw; go_simp⟩) h0 ?_
        try simp only [Act.put, lay_out]
        refine wpAnyH_take (i := 5) (v := .int .u64 (a : Int)) rfl (by kernel_rfl) (by kernel_rfl) (by kernel_rfl) (fun _ _ _ h => h) (.inl ⟨by rfl, fun w hw => by clear hw; go_simp⟩) h0 ?_
        try simp only [Act.put, lay_out]
        refine wpAnyH_take (i := 7) (v := .int .i64 2) rfl (by kernel_rfl) (by kernel_rfl) (by kernel_rfl) (fun _ _ _ h => h) (.inl ⟨by rfl, fun w hw => by clear hw; go_simp⟩) h0 ?_
        try simp only [Act.put, lay_out]
        refine wpAnyH_ready (rs := [6, 9]) (by kernel_rfl) (by simp) (AllReadyH.cons rfl (fun K hK => ?_) (AllReadyH.cons rfl (fun K hK => ?_) AllReadyH.nil))
        · rw [if_pos (by rfl)]
          go_simp
          go_at_call 6
          (with_reducible refine (HC1.out _ _ G0.out).mono ?_); rintro e q1 ⟨rfl, hz⟩
          have G1 := hid hz
          clear hz
          refine hK.out _ _ (G1.out.mem (by simp)) (fun h1x => ?_)
          clear hK K
          try simp only [Act.put, lay_out]
          refine wpAnyH_ready (rs := [8, 9]) (by kernel_rfl) (by simp) (AllReadyH.cons rfl (fun K hK => ?_) (AllReadyH.cons rfl (fun K hK => ?_) AllReadyH.nil))
          · rw [if_pos (by rfl)]
            go_simp
            go_at_call 5
            (with_reducible refine (HC2.out _ _ G1.out).mono ?_); rintro e q2 ⟨rfl, hz⟩
            have G2 := hid hz
            clear hz
            refine hK.out _ _ (G2.out.mem (by simp)) (fun h2x => ?_)
            clear hK K
            try simp only [Act.put, lay_out]
            refine wpAnyH_ready (rs := [9]) (by kernel_rfl) (by simp) (AllReadyH.cons rfl (fun K hK => ?_) AllReadyH.nil)
            rw [if_pos (by rfl)]
            go_simp
            have G3 := hid (G2.out.new hM #[.int .i64 0, .int .i64 0, .int .i64 0] 34)
            refine hK.out _ _ (G3.out.mem (by simp)) (fun h3x => ?_)
            clear hK K
            try simp only [Act.put, lay_out]
            generalize q2.alloc (.cells #[.int .i64 0, .int .i64 0, .int .i64 0] 34) = q3 at *
            refine wpAnyH_ready (rs := [10]) (by kernel_rfl) (by simp) (AllReadyH.cons rfl (fun K hK => ?_) AllReadyH.nil)
            rw [if_pos (by rfl)]
            refine wp_store_row 34 _ _ rfl (q2.heap.size) (wdV R2) rfl rfl 34 _ (G3.out.bl 0 rfl) (by kernel_rfl) rfl (by kernel_rfl) ?_
            have G4 := hid (G3.out.row hM (wdV R2))
            refine hK.out _ _ (G4.out.mem (by simp)) (fun h4x => ?_)
            clear hK K
            try simp only [Act.put, lay_out]
            refine wpAnyH_done (by kernel_rfl) ?_ _
            refine NoPanic.normal ?_
            clear h0 h1x h2x h3x h4x
            try simp only [Act.put, lay_out]
            go_wp2_with fail
            go_meet
            exact ⟨_, rfl, G4.out⟩
          · rw [if_pos (by rfl)]
            go_simp
            have G2 := hid (G1.out.new hM #[.int .i64 0, .int .i64 0, .int .i64 0] 34)
            refine hK.out _ _ (G2.out.mem (by simp)) (fun h2x => ?_)
            clear hK K
            try simp only [Act.put, lay_out]
            generalize q1.alloc (.cells #[.int .i64 0, .int .i64 0, .int .i64 0] 34) = q2 at *
            refine wpAnyH_ready (rs := [8]) (by kernel_rfl) (by simp) (AllReadyH.cons rfl (fun K hK => ?_) AllReadyH.nil)
            rw [if_pos (by rfl)]
            go_simp
            go_at_call 5
            (with_reducible refine (HC2.out _ _ G2.out).mono ?_); rintro e q3 ⟨rfl, hz⟩
            have G3 := hid hz
            clear hz
            refine hK.out _ _ (G3.out.mem (by simp)) (fun h3x => ?_)
            clear hK K
            try simp only [Act.put, lay_out]
            refine wpAnyH_ready (rs := [10]) (by kernel_rfl) (by simp) (AllReadyH.cons rfl (fun K hK => ?_) AllReadyH.nil)
            rw [if_pos (by rfl)]
            refine wp_store_row 34 _ _ rfl (q1.heap.size) (wdV R2) rfl rfl 34 _ (G3.out.bl 0 rfl) (by kernel_rfl) rfl (by kernel_rfl) ?_
            have G4 := hid (G3.out.row hM (wdV R2))
            refine hK.out _ _ (G4.out.mem (by simp)) (fun h4x => ?_)
            clear hK K
            try simp only [Act.put, lay_out]
            refine wpAnyH_done (by kernel_rfl) ?_ _
            refine NoPanic.normal ?_
            clear h0 h1x h2x h3x h4x
            try simp only [Act.put, lay_out]
            go_wp2_with fail
            go_meet
            exact ⟨_, rfl, G4.out⟩
        · rw [if_pos (by rfl)]
          go_simp
          have G1 := hid (G0.out.new hM #[.int .i64 0, .int .i64 0, .int .i64 0] 34)
          refine hK.out _ _ (G1.out.mem (by simp)) (fun h1x => ?_)
          clear hK K
          try simp only [Act.put, lay_out]
          generalize q0.alloc (.cells #[.int .i64 0, .int .i64 0, .int .i64 0] 34) = q1 at *
          refine wpAnyH_ready (rs := [6]) (by kernel_rfl) (by simp) (AllReadyH.cons rfl (fun K hK => ?_) AllReadyH.nil)
          rw [if_pos (by rfl)]
          go_simp
          go_at_call 6
          (with_reducible refine (HC1.out _ _ G1.out).mono ?_); rintro e q2 ⟨rfl, hz⟩
          have G2 := hid hz
          clear hz
          refine hK.out _ _ (G2.out.mem (by simp)) (fun h2x => ?_)
          clear hK K
          try simp only [Act.put, lay_out]
          refine wpAnyH_ready (rs := [8]) (by kernel_rfl) (by simp) (AllReadyH.cons rfl (fun K hK => ?_) AllReadyH.nil)
          rw [if_pos (by rfl)]
          go_simp
          go_at_call 5
          (with_reducible refine (HC2.out _ _ G2.out).mono ?_); rintro e q3 ⟨rfl, hz⟩
          have G3 := hid hz
          clear hz
          refine hK.out _ _ (G3.out.mem (by simp)) (fun h3x => ?_)
          clear hK K
          try simp only [Act.put, lay_out]
          refine wpAnyH_ready (rs := [10]) (by kernel_rfl) (by simp) (AllReadyH.cons rfl (fun K hK => ?_) AllReadyH.nil)
          rw [if_pos (by rfl)]
          refine wp_store_row 34 _ _ rfl (q0.heap.size) (wdV R2) rfl rfl 34 _ (G3.out.bl 0 rfl) (by kernel_rfl) rfl (by kernel_rfl) ?_
          have G4 := hid (G3.out.row hM (wdV R2))
          refine hK.out _ _ (G4.out.mem (by simp)) (fun h4x => ?_)
          clear hK K
          try simp only [Act.put, lay_out]
          refine wpAnyH_done (by kernel_rfl) ?_ _
          refine NoPanic.normal ?_
          clear h0 h1x h2x h3x h4x
          try simp only [Act.put, lay_out]
          go_wp2_with fail
          go_meet
          exact ⟨_, rfl, G4.out⟩
      case rest =>
        obtain ⟨b3, rfl, hcut⟩ := hcut
        have H8 := hid hcut
        clear hcut H3 HC1 HC2
        generalize wc = w8 at *
        go_upto_region 14 with fail
        have G0 := hid (H8.out.self hM ((Below.refl _ w8).drew))
        refine wp_region_noPanic ?_
        refine wp_region_held_drew (S := fun w' => w'.heap[b1]? = some (.cells (paC p b (.slice none 0 0) (.slice none 0 0)) 29 (0, 0)) ∧ w'.heap[b3]? = some (.cells (wdV R2) 34 (0, 0))) (by kernel_rfl) (⟨G0.out.bl 1 rfl, G0.out.bl 0 rfl⟩) (fun h0 => ?_)
        generalize w8.drew = y0 at *
        refine wpAnyH_take (i := 0) (v := .pointer (some ⟨b1, 0, none⟩)) rfl (by kernel_rfl) (by kernel_rfl) (by kernel_rfl) (fun _ _ _ h => h) (.inl ⟨by rfl, fun w hw => by clear hw; go_simp⟩) h0 ?_
        try simp only [Act.put, lay_out]
        refine wpAnyH_take (i := 1) (v := .pointer (some ⟨p, 0, none⟩)) rfl (by kernel_rfl) (by kernel_rfl) (by kernel_rfl) (fun _ _ _ h => h) (.inl ⟨by rfl, fun w' hw => by have hc := row_c (i := 0) (u := .pointer (some ⟨p, 0, none⟩)) hw.1 rfl; clear hw; go_simp⟩) h0 ?_
        try simp only [Act.put, lay_out]
        refine wpAnyH_take (i := 3) (v := .agg (wdV R2)) rfl (by kernel_rfl) (by kernel_rfl) (by kernel_rfl) (fun _ _ _ h => h) (yields_load_row (by rfl) 34 _ rfl b3 34 (wdV R2) _ rfl (fun w h => h.2) Tryd.underlying34 rfl (by kernel_rfl)) h0 ?_
        try simp only [Act.put, lay_out]
        refine wpAnyH_ready (rs := [2]) (by kernel_rfl) (by simp) (AllReadyH.cons rfl (fun K hK => ?_) AllReadyH.nil)
        rw [if_pos (by rfl)]
        go_simp
        go_at_call 8
        (with_reducible refine (HVL.out _ _ G0.out).mono ?_); rintro e y1 ⟨⟨v, rfl, hv⟩, hb⟩
        have G1 := hid (G0.out.self hM hb)
        have V1 := hid hv
        clear hb hv
        refine hK.out _ _ (⟨G1.out.bl 1 rfl, G1.out.bl 0 rfl⟩) (fun h1x => ?_)
        clear hK K
        try simp only [Act.put, lay_out]
        refine wpAnyH_ready (rs := [4]) (by kernel_rfl) (by simp) (AllReadyH.cons rfl (fun K hK => ?_) AllReadyH.nil)
        rw [if_pos (by rfl)]
        go_simp
        go_at_call 7
        (with_reducible refine (HVV.out _ _ V1.out).mono ?_); rintro e y2 ⟨rfl, hb⟩
        have G2 := hid (G1.out.self hM hb)
        clear hb
        refine hK.out _ _ (⟨G2.out.bl 1 rfl, G2.out.bl 0 rfl⟩) (fun h2x => ?_)
        clear hK K
        try simp only [Act.put, lay_out]
        refine wpAnyH_take (i := 5) (v := .int .u64 (v5 : Int)) rfl (by kernel_rfl) (by kernel_rfl) (by kernel_rfl) (fun _ _ _ h => h) (.inl ⟨by rfl, fun w hw => by clear hw; go_simp⟩) h2x ?_
        try simp only [Act.put, lay_out]
        refine wpAnyH_done (by kernel_rfl) ?_ _
        refine NoPanic.normal ?_
        clear h0 h1x h2x
        try simp only [Act.put, lay_out]
        have c1 := row_c (i := 0) (u := .pointer (some ⟨p, 0, none⟩)) (G2.out.bl 1 rfl) rfl
        go_wp2_with (first
          | (go_at_call 9; (with_reducible refine (HER.out _ _ G2.out).mono ?_); rintro e wA ⟨rfl, hb⟩; have GA := hid (G2.out.self hM hb); clear hb c1; have c2 := row_c (i := 0) (u := .pointer (some ⟨p, 0, none⟩)) (GA.out.bl 1 rfl) rfl)
          | (go_at_call 10; (with_reducible refine (HDW.out _ _ GA.out).mono ?_); rintro e wB ⟨rfl, hb⟩; have GB := hid (GA.out.self hM hb); clear hb c2)
          | (go_at_call 11; (with_reducible refine (HRD.out _).mono ?_); rintro e wC ⟨rfl, rfl⟩)
          | (go_at_call 12; (with_reducible refine (HAW.out _ (HWJ.out.trans (GB.out.z.low.mono HWJ.out.size))).mono ?_); rintro e wz ⟨rfl, hb⟩; have HZ := hid ((HWJ.out.trans (GB.out.z.low.mono HWJ.out.size)).trans (hb.mono (HWJ.out.trans (GB.out.z.low.mono HWJ.out.size)).size)); clear hb))
        go_ret
        exact ⟨rfl, HZ.out⟩
set_option maxHeartbeats 12800000 in
theorem bfolds2_2 {Pm : World → Nat → Ms → (Nat → Prop) → Prop} (hM : Mach Pm) (hN : MachN Pm) (K : Int) (hK : I64 K) (a : Nat) (ha : a < 2 ^ 64) (Wd : Nat) (hwd : Wd < 256) (hwk : Wd % 6 = 1) (tw : Nat → Nat) (htw : ∀ i, i < 40 → tw i < 2 ^ 64) (W : World) (hp : Pv W) :
    Calls Tryd.prog 3 #[.bool false, .int .i64 K, .int .u64 (a : Int), .int .u8 (Wd : Int), .agg (wa 40 tw)] W fun e w' => e = .returned (.bool true) ∧ Below W.heap.size W w' := by
  obtain ⟨q1, q2, q3, q4, q5, q6, q7, q8⟩ := td_all (n := 2) (by decide) htw ha (isDom K) 4
  have hl : lgW 4 = 2 := by decide
  rw [hl, show (2 : Nat) ^ (2 ^ 2) = 16 by decide] at q8
  rw [hl, show 2 * dN ((2 : Nat) : Int) = 4 by decide] at q7
  have hlow := (Below.refl W.heap.size W).alloc (Nat.le_refl _) (.cells (wa 40 tw) 23)
  obtain ⟨w1, hw1⟩ : ∃ w1, W.alloc (.cells (wa 40 tw) 23) = w1 := ⟨_, rfl⟩
  rw [hw1] at hlow
  have HWJ := hid hlow
  have hp1 := hp.self hlow
  have HP1 := hid hp1
  have HGL : Hid (gpair < w1.heap.size) := hid hp1.1
  have hblk : w1.heap[W.heap.size]? = some (.cells (wa 40 tw) 23 (0, 0)) := by rw [← hw1]; exact heap_alloc_new _ _
  have HBG : Hid (Calls Tryd.prog 4 #[.int .i64 2, .slice (some ⟨W.heap.size, 0, none⟩) 40 40, .int .i64 2000] w1 fun e w' => ∃ p b, e = .returned (.tuple #[.agg (paC p b (.slice none 0 0) (.slice none 0 0)), .bool true]) ∧ Bz Pm w1.heap.size (fun _ => False) w1 w' p b (td0 2 tw) (td0 2 tw)) := hid (by
    have hlen := wdL_len tw 40
    have hrd : RdS .u64 w1 (fun g => g < w1.heap.size) (.slice (some ⟨W.heap.size, 0, none⟩) 40 40) (wdL tw 40) := by
      refine ⟨some ⟨W.heap.size, 0, none⟩, 40, by rw [hlen], by rw [hlen]; exact Nat.le_refl 40, by decide, by rw [hlen]; show 40 * 8 ≤ _; decide, fun z hz => wdL_wfB htw z hz, fun _ => ⟨W.heap.size, 0, rfl, (Array.getElem?_eq_some_iff.1 hblk).1, (Array.getElem?_eq_some_iff.1 hblk).1, fun j hj => ?_⟩⟩
      rw [hlen] at hj
      rw [nth_wdB tw hj, Nat.zero_add]
      exact row_c (i := j) hblk (wa_get tw hj)
    exact lbegins_any hM hN ((2 : Nat) : Int) 2000 (by decide) (by decide) (by decide) tw 40 _ _ hrd)
  have HAW := hid (fun (w : World) (h : Below W.heap.size W w) => bawake_any hM hN w (hp.self h))
  have n0 : (td0 2 tw).n = 2 ∨ (td0 2 tw).n = 3 := .inl rfl
  have HC1a := hid (fun (X' : Nat → Prop) (W' wx : World) (lo p b : Nat) (S2 : Ms) (hz : Bz Pm lo X' W' wx p b (td0 2 tw) S2) => qpub hM (shI hM) a hz (td0_bq (n := 2) (by decide) htw) (by decide) n0 ha)
  have HC2a := hid (fun (X' : Nat → Prop) (W' wx : World) (lo p b : Nat) (S2 : Ms) (hz : Bz Pm lo X' W' wx p b (td1 2 tw a) S2) (hpv : Pv wx) (hg : gpair < lo) => qfold hM K (tdA 2 tw a) 4 hz hpv hg q1 (by decide) q3 hK q2)
  have HB2 := hid q4
  have HE2 := hid q5
  have HY2 := hid q6
  have HD2 := hid q7
  have HRD : Hid (∀ w, Calls Tryd.prog 11 #[.int .i64 2] w fun e w' => e = .returned (.int .i64 2) ∧ w' = w) := hid (fun w => rbdr_any 2 w)
  obtain ⟨qq, hqq⟩ : ∃ qq, decide (a % 16 ≠ 0) = qq := ⟨_, rfl⟩
  obtain ⟨v5, hv5⟩ : ∃ v5, vlN (td2 2 tw a (isDom K) 4).v (td2 2 tw a (isDom K) 4).L (tdR 2 tw a (isDom K) 4) = v5 := ⟨_, rfl⟩
  rw [hv5] at q8
  have e22 : ((v5 : Int)).tmod 2 = ((v5 % 2 : Nat) : Int) := by rw [Int.tmod_eq_emod_of_nonneg (by omega)]; omega
  obtain ⟨m5, hm5⟩ : ∃ m5, v5 % 2 = m5 := ⟨_, rfl⟩
  rw [hm5] at e22 q8
  have hm2 : m5 < 2 := by omega
  have e23 : ((m5 : Int) == 1) = qq := by
    rw [← hqq]
    by_cases h : m5 = 1
    · rw [decide_eq_true (q8.1 h), h]; rfl
    · rw [decide_eq_false (fun h2 => h (q8.2 h2))]; simp; omega
  have HV5 := hid hv5
  have e62 : ((a : Int)).tmod 16 = ((a % 16 : Nat) : Int) := by rw [Int.tmod_eq_emod_of_nonneg (by omega)]; omega
  obtain ⟨r, hr⟩ : ∃ r, a % 16 = r := ⟨_, rfl⟩
  rw [hr] at e62
  have e63 : ((r : Int) != 0) = qq := by rw [← hqq, ← hr]; by_cases h : a % 16 = 0 <;> simp [h] <;> omega
  have er : ((Wd : Int)).tmod 6 = 1 := by rw [Int.tmod_eq_emod_of_nonneg (by omega)]; omega
  have ew : IntKind.i64.wrap (Wd : Int) = (Wd : Int) := by rw [IntKind.wrap_i64]; omega
  have HW := hid hw1
  clear q1 q2 q3 q4 q5 q6 q7 q8 hl hlow hp1 hblk hw1 htw hp hK n0 hqq hv5 hm5 hm2 hwd hwk ha hr
  have HS2 : Hid (td2 2 tw a (isDom K) 4 = bfS (td1 2 tw a) (isDom K) (tdA 2 tw a) 4 ∧ tdR 2 tw a (isDom K) 4 = bfR (td1 2 tw a) (isDom K) (tdA 2 tw a) 4) := hid ⟨rfl, rfl⟩
  have HS1 : Hid (td1 2 tw a = cstS (td0 2 tw) 3 a ∧ tdA 2 tw a = cstR (td0 2 tw) 3 a) := hid ⟨rfl, rfl⟩
  simp only [← HS2.out.1, ← HS2.out.2] at HC2a
  simp only [← HS1.out.1, ← HS1.out.2] at HC1a
  clear HS2 HS1
  obtain ⟨S2, hS2⟩ : ∃ S2, td2 2 tw a (isDom K) 4 = S2 := ⟨_, rfl⟩
  obtain ⟨R2, hR2⟩ : ∃ R2, tdR 2 tw a (isDom K) 4 = R2 := ⟨_, rfl⟩
  simp only [hS2, hR2] at HC2a HB2 HE2 HY2 HD2 HV5
  clear hS2 hR2
  obtain ⟨S1, hS1⟩ : ∃ S1, td1 2 tw a = S1 := ⟨_, rfl⟩
  obtain ⟨A1, hA1⟩ : ∃ A1, tdA 2 tw a = A1 := ⟨_, rfl⟩
  simp only [hS1, hA1] at HC1a HC2a
  clear hS1 hA1
  obtain ⟨sN, hsN⟩ : ∃ sN : Nat → Nat, ∀ i, 2 ^ i = sN i := ⟨_, fun _ => rfl⟩
  have HSN : Hid (∀ i, 2 * sN i = sN (i + 1)) := hid (fun i => by rw [← hsN i, ← hsN (i + 1), Nat.pow_succ, Nat.mul_comm])
  have HS0 : Hid (sN 0 = 1) := hid (hsN 0).symm
  have HSK : Hid (sN 2 = 4) := hid (hsN 2).symm
  have HSB : Hid (∀ i, i ≤ 6 → sN i ≤ 64) := hid (fun i hi => by rw [← hsN i]; exact Nat.le_trans (Nat.pow_le_pow_right (by decide) hi) (by decide))
  clear hsN
  go_enter Tryd.func3, Tryd.ntmps3
  go_upto_region 1 with fail
  rw [HW.out]
  go_upto_region 7 with fail
  go_loopw [13, 14] (fun sv iv wr => ∃ i : Nat, i ≤ 2 ∧ iv = .int .i64 (i : Int) ∧ sv = .int .i64 (sN i : Int) ∧ w1 = wr) (fun _ iv _ => 2 - (intOf iv).toNat)
  case atStart => exact ⟨0, by omega, rfl, by rw [HS0.out]; rfl, rfl⟩
  case round =>
    obtain ⟨i, hi, rfl, rfl, rfl⟩ := hrel
    have hb := HSB.out i (by omega)
    have hn := HSN.out i
    have hb1 := HSB.out (i + 1)
    by_cases hlt : i < 2
    · have j1 : (i : Int) < 2 := by omega
      have j0 : (0 : Int) ≤ (i : Int) := by omega
      have em : IntKind.i64.wrap (2 * (sN i : Int)) = (sN (i + 1) : Int) := by rw [IntKind.wrap_i64]; omega
      clear hb hn hb1
      go_wp2
      go_roundw
      case rel => exact ⟨i + 1, by omega, by go_num, by first | rw [em] | rfl, by first | trivial | rfl⟩
      case measure => simp [intOf]; omega
    · obtain rfl : i = 2 := by omega
      rw [HSK.out]
      rw [show ((2 : Nat) : Int) = 2 from rfl, show ((4 : Nat) : Int) = 4 from rfl]
      clear hb hn hb1 hlt hi HSN HSB HS0 HSK
      go_upto_region 11 with (go_at_call 4; (with_reducible refine (HBG.out).mono ?_); rintro e w2 ⟨p, b, rfl, hz⟩; have Z2 := hid hz; clear hz)
      have H3 := hid ((Gy.start Z2.out).new hM (paC p b (.slice none 0 0) (.slice none 0 0)) 29)
      obtain ⟨b1, hb1⟩ : ∃ b1, w2.heap.size = b1 := ⟨_, rfl⟩
      rw [hb1] at H3
      generalize w2.alloc (.cells #[.pointer (some ⟨p, 0, none⟩), .pointer (some ⟨b, 0, none⟩), .slice none 0 0, .slice none 0 0] 29) = w3' at *
      try rw [hb1]
      clear hb1 HBG HW
      have HC1 := hid (fun (wx : World) (bs : List (Nat × Obj)) (h : Gy Pm w1.heap.size (fun _ => False) w1 w2 wx p b (td0 2 tw) (td0 2 tw) bs) => h.lift (f := 6) (args := #[.pointer (some ⟨p, 0, none⟩), .int .u64 (a : Int)]) (E := fun e => e = .returned (.agg (wdV A1))) (S1' := S1) (S2' := (td0 2 tw)) (fun X' W' hz => HC1a.out X' W' wx _ p b _ hz))
      have HC2 := hid (fun (wx : World) (bs : List (Nat × Obj)) (h : Gy Pm w1.heap.size (fun _ => False) w1 w2 wx p b S1 (td0 2 tw) bs) => h.lift (f := 5) (args := #[.pointer (some ⟨p, 0, none⟩), .int .i64 K, .agg (wdV A1), .int .i64 4]) (E := fun e => e = .returned (.agg (wdV R2))) (S1' := S2) (S2' := (td0 2 tw)) (fun X' W' hz => HC2a.out X' W' wx _ p b _ hz (Pv.bz HP1.out HGL.out h.z) HGL.out))
      have HVL : Hid (∀ (w : World) (bs : List (Nat × Obj)), Gy Pm w1.heap.size (fun _ => False) w1 w2 w p b S2 (td0 2 tw) bs → Calls Tryd.prog 8 #[.pointer (some ⟨p, 0, none⟩)] w fun e w' => (∃ v, e = .returned v ∧ Rd .u64 w' v (wdL S2.v S2.L)) ∧ Below w.heap.size w w') := hid (fun w bs h => (zvalues hM h.z HB2.out (by decide)).mono fun _ _ ⟨v, e1, e2, e3⟩ => ⟨⟨v, e1, by rw [show S2.keep S2.L = S2.L by unfold Ms.keep; rw [HY2.out]; rfl] at e2; exact e2⟩, e3⟩)
      have HVV : Hid (∀ (v : Value) (w : World), Rd .u64 w v (wdL S2.v S2.L) → Calls Tryd.prog 7 #[v, .agg (wdV R2)] w fun e w' => e = .returned (.int .u64 (v5 : Nat)) ∧ Below w.heap.size w w') := hid (fun v w h => by
        have := (shI hM).value v _ _ R2 w h (fun i hi => HB2.out.v i hi)
        rw [HV5.out] at this
        exact this)
      have HER : Hid (∀ (w : World) (bs : List (Nat × Obj)), Gy Pm w1.heap.size (fun _ => False) w1 w2 w p b S2 (td0 2 tw) bs → Calls Tryd.prog 9 #[.pointer (some ⟨p, 0, none⟩)] w fun e w' => e = .returned (.int .i64 0) ∧ Below w.heap.size w w') := hid (fun w bs h => by
        have := zerr hM h.z HB2.out (by decide)
        rw [HE2.out] at this
        exact this)
      have HDW : Hid (∀ (w : World) (bs : List (Nat × Obj)), Gy Pm w1.heap.size (fun _ => False) w1 w2 w p b S2 (td0 2 tw) bs → Calls Tryd.prog 10 #[.pointer (some ⟨p, 0, none⟩)] w fun e w' => e = .returned (.int .i64 4) ∧ Below w.heap.size w w') := hid (fun w bs h => by
        have := zdraws hM h.z HB2.out (by decide)
        rw [HD2.out] at this
        exact this)
      clear HC1a HC2a HV5 HE2 HD2
      go_upto_region 13 with fail
      go_cut [17] from 40 to 48 (fun q3 wx => ∃ b3, q3 = .pointer (some ⟨b3, 0, none⟩) ∧ Gy Pm w1.heap.size (fun _ => False) w1 w2 wx p b S2 (td0 2 tw) [(b3, .cells (wdV R2) 34 (0, 0)), (b1, .cells (paC p b (.slice none 0 0) (.slice none 0 0)) 29 (0, 0))])
      case first =>
        have G0 := hid (H3.out.self hM ((Below.refl _ w3').drew))
        refine wp_region_noPanic ?_
        refine wp_region_held_drew (S := fun w' => w'.heap[b1]? = some (.cells (paC p b (.slice none 0 0) (.slice none 0 0)) 29 (0, 0))) (by kernel_rfl) (G0.out.mem (by simp)) (fun h0 => ?_)
        generalize w3'.drew = q0 at *
        refine wpAnyH_take (i := 0) (v := .pointer (some ⟨b1, 0, none⟩)) rfl (by kernel_rfl) (by kernel_rfl) (by kernel_rfl) (fun _ _ _ h => h) (.inl ⟨by rfl, fun w hw => by clear hw; go_simp⟩) h0 ?_
        try simp only [Act.put, lay_out]
        refine wpAnyH_take (i := 1) (v := .pointer (some ⟨p, 0, none⟩)) rfl (by kernel_rfl) (by kernel_rfl) (by kernel_rfl) (fun _ _ _ h => h) (.inl ⟨by rfl, fun w' hw => by have hc := row_c (i := 0) (u := .pointer (some ⟨p, 0, none⟩)) hw rfl; clear hw; go_simp⟩) h0 ?_
        try simp only [Act.put, lay_out]
        refine wpAnyH_take (i := 3) (v := .pointer (some ⟨b1, 0, none⟩)) rfl (by kernel_rfl) (by kernel_rfl) (by kernel_rfl) (fun _ _ _ h => h) (.inl ⟨by rfl, fun w hw => by clear hw; go_simp⟩) h0 ?_
        try simp only [Act.put, lay_out]
        refine wpAnyH_take (i := 4) (v := .pointer (some ⟨p, 0, none⟩)) rfl (by kernel_rfl) (by kernel_rfl) (by kernel_rfl) (fun _ _ _ h => h) (.inl ⟨by rfl, fun w' hw => by have hc := row_c (i := 0) (u := .pointer (some ⟨p, 0, none⟩)) hw rfl; clear hw; go_simp⟩) h0 ?_
        try simp only [Act.put, lay_out]
        refine wpAnyH_take (i := 2) (v := .int .i64 K) rfl (by kernel_rfl) (by kernel_rfl) (by kernel_rfl) (fun _ _ _ h => h) (.inl ⟨by rfl, fun w hw => by clear hw; go_simp⟩) h0 ?_
        try simp only [Act.put, lay_out]
        refine wpAnyH_take (i := 5) (v := .int .u64 (a : Int)) rfl (by kernel_rfl) (by kernel_rfl) (by kernel_rfl) (fun _ _ _ h => h) (.inl ⟨by rfl, fun w hw => by clear hw; go_simp⟩) h0 ?_
        try simp only [Act.put, lay_out]
        refine wpAnyH_take (i := 7) (v := .int .i64 4) rfl (by kernel_rfl) (by kernel_rfl) (by kernel_rfl) (fun _ _ _ h => h) (.inl ⟨by rfl, fun w hw => by clear hw; go_simp⟩) h0 ?_
        try simp only [Act.put, lay_out]
        refine wpAnyH_ready (rs := [6, 9]) (by kernel_rfl) (by simp) (AllReadyH.cons rfl (fun K hK => ?_) (AllReadyH.cons rfl (fun K hK => ?_) AllReadyH.nil))
        · rw [if_pos (by rfl)]
          go_simp
          go_at_call 6
          (with_reducible refine (HC1.out _ _ G0.out).mono ?_); rintro e q1 ⟨rfl, hz⟩
          have G1 := hid hz
          clear hz
          refine hK.out _ _ (G1.out.mem (by simp)) (fun h1x => ?_)
          clear hK K
          try simp only [Act.put, lay_out]
          refine wpAnyH_ready (rs := [8, 9]) (by kernel_rfl) (by simp) (AllReadyH.cons rfl (fun K hK => ?_) (AllReadyH.cons rfl (fun K hK => ?_) AllReadyH.nil))
          · rw [if_pos (by rfl)]
            go_simp
            go_at_call 5
            (with_reducible refine (HC2.out _ _ G1.out).mono ?_); rintro e q2 ⟨rfl, hz⟩
            have G2 := hid hz
            clear hz
            refine hK.out _ _ (G2.out.mem (by simp)) (fun h2x => ?_)
            clear hK K
            try simp only [Act.put, lay_out]
            refine wpAnyH_ready (rs := [9]) (by kernel_rfl) (by simp) (AllReadyH.cons rfl (fun K hK => ?_) AllReadyH.nil)
            rw [if_pos (by rfl)]
            go_simp
            have G3 := hid (G2.out.new hM #[.int .i64 0, .int .i64 0, .int .i64 0] 34)
            refine hK.out _ _ (G3.out.mem (by simp)) (fun h3x => ?_)
            clear hK K
            try simp only [Act.put, lay_out]
            generalize q2.alloc (.cells #[.int .i64 0, .int .i64 0, .int .i64 0] 34) = q3 at *
            refine wpAnyH_ready (rs := [10]) (by kernel_rfl) (by simp) (AllReadyH.cons rfl (fun K hK => ?_) AllReadyH.nil)
            rw [if_pos (by rfl)]
            refine wp_store_row 34 _ _ rfl (q2.heap.size) (wdV R2) rfl rfl 34 _ (G3.out.bl 0 rfl) (by kernel_rfl) rfl (by kernel_rfl) ?_
            have G4 := hid (G3.out.row hM (wdV R2))
            refine hK.out _ _ (G4.out.mem (by simp)) (fun h4x => ?_)
            clear hK K
            try simp only [Act.put, lay_out]
            refine wpAnyH_done (by kernel_rfl) ?_ _
            refine NoPanic.normal ?_
            clear h0 h1x h2x h3x h4x
            try simp only [Act.put, lay_out]
            go_wp2_with fail
            go_meet
            exact ⟨_, rfl, G4.out⟩
          · rw [if_pos (by rfl)]
            go_simp
            have G2 := hid (G1.out.new hM #[.int .i64 0, .int .i64 0, .int .i64 0] 34)
            refine hK.out _ _ (G2.out.mem (by simp)) (fun h2x => ?_)
            clear hK K
            try simp only [Act.put, lay_out]
            generalize q1.alloc (.cells #[.int .i64 0, .int .i64 0, .int .i64 0] 34) = q2 at *
            refine wpAnyH_ready (rs := [8]) (by kernel_rfl) (by simp) (AllReadyH.cons rfl (fun K hK => ?_) AllReadyH.nil)
            rw [if_pos (by rfl)]
            go_simp
            go_at_call 5
            (with_reducible refine (HC2.out _ _ G2.out).mono ?_); rintro e q3 ⟨rfl, hz⟩
            have G3 := hid hz
            clear hz
            refine hK.out _ _ (G3.out.mem (by simp)) (fun h3x => ?_)
            clear hK K
            try simp only [Act.put, lay_out]
            refine wpAnyH_ready (rs := [10]) (by kernel_rfl) (by simp) (AllReadyH.cons rfl (fun K hK => ?_) AllReadyH.nil)
            rw [if_pos (by rfl)]
            refine wp_store_row 34 _ _ rfl (q1.heap.size) (wdV R2) rfl rfl 34 _ (G3.out.bl 0 rfl) (by kernel_rfl) rfl (by kernel_rfl) ?_
            have G4 := hid (G3.out.row hM (wdV R2))
            refine hK.out _ _ (G4.out.mem (by simp)) (fun h4x => ?_)
            clear hK K
            try simp only [Act.put, lay_out]
            refine wpAnyH_done (by kernel_rfl) ?_ _
            refine NoPanic.normal ?_
            clear h0 h1x h2x h3x h4x
            try simp only [Act.put, lay_out]
            go_wp2_with fail
            go_meet
            exact ⟨_, rfl, G4.out⟩
        · rw [if_pos (by rfl)]
          go_simp
          have G1 := hid (G0.out.new hM #[.int .i64 0, .int .i64 0, .int .i64 0] 34)
          refine hK.out _ _ (G1.out.mem (by simp)) (fun h1x => ?_)
          clear hK K
          try simp only [Act.put, lay_out]
          generalize q0.alloc (.cells #[.int .i64 0, .int .i64 0, .int .i64 0] 34) = q1 at *
          refine wpAnyH_ready (rs := [6]) (by kernel_rfl) (by simp) (AllReadyH.cons rfl (fun K hK => ?_) AllReadyH.nil)
          rw [if_pos (by rfl)]
          go_simp
          go_at_call 6
          (with_reducible refine (HC1.out _ _ G1.out).mono ?_); rintro e q2 ⟨rfl, hz⟩
          have G2 := hid hz
          clear hz
          refine hK.out _ _ (G2.out.mem (by simp)) (fun h2x => ?_)
          clear hK K
          try simp only [Act.put, lay_out]
          refine wpAnyH_ready (rs := [8]) (by kernel_rfl) (by simp) (AllReadyH.cons rfl (fun K hK => ?_) AllReadyH.nil)
          rw [if_pos (by rfl)]
          go_simp
          go_at_call 5
          (with_reducible refine (HC2.out _ _ G2.out).mono ?_); rintro e q3 ⟨rfl, hz⟩
          have G3 := hid hz
          clear hz
          refine hK.out _ _ (G3.out.mem (by simp)) (fun h3x => ?_)
          clear hK K
          try simp only [Act.put, lay_out]
          refine wpAnyH_ready (rs := [10]) (by kernel_rfl) (by simp) (AllReadyH.cons rfl (fun K hK => ?_) AllReadyH.nil)
          rw [if_pos (by rfl)]
          refine wp_store_row 34 _ _ rfl (q0.heap.size) (wdV R2) rfl rfl 34 _ (G3.out.bl 0 rfl) (by kernel_rfl) rfl (by kernel_rfl) ?_
          have G4 := hid (G3.out.row hM (wdV R2))
          refine hK.out _ _ (G4.out.mem (by simp)) (fun h4x => ?_)
          clear hK K
          try simp only [Act.put, lay_out]
          refine wpAnyH_done (by kernel_rfl) ?_ _
          refine NoPanic.normal ?_
          clear h0 h1x h2x h3x h4x
          try simp only [Act.put, lay_out]
          go_wp2_with fail
          go_meet
          exact ⟨_, rfl, G4.out⟩
      case rest =>
        obtain ⟨b3, rfl, hcut⟩ := hcut
        have H8 := hid hcut
        clear hcut H3 HC1 HC2
        generalize wc = w8 at *
        go_upto_region 14 with fail
        have G0 := hid (H8.out.self hM ((Below.refl _ w8).drew))
        refine wp_region_noPanic ?_
        refine wp_region_held_drew (S := fun w' => w'.heap[b1]? = some (.cells (paC p b (.slice none 0 0) (.slice none 0 0)) 29 (0, 0)) ∧ w'.heap[b3]? = some (.cells (wdV R2) 34 (0, 0))) (by kernel_rfl) (⟨G0.out.bl 1 rfl, G0.out.bl 0 rfl⟩) (fun h0 => ?_)
        generalize w8.drew = y0 at *
        refine wpAnyH_take (i := 0) (v := .pointer (some ⟨b1, 0, none⟩)) rfl (by kernel_rfl) (by kernel_rfl) (by kernel_rfl) (fun _ _ _ h => h) (.inl ⟨by rfl, fun w hw => by clear hw; go_simp⟩) h0 ?_
        try simp only [Act.put, lay_out]
        refine wpAnyH_take (i := 1) (v := .pointer (some ⟨p, 0, none⟩)) rfl (by kernel_rfl) (by kernel_rfl) (by kernel_rfl) (fun _ _ _ h => h) (.inl ⟨by rfl, fun w' hw => by have hc := row_c (i := 0) (u := .pointer (some ⟨p, 0, none⟩)) hw.1 rfl; clear hw; go_simp⟩) h0 ?_
        try simp only [Act.put, lay_out]
        refine wpAnyH_take (i := 3) (v := .agg (wdV R2)) rfl (by kernel_rfl) (by kernel_rfl) (by kernel_rfl) (fun _ _ _ h => h) (yields_load_row (by rfl) 34 _ rfl b3 34 (wdV R2) _ rfl (fun w h => h.2) Tryd.underlying34 rfl (by kernel_rfl)) h0 ?_
        try simp only [Act.put, lay_out]
        refine wpAnyH_ready (rs := [2]) (by kernel_rfl) (by simp) (AllReadyH.cons rfl (fun K hK => ?_) AllReadyH.nil)
        rw [if_pos (by rfl)]
        go_simp
        go_at_call 8
        (with_reducible refine (HVL.out _ _ G0.out).mono ?_); rintro e y1 ⟨⟨v, rfl, hv⟩, hb⟩
        have G1 := hid (G0.out.self hM hb)
        have V1 := hid hv
        clear hb hv
        refine hK.out _ _ (⟨G1.out.bl 1 rfl, G1.out.bl 0 rfl⟩) (fun h1x => ?_)
        clear hK K
        try simp only [Act.put, lay_out]
        refine wpAnyH_ready (rs := [4]) (by kernel_rfl) (by simp) (AllReadyH.cons rfl (fun K hK => ?_) AllReadyH.nil)
        rw [if_pos (by rfl)]
        go_simp
        go_at_call 7
        (with_reducible refine (HVV.out _ _ V1.out).mono ?_); rintro e y2 ⟨rfl, hb⟩
        have G2 := hid (G1.out.self hM hb)
        clear hb
        refine hK.out _ _ (⟨G2.out.bl 1 rfl, G2.out.bl 0 rfl⟩) (fun h2x => ?_)
        clear hK K
        try simp only [Act.put, lay_out]
        refine wpAnyH_take (i := 5) (v := .int .u64 (v5 : Int)) rfl (by kernel_rfl) (by kernel_rfl) (by kernel_rfl) (fun _ _ _ h => h) (.inl ⟨by rfl, fun w hw => by clear hw; go_simp⟩) h2x ?_
        try simp only [Act.put, lay_out]
        refine wpAnyH_done (by kernel_rfl) ?_ _
        refine NoPanic.normal ?_
        clear h0 h1x h2x
        try simp only [Act.put, lay_out]
        have c1 := row_c (i := 0) (u := .pointer (some ⟨p, 0, none⟩)) (G2.out.bl 1 rfl) rfl
        go_wp2_with (first
          | (go_at_call 9; (with_reducible refine (HER.out _ _ G2.out).mono ?_); rintro e wA ⟨rfl, hb⟩; have GA := hid (G2.out.self hM hb); clear hb c1; have c2 := row_c (i := 0) (u := .pointer (some ⟨p, 0, none⟩)) (GA.out.bl 1 rfl) rfl)
          | (go_at_call 10; (with_reducible refine (HDW.out _ _ GA.out).mono ?_); rintro e wB ⟨rfl, hb⟩; have GB := hid (GA.out.self hM hb); clear hb c2)
          | (go_at_call 11; (with_reducible refine (HRD.out _).mono ?_); rintro e wC ⟨rfl, rfl⟩)
          | (go_at_call 12; (with_reducible refine (HAW.out _ (HWJ.out.trans (GB.out.z.low.mono HWJ.out.size))).mono ?_); rintro e wz ⟨rfl, hb⟩; have HZ := hid ((HWJ.out.trans (GB.out.z.low.mono HWJ.out.size)).trans (hb.mono (HWJ.out.trans (GB.out.z.low.mono HWJ.out.size)).size)); clear hb))
        go_ret
        exact ⟨rfl, HZ.out⟩
set_option maxHeartbeats 12800000 in
theorem bfolds2_3 {Pm : World → Nat → Ms → (Nat → Prop) → Prop} (hM : Mach Pm) (hN : MachN Pm) (K : Int) (hK : I64 K) (a : Nat) (ha : a < 2 ^ 64) (Wd : Nat) (hwd : Wd < 256) (hwk : Wd % 6 = 2) (tw : Nat → Nat) (htw : ∀ i, i < 40 → tw i < 2 ^ 64) (W : World) (hp : Pv W) :
    Calls Tryd.prog 3 #[.bool false, .int .i64 K, .int .u64 (a : Int), .int .u8 (Wd : Int), .agg (wa 40 tw)] W fun e w' => e = .returned (.bool true) ∧ Below W.heap.size W w' := by
  obtain ⟨q1, q2, q3, q4, q5, q6, q7, q8⟩ := td_all (n := 2) (by decide) htw ha (isDom K) 8
  have hl : lgW 8 = 3 := by decide
  rw [hl, show (2 : Nat) ^ (2 ^ 3) = 256 by decide] at q8
  rw [hl, show 3 * dN ((2 : Nat) : Int) = 6 by decide] at q7
  have hlow := (Below.refl W.heap.size W).alloc (Nat.le_refl _) (.cells (wa 40 tw) 23)
  obtain ⟨w1, hw1⟩ : ∃ w1, W.alloc (.cells (wa 40 tw) 23) = w1 := ⟨_, rfl⟩
  rw [hw1] at hlow
  have HWJ := hid hlow
  have hp1 := hp.self hlow
  have HP1 := hid hp1
  have HGL : Hid (gpair < w1.heap.size) := hid hp1.1
  have hblk : w1.heap[W.heap.size]? = some (.cells (wa 40 tw) 23 (0, 0)) := by rw [← hw1]; exact heap_alloc_new _ _
  have HBG : Hid (Calls Tryd.prog 4 #[.int .i64 2, .slice (some ⟨W.heap.size, 0, none⟩) 40 40, .int .i64 2000] w1 fun e w' => ∃ p b, e = .returned (.tuple #[.agg (paC p b (.slice none 0 0) (.slice none 0 0)), .bool true]) ∧ Bz Pm w1.heap.size (fun _ => False) w1 w' p b (td0 2 tw) (td0 2 tw)) := hid (by
    have hlen := wdL_len tw 40
    have hrd : RdS .u64 w1 (fun g => g < w1.heap.size) (.slice (some ⟨W.heap.size, 0, none⟩) 40 40) (wdL tw 40) := by
      refine ⟨some ⟨W.heap.size, 0, none⟩, 40, by rw [hlen], by rw [hlen]; exact Nat.le_refl 40, by decide, by rw [hlen]; show 40 * 8 ≤ _; decide, fun z hz => wdL_wfB htw z hz, fun _ => ⟨W.heap.size, 0, rfl, (Array.getElem?_eq_some_iff.1 hblk).1, (Array.getElem?_eq_some_iff.1 hblk).1, fun j hj => ?_⟩⟩
      rw [hlen] at hj
      rw [nth_wdB tw hj, Nat.zero_add]
      exact row_c (i := j) hblk (wa_get tw hj)
    exact lbegins_any hM hN ((2 : Nat) : Int) 2000 (by decide) (by decide) (by decide) tw 40 _ _ hrd)
  have HAW := hid (fun (w : World) (h : Below W.heap.size W w) => bawake_any hM hN w (hp.self h))
  have n0 : (td0 2 tw).n = 2 ∨ (td0 2 tw).n = 3 := .inl rfl
  have HC1a := hid (fun (X' : Nat → Prop) (W' wx : World) (lo p b : Nat) (S2 : Ms) (hz : Bz Pm lo X' W' wx p b (td0 2 tw) S2) => qpub hM (shI hM) a hz (td0_bq (n := 2) (by decide) htw) (by decide) n0 ha)
  have HC2a := hid (fun (X' : Nat → Prop) (W' wx : World) (lo p b : Nat) (S2 : Ms) (hz : Bz Pm lo X' W' wx p b (td1 2 tw a) S2) (hpv : Pv wx) (hg : gpair < lo) => qfold hM K (tdA 2 tw a) 8 hz hpv hg q1 (by decide) q3 hK q2)
  have HB2 := hid q4
  have HE2 := hid q5
  have HY2 := hid q6
  have HD2 := hid q7
  have HRD : Hid (∀ w, Calls Tryd.prog 11 #[.int .i64 2] w fun e w' => e = .returned (.int .i64 2) ∧ w' = w) := hid (fun w => rbdr_any 2 w)
  obtain ⟨qq, hqq⟩ : ∃ qq, decide (a % 256 ≠ 0) = qq := ⟨_, rfl⟩
  obtain ⟨v5, hv5⟩ : ∃ v5, vlN (td2 2 tw a (isDom K) 8).v (td2 2 tw a (isDom K) 8).L (tdR 2 tw a (isDom K) 8) = v5 := ⟨_, rfl⟩
  rw [hv5] at q8
  have e22 : ((v5 : Int)).tmod 2 = ((v5 % 2 : Nat) : Int) := by rw [Int.tmod_eq_emod_of_nonneg (by omega)]; omega
  obtain ⟨m5, hm5⟩ : ∃ m5, v5 % 2 = m5 := ⟨_, rfl⟩
  rw [hm5] at e22 q8
  have hm2 : m5 < 2 := by omega
  have e23 : ((m5 : Int) == 1) = qq := by
    rw [← hqq]
    by_cases h : m5 = 1
    · rw [decide_eq_true (q8.1 h), h]; rfl
    · rw [decide_eq_false (fun h2 => h (q8.2 h2))]; simp; omega
  have HV5 := hid hv5
  have e62 : ((a : Int)).tmod 256 = ((a % 256 : Nat) : Int) := by rw [Int.tmod_eq_emod_of_nonneg (by omega)]; omega
  obtain ⟨r, hr⟩ : ∃ r, a % 256 = r := ⟨_, rfl⟩
  rw [hr] at e62
  have e63 : ((r : Int) != 0) = qq := by rw [← hqq, ← hr]; by_cases h : a % 256 = 0 <;> simp [h] <;> omega
  have er : ((Wd : Int)).tmod 6 = 2 := by rw [Int.tmod_eq_emod_of_nonneg (by omega)]; omega
  have ew : IntKind.i64.wrap (Wd : Int) = (Wd : Int) := by rw [IntKind.wrap_i64]; omega
  have HW := hid hw1
  clear q1 q2 q3 q4 q5 q6 q7 q8 hl hlow hp1 hblk hw1 htw hp hK n0 hqq hv5 hm5 hm2 hwd hwk ha hr
  have HS2 : Hid (td2 2 tw a (isDom K) 8 = bfS (td1 2 tw a) (isDom K) (tdA 2 tw a) 8 ∧ tdR 2 tw a (isDom K) 8 = bfR (td1 2 tw a) (isDom K) (tdA 2 tw a) 8) := hid ⟨rfl, rfl⟩
  have HS1 : Hid (td1 2 tw a = cstS (td0 2 tw) 3 a ∧ tdA 2 tw a = cstR (td0 2 tw) 3 a) := hid ⟨rfl, rfl⟩
  simp only [← HS2.out.1, ← HS2.out.2] at HC2a
  simp only [← HS1.out.1, ← HS1.out.2] at HC1a
  clear HS2 HS1
  obtain ⟨S2, hS2⟩ : ∃ S2, td2 2 tw a (isDom K) 8 = S2 := ⟨_, rfl⟩
  obtain ⟨R2, hR2⟩ : ∃ R2, tdR 2 tw a (isDom K) 8 = R2 := ⟨_, rfl⟩
  simp only [hS2, hR2] at HC2a HB2 HE2 HY2 HD2 HV5
  clear hS2 hR2
  obtain ⟨S1, hS1⟩ : ∃ S1, td1 2 tw a = S1 := ⟨_, rfl⟩
  obtain ⟨A1, hA1⟩ : ∃ A1, tdA 2 tw a = A1 := ⟨_, rfl⟩
  simp only [hS1, hA1] at HC1a HC2a
  clear hS1 hA1
  obtain ⟨sN, hsN⟩ : ∃ sN : Nat → Nat, ∀ i, 2 ^ i = sN i := ⟨_, fun _ => rfl⟩
  have HSN : Hid (∀ i, 2 * sN i = sN (i + 1)) := hid (fun i => by rw [← hsN i, ← hsN (i + 1), Nat.pow_succ, Nat.mul_comm])
  have HS0 : Hid (sN 0 = 1) := hid (hsN 0).symm
  have HSK : Hid (sN 3 = 8) := hid (hsN 3).symm
  have HSB : Hid (∀ i, i ≤ 6 → sN i ≤ 64) := hid (fun i hi => by rw [← hsN i]; exact Nat.le_trans (Nat.pow_le_pow_right (by decide) hi) (by decide))
  clear hsN
  go_enter Tryd.func3, Tryd.ntmps3
  go_upto_region 1 with fail
  rw [HW.out]
  go_upto_region 7 with fail
  go_loopw [13, 14] (fun sv iv wr => ∃ i : Nat, i ≤ 3 ∧ iv = .int .i64 (i : Int) ∧ sv = .int .i64 (sN i : Int) ∧ w1 = wr) (fun _ iv _ => 3 - (intOf iv).toNat)
  case atStart => exact ⟨0, by omega, rfl, by rw [HS0.out]; rfl, rfl⟩
  case round =>
    obtain ⟨i, hi, rfl, rfl, rfl⟩ := hrel
    have hb := HSB.out i (by omega)
    have hn := HSN.out i
    have hb1 := HSB.out (i + 1)
    by_cases hlt : i < 3
    · have j1 : (i : Int) < 3 := by omega
      have j0 : (0 : Int) ≤ (i : Int) := by omega
      have em : IntKind.i64.wrap (2 * (sN i : Int)) = (sN (i + 1) : Int) := by rw [IntKind.wrap_i64]; omega
      clear hb hn hb1
      go_wp2
      go_roundw
      case rel => exact ⟨i + 1, by omega, by go_num, by first | rw [em] | rfl, by first | trivial | rfl⟩
      case measure => simp [intOf]; omega
    · obtain rfl : i = 3 := by omega
      rw [HSK.out]
      rw [show ((3 : Nat) : Int) = 3 from rfl, show ((8 : Nat) : Int) = 8 from rfl]
      clear hb hn hb1 hlt hi HSN HSB HS0 HSK
      go_upto_region 11 with (go_at_call 4; (with_reducible refine (HBG.out).mono ?_); rintro e w2 ⟨p, b, rfl, hz⟩; have Z2 := hid hz; clear hz)
      have H3 := hid ((Gy.start Z2.out).new hM (paC p b (.slice none 0 0) (.slice none 0 0)) 29)
      obtain ⟨b1, hb1⟩ : ∃ b1, w2.heap.size = b1 := ⟨_, rfl⟩
      rw [hb1] at H3
      generalize w2.alloc (.cells #[.pointer (some ⟨p, 0, none⟩), .pointer (some ⟨b, 0, none⟩), .slice none 0 0, .slice none 0 0] 29) = w3' at *
      try rw [hb1]
      clear hb1 HBG HW
      have HC1 := hid (fun (wx : World) (bs : List (Nat × Obj)) (h : Gy Pm w1.heap.size (fun _ => False) w1 w2 wx p b (td0 2 tw) (td0 2 tw) bs) => h.lift (f := 6) (args := #[.pointer (some ⟨p, 0, none⟩), .int .u64 (a : Int)]) (E := fun e => e = .returned (.agg (wdV A1))) (S1' := S1) (S2' := (td0 2 tw)) (fun X' W' hz => HC1a.out X' W' wx _ p b _ hz))
      have HC2 := hid (fun (wx : World) (bs : List (Nat × Obj)) (h : Gy Pm w1.heap.size (fun _ => False) w1 w2 wx p b S1 (td0 2 tw) bs) => h.lift (f := 5) (args := #[.pointer (some ⟨p, 0, none⟩), .int .i64 K, .agg (wdV A1), .int .i64 8]) (E := fun e => e = .returned (.agg (wdV R2))) (S1' := S2) (S2' := (td0 2 tw)) (fun X' W' hz => HC2a.out X' W' wx _ p b _ hz (Pv.bz HP1.out HGL.out h.z) HGL.out))
      have HVL : Hid (∀ (w : World) (bs : List (Nat × Obj)), Gy Pm w1.heap.size (fun _ => False) w1 w2 w p b S2 (td0 2 tw) bs → Calls Tryd.prog 8 #[.pointer (some ⟨p, 0, none⟩)] w fun e w' => (∃ v, e = .returned v ∧ Rd .u64 w' v (wdL S2.v S2.L)) ∧ Below w.heap.size w w') := hid (fun w bs h => (zvalues hM h.z HB2.out (by decide)).mono fun _ _ ⟨v, e1, e2, e3⟩ => ⟨⟨v, e1, by rw [show S2.keep S2.L = S2.L by unfold Ms.keep; rw [HY2.out]; rfl] at e2; exact e2⟩, e3⟩)
      have HVV : Hid (∀ (v : Value) (w : World), Rd .u64 w v (wdL S2.v S2.L) → Calls Tryd.prog 7 #[v, .agg (wdV R2)] w fun e w' => e = .returned (.int .u64 (v5 : Nat)) ∧ Below w.heap.size w w') := hid (fun v w h => by
        have := (shI hM).value v _ _ R2 w h (fun i hi => HB2.out.v i hi)
        rw [HV5.out] at this
        exact this)
      have HER : Hid (∀ (w : World) (bs : List (Nat × Obj)), Gy Pm w1.heap.size (fun _ => False) w1 w2 w p b S2 (td0 2 tw) bs → Calls Tryd.prog 9 #[.pointer (some ⟨p, 0, none⟩)] w fun e w' => e = .returned (.int .i64 0) ∧ Below w.heap.size w w') := hid (fun w bs h => by
        have := zerr hM h.z HB2.out (by decide)
        rw [HE2.out] at this
        exact this)
      have HDW : Hid (∀ (w : World) (bs : List (Nat × Obj)), Gy Pm w1.heap.size (fun _ => False) w1 w2 w p b S2 (td0 2 tw) bs → Calls Tryd.prog 10 #[.pointer (some ⟨p, 0, none⟩)] w fun e w' => e = .returned (.int .i64 6) ∧ Below w.heap.size w w') := hid (fun w bs h => by
        have := zdraws hM h.z HB2.out (by decide)
        rw [HD2.out] at this
        exact this)
      clear HC1a HC2a HV5 HE2 HD2
      go_upto_region 13 with fail
      go_cut [17] from 40 to 48 (fun q3 wx => ∃ b3, q3 = .pointer (some ⟨b3, 0, none⟩) ∧ Gy Pm w1.heap.size (fun _ => False) w1 w2 wx p b S2 (td0 2 tw) [(b3, .cells (wdV R2) 34 (0, 0)), (b1, .cells (paC p b (.slice none 0 0) (.slice none 0 0)) 29 (0, 0))])
      case first =>
        have G0 := hid (H3.out.self hM ((Below.refl _ w3').drew))
        refine wp_region_noPanic ?_
        refine wp_region_held_drew (S := fun w' => w'.heap[b1]? = some (.cells (paC p b (.slice none 0 0) (.slice none 0 0)) 29 (0, 0))) (by kernel_rfl) (G0.out.mem (by simp)) (fun h0 => ?_)
        generalize w3'.drew = q0 at *
        refine wpAnyH_take (i := 0) (v := .pointer (some ⟨b1, 0, none⟩)) rfl (by kernel_rfl) (by kernel_rfl) (by kernel_rfl) (fun _ _ _ h => h) (.inl ⟨by rfl, fun w hw => by clear hw; go_simp⟩) h0 ?_
        try simp only [Act.put, lay_out]
        refine wpAnyH_take (i := 1) (v := .pointer (some ⟨p, 0, none⟩)) rfl (by kernel_rfl) (by kernel_rfl) (by kernel_rfl) (fun _ _ _ h => h) (.inl ⟨by rfl, fun w' hw => by have hc := row_c (i := 0) (u := .pointer (some ⟨p, 0, none⟩)) hw rfl; clear hw; go_simp⟩) h0 ?_
        try simp only [Act.put, lay_out]
        refine wpAnyH_take (i := 3) (v := .pointer (some ⟨b1, 0, none⟩)) rfl (by kernel_rfl) (by kernel_rfl) (by kernel_rfl) (fun _ _ _ h => h) (.inl ⟨by rfl, fun w hw => by clear hw; go_simp⟩) h0 ?_
        try simp only [Act.put, lay_out]
        refine wpAnyH_take (i := 4) (v := .pointer (some ⟨p, 0, none⟩)) rfl (by kernel_rfl) (by kernel_rfl) (by kernel_rfl) (fun _ _ _ h => h) (.inl ⟨by rfl, fun w' hw => by have hc := row_c (i := 0) (u := .pointer (some ⟨p, 0, none⟩)) hw rfl; clear hw; go_simp⟩) h0 ?_
        try simp only [Act.put, lay_out]
        refine wpAnyH_take (i := 2) (v := .int .i64 K) rfl (by kernel_rfl) (by kernel_rfl) (by kernel_rfl) (fun _ _ _ h => h) (.inl ⟨by rfl, fun w hw => by clear hw; go_simp⟩) h0 ?_
        try simp only [Act.put, lay_out]
        refine wpAnyH_take (i := 5) (v := .int .u64 (a : Int)) rfl (by kernel_rfl) (by kernel_rfl) (by kernel_rfl) (fun _ _ _ h => h) (.inl ⟨by rfl, fun w hw => by clear hw; go_simp⟩) h0 ?_
        try simp only [Act.put, lay_out]
        refine wpAnyH_take (i := 7) (v := .int .i64 8) rfl (by kernel_rfl) (by kernel_rfl) (by kernel_rfl) (fun _ _ _ h => h) (.inl ⟨by rfl, fun w hw => by clear hw; go_simp⟩) h0 ?_
        try simp only [Act.put, lay_out]
        refine wpAnyH_ready (rs := [6, 9]) (by kernel_rfl) (by simp) (AllReadyH.cons rfl (fun K hK => ?_) (AllReadyH.cons rfl (fun K hK => ?_) AllReadyH.nil))
        · rw [if_pos (by rfl)]
          go_simp
          go_at_call 6
          (with_reducible refine (HC1.out _ _ G0.out).mono ?_); rintro e q1 ⟨rfl, hz⟩
          have G1 := hid hz
          clear hz
          refine hK.out _ _ (G1.out.mem (by simp)) (fun h1x => ?_)
          clear hK K
          try simp only [Act.put, lay_out]
          refine wpAnyH_ready (rs := [8, 9]) (by kernel_rfl) (by simp) (AllReadyH.cons rfl (fun K hK => ?_) (AllReadyH.cons rfl (fun K hK => ?_) AllReadyH.nil))
          · rw [if_pos (by rfl)]
            go_simp
            go_at_call 5
            (with_reducible refine (HC2.out _ _ G1.out).mono ?_); rintro e q2 ⟨rfl, hz⟩
            have G2 := hid hz
            clear hz
            refine hK.out _ _ (G2.out.mem (by simp)) (fun h2x => ?_)
            clear hK K
            try simp only [Act.put, lay_out]
            refine wpAnyH_ready (rs := [9]) (by kernel_rfl) (by simp) (AllReadyH.cons rfl (fun K hK => ?_) AllReadyH.nil)
            rw [if_pos (by rfl)]
            go_simp
            have G3 := hid (G2.out.new hM #[.int .i64 0, .int .i64 0, .int .i64 0] 34)
            refine hK.out _ _ (G3.out.mem (by simp)) (fun h3x => ?_)
            clear hK K
            try simp only [Act.put, lay_out]
            generalize q2.alloc (.cells #[.int .i64 0, .int .i64 0, .int .i64 0] 34) = q3 at *
            refine wpAnyH_ready (rs := [10]) (by kernel_rfl) (by simp) (AllReadyH.cons rfl (fun K hK => ?_) AllReadyH.nil)
            rw [if_pos (by rfl)]
            refine wp_store_row 34 _ _ rfl (q2.heap.size) (wdV R2) rfl rfl 34 _ (G3.out.bl 0 rfl) (by kernel_rfl) rfl (by kernel_rfl) ?_
            have G4 := hid (G3.out.row hM (wdV R2))
            refine hK.out _ _ (G4.out.mem (by simp)) (fun h4x => ?_)
            clear hK K
            try simp only [Act.put, lay_out]
            refine wpAnyH_done (by kernel_rfl) ?_ _
            refine NoPanic.normal ?_
            clear h0 h1x h2x h3x h4x
            try simp only [Act.put, lay_out]
            go_wp2_with fail
            go_meet
            exact ⟨_, rfl, G4.out⟩
          · rw [if_pos (by rfl)]
            go_simp
            have G2 := hid (G1.out.new hM #[.int .i64 0, .int .i64 0, .int .i64 0] 34)
            refine hK.out _ _ (G2.out.mem (by simp)) (fun h2x => ?_)
            clear hK K
            try simp only [Act.put, lay_out]
            generalize q1.alloc (.cells #[.int .i64 0, .int .i64 0, .int .i64 0] 34) = q2 at *
            refine wpAnyH_ready (rs := [8]) (by kernel_rfl) (by simp) (AllReadyH.cons rfl (fun K hK => ?_) AllReadyH.nil)
            rw [if_pos (by rfl)]
            go_simp
            go_at_call 5
            (with_reducible refine (HC2.out _ _ G2.out).mono ?_); rintro e q3 ⟨rfl, hz⟩
            have G3 := hid hz
            clear hz
            refine hK.out _ _ (G3.out.mem (by simp)) (fun h3x => ?_)
            clear hK K
            try simp only [Act.put, lay_out]
            refine wpAnyH_ready (rs := [10]) (by kernel_rfl) (by simp) (AllReadyH.cons rfl (fun K hK => ?_) AllReadyH.nil)
            rw [if_pos (by rfl)]
            refine wp_store_row 34 _ _ rfl (q1.heap.size) (wdV R2) rfl rfl 34 _ (G3.out.bl 0 rfl) (by kernel_rfl) rfl (by kernel_rfl) ?_
            have G4 := hid (G3.out.row hM (wdV R2))
            refine hK.out _ _ (G4.out.mem (by simp)) (fun h4x => ?_)
            clear hK K
            try simp only [Act.put, lay_out]
            refine wpAnyH_done (by kernel_rfl) ?_ _
            refine NoPanic.normal ?_
            clear h0 h1x h2x h3x h4x
            try simp only [Act.put, lay_out]
            go_wp2_with fail
            go_meet
            exact ⟨_, rfl, G4.out⟩
        · rw [if_pos (by rfl)]
          go_simp
          have G1 := hid (G0.out.new hM #[.int .i64 0, .int .i64 0, .int .i64 0] 34)
          refine hK.out _ _ (G1.out.mem (by simp)) (fun h1x => ?_)
          clear hK K
          try simp only [Act.put, lay_out]
          generalize q0.alloc (.cells #[.int .i64 0, .int .i64 0, .int .i64 0] 34) = q1 at *
          refine wpAnyH_ready (rs := [6]) (by kernel_rfl) (by simp) (AllReadyH.cons rfl (fun K hK => ?_) AllReadyH.nil)
          rw [if_pos (by rfl)]
          go_simp
          go_at_call 6
          (with_reducible refine (HC1.out _ _ G1.out).mono ?_); rintro e q2 ⟨rfl, hz⟩
          have G2 := hid hz
          clear hz
          refine hK.out _ _ (G2.out.mem (by simp)) (fun h2x => ?_)
          clear hK K
          try simp only [Act.put, lay_out]
          refine wpAnyH_ready (rs := [8]) (by kernel_rfl) (by simp) (AllReadyH.cons rfl (fun K hK => ?_) AllReadyH.nil)
          rw [if_pos (by rfl)]
          go_simp
          go_at_call 5
          (with_reducible refine (HC2.out _ _ G2.out).mono ?_); rintro e q3 ⟨rfl, hz⟩
          have G3 := hid hz
          clear hz
          refine hK.out _ _ (G3.out.mem (by simp)) (fun h3x => ?_)
          clear hK K
          try simp only [Act.put, lay_out]
          refine wpAnyH_ready (rs := [10]) (by kernel_rfl) (by simp) (AllReadyH.cons rfl (fun K hK => ?_) AllReadyH.nil)
          rw [if_pos (by rfl)]
          refine wp_store_row 34 _ _ rfl (q0.heap.size) (wdV R2) rfl rfl 34 _ (G3.out.bl 0 rfl) (by kernel_rfl) rfl (by kernel_rfl) ?_
          have G4 := hid (G3.out.row hM (wdV R2))
          refine hK.out _ _ (G4.out.mem (by simp)) (fun h4x => ?_)
          clear hK K
          try simp only [Act.put, lay_out]
          refine wpAnyH_done (by kernel_rfl) ?_ _
          refine NoPanic.normal ?_
          clear h0 h1x h2x h3x h4x
          try simp only [Act.put, lay_out]
          go_wp2_with fail
          go_meet
          exact ⟨_, rfl, G4.out⟩
      case rest =>
        obtain ⟨b3, rfl, hcut⟩ := hcut
        have H8 := hid hcut
        clear hcut H3 HC1 HC2
        generalize wc = w8 at *
        go_upto_region 14 with fail
        have G0 := hid (H8.out.self hM ((Below.refl _ w8).drew))
        refine wp_region_noPanic ?_
        refine wp_region_held_drew (S := fun w' => w'.heap[b1]? = some (.cells (paC p b (.slice none 0 0) (.slice none 0 0)) 29 (0, 0)) ∧ w'.heap[b3]? = some (.cells (wdV R2) 34 (0, 0))) (by kernel_rfl) (⟨G0.out.bl 1 rfl, G0.out.bl 0 rfl⟩) (fun h0 => ?_)
        generalize w8.drew = y0 at *
        refine wpAnyH_take (i := 0) (v := .pointer (some ⟨b1, 0, none⟩)) rfl (by kernel_rfl) (by kernel_rfl) (by kernel_rfl) (fun _ _ _ h => h) (.inl ⟨by rfl, fun w hw => by clear hw; go_simp⟩) h0 ?_
        try simp only [Act.put, lay_out]
        refine wpAnyH_take (i := 1) (v := .pointer (some ⟨p, 0, none⟩)) rfl (by kernel_rfl) (by kernel_rfl) (by kernel_rfl) (fun _ _ _ h => h) (.inl ⟨by rfl, fun w' hw => by have hc := row_c (i := 0) (u := .pointer (some ⟨p, 0, none⟩)) hw.1 rfl; clear hw; go_simp⟩) h0 ?_
        try simp only [Act.put, lay_out]
        refine wpAnyH_take (i := 3) (v := .agg (wdV R2)) rfl (by kernel_rfl) (by kernel_rfl) (by kernel_rfl) (fun _ _ _ h => h) (yields_load_row (by rfl) 34 _ rfl b3 34 (wdV R2) _ rfl (fun w h => h.2) Tryd.underlying34 rfl (by kernel_rfl)) h0 ?_
        try simp only [Act.put, lay_out]
        refine wpAnyH_ready (rs := [2]) (by kernel_rfl) (by simp) (AllReadyH.cons rfl (fun K hK => ?_) AllReadyH.nil)
        rw [if_pos (by rfl)]
        go_simp
        go_at_call 8
        (with_reducible refine (HVL.out _ _ G0.out).mono ?_); rintro e y1 ⟨⟨v, rfl, hv⟩, hb⟩
        have G1 := hid (G0.out.self hM hb)
        have V1 := hid hv
        clear hb hv
        refine hK.out _ _ (⟨G1.out.bl 1 rfl, G1.out.bl 0 rfl⟩) (fun h1x => ?_)
        clear hK K
        try simp only [Act.put, lay_out]
        refine wpAnyH_ready (rs := [4]) (by kernel_rfl) (by simp) (AllReadyH.cons rfl (fun K hK => ?_) AllReadyH.nil)
        rw [if_pos (by rfl)]
        go_simp
        go_at_call 7
        (with_reducible refine (HVV.out _ _ V1.out).mono ?_); rintro e y2 ⟨rfl, hb⟩
        have G2 := hid (G1.out.self hM hb)
        clear hb
        refine hK.out _ _ (⟨G2.out.bl 1 rfl, G2.out.bl 0 rfl⟩) (fun h2x => ?_)
        clear hK K
        try simp only [Act.put, lay_out]
        refine wpAnyH_take (i := 5) (v := .int .u64 (v5 : Int)) rfl (by kernel_rfl) (by kernel_rfl) (by kernel_rfl) (fun _ _ _ h => h) (.inl ⟨by rfl, fun w hw => by clear hw; go_simp⟩) h2x ?_
        try simp only [Act.put, lay_out]
        refine wpAnyH_done (by kernel_rfl) ?_ _
        refine NoPanic.normal ?_
        clear h0 h1x h2x
        try simp only [Act.put, lay_out]
        have c1 := row_c (i := 0) (u := .pointer (some ⟨p, 0, none⟩)) (G2.out.bl 1 rfl) rfl
        go_wp2_with (first
          | (go_at_call 9; (with_reducible refine (HER.out _ _ G2.out).mono ?_); rintro e wA ⟨rfl, hb⟩; have GA := hid (G2.out.self hM hb); clear hb c1; have c2 := row_c (i := 0) (u := .pointer (some ⟨p, 0, none⟩)) (GA.out.bl 1 rfl) rfl)
          | (go_at_call 10; (with_reducible refine (HDW.out _ _ GA.out).mono ?_); rintro e wB ⟨rfl, hb⟩; have GB := hid (GA.out.self hM hb); clear hb c2)
          | (go_at_call 11; (with_reducible refine (HRD.out _).mono ?_); rintro e wC ⟨rfl, rfl⟩)
          | (go_at_call 12; (with_reducible refine (HAW.out _ (HWJ.out.trans (GB.out.z.low.mono HWJ.out.size))).mono ?_); rintro e wz ⟨rfl, hb⟩; have HZ := hid ((HWJ.out.trans (GB.out.z.low.mono HWJ.out.size)).trans (hb.mono (HWJ.out.trans (GB.out.z.low.mono HWJ.out.size)).size)); clear hb))
        go_ret
        exact ⟨rfl, HZ.out⟩
set_option maxHeartbeats 12800000 in
theorem bfolds2_4 {Pm : World → Nat → Ms → (Nat → Prop) → Prop} (hM : Mach Pm) (hN : MachN Pm) (K : Int) (hK : I64 K) (a : Nat) (ha : a < 2 ^ 64) (Wd : Nat) (hwd : Wd < 256) (hwk : Wd % 6 = 3) (tw : Nat → Nat) (htw : ∀ i, i < 40 → tw i < 2 ^ 64) (W : World) (hp : Pv W) :
    Calls Tryd.prog 3 #[.bool false, .int .i64 K, .int .u64 (a : Int), .int .u8 (Wd : Int), .agg (wa 40 tw)] W fun e w' => e = .returned (.bool true) ∧ Below W.heap.size W w' := by
  obtain ⟨q1, q2, q3, q4, q5, q6, q7, q8⟩ := td_all (n := 2) (by decide) htw ha (isDom K) 16
  have hl : lgW 16 = 4 := by decide
  rw [hl, show (2 : Nat) ^ (2 ^ 4) = 65536 by decide] at q8
  rw [hl, show 4 * dN ((2 : Nat) : Int) = 8 by decide] at q7
  have hlow := (Below.refl W.heap.size W).alloc (Nat.le_refl _) (.cells (wa 40 tw) 23)
  obtain ⟨w1, hw1⟩ : ∃ w1, W.alloc (.cells (wa 40 tw) 23) = w1 := ⟨_, rfl⟩
  rw [hw1] at hlow
  have HWJ := hid hlow
  have hp1 := hp.self hlow
  have HP1 := hid hp1
  have HGL : Hid (gpair < w1.heap.size) := hid hp1.1
  have hblk : w1.heap[W.heap.size]? = some (.cells (wa 40 tw) 23 (0, 0)) := by rw [← hw1]; exact heap_alloc_new _ _
  have HBG : Hid (Calls Tryd.prog 4 #[.int .i64 2, .slice (some ⟨W.heap.size, 0, none⟩) 40 40, .int .i64 2000] w1 fun e w' => ∃ p b, e = .returned (.tuple #[.agg (paC p b (.slice none 0 0) (.slice none 0 0)), .bool true]) ∧ Bz Pm w1.heap.size (fun _ => False) w1 w' p b (td0 2 tw) (td0 2 tw)) := hid (by
    have hlen := wdL_len tw 40
    have hrd : RdS .u64 w1 (fun g => g < w1.heap.size) (.slice (some ⟨W.heap.size, 0, none⟩) 40 40) (wdL tw 40) := by
      refine ⟨some ⟨W.heap.size, 0, none⟩, 40, by rw [hlen], by rw [hlen]; exact Nat.le_refl 40, by decide, by rw [hlen]; show 40 * 8 ≤ _; decide, fun z hz => wdL_wfB htw z hz, fun _ => ⟨W.heap.size, 0, rfl, (Array.getElem?_eq_some_iff.1 hblk).1, (Array.getElem?_eq_some_iff.1 hblk).1, fun j hj => ?_⟩⟩
      rw [hlen] at hj
      rw [nth_wdB tw hj, Nat.zero_add]
      exact row_c (i := j) hblk (wa_get tw hj)
    exact lbegins_any hM hN ((2 : Nat) : Int) 2000 (by decide) (by decide) (by decide) tw 40 _ _ hrd)
  have HAW := hid (fun (w : World) (h : Below W.heap.size W w) => bawake_any hM hN w (hp.self h))
  have n0 : (td0 2 tw).n = 2 ∨ (td0 2 tw).n = 3 := .inl rfl
  have HC1a := hid (fun (X' : Nat → Prop) (W' wx : World) (lo p b : Nat) (S2 : Ms) (hz : Bz Pm lo X' W' wx p b (td0 2 tw) S2) => qpub hM (shI hM) a hz (td0_bq (n := 2) (by decide) htw) (by decide) n0 ha)
  have HC2a := hid (fun (X' : Nat → Prop) (W' wx : World) (lo p b : Nat) (S2 : Ms) (hz : Bz Pm lo X' W' wx p b (td1 2 tw a) S2) (hpv : Pv wx) (hg : gpair < lo) => qfold hM K (tdA 2 tw a) 16 hz hpv hg q1 (by decide) q3 hK q2)
  have HB2 := hid q4
  have HE2 := hid q5
  have HY2 := hid q6
  have HD2 := hid q7
  have HRD : Hid (∀ w, Calls Tryd.prog 11 #[.int .i64 2] w fun e w' => e = .returned (.int .i64 2) ∧ w' = w) := hid (fun w => rbdr_any 2 w)
  obtain ⟨qq, hqq⟩ : ∃ qq, decide (a % 65536 ≠ 0) = qq := ⟨_, rfl⟩
  obtain ⟨v5, hv5⟩ : ∃ v5, vlN (td2 2 tw a (isDom K) 16).v (td2 2 tw a (isDom K) 16).L (tdR 2 tw a (isDom K) 16) = v5 := ⟨_, rfl⟩
  rw [hv5] at q8
  have e22 : ((v5 : Int)).tmod 2 = ((v5 % 2 : Nat) : Int) := by rw [Int.tmod_eq_emod_of_nonneg (by omega)]; omega
  obtain ⟨m5, hm5⟩ : ∃ m5, v5 % 2 = m5 := ⟨_, rfl⟩
  rw [hm5] at e22 q8
  have hm2 : m5 < 2 := by omega
  have e23 : ((m5 : Int) == 1) = qq := by
    rw [← hqq]
    by_cases h : m5 = 1
    · rw [decide_eq_true (q8.1 h), h]; rfl
    · rw [decide_eq_false (fun h2 => h (q8.2 h2))]; simp; omega
  have HV5 := hid hv5
  have e62 : ((a : Int)).tmod 65536 = ((a % 65536 : Nat) : Int) := by rw [Int.tmod_eq_emod_of_nonneg (by omega)]; omega
  obtain ⟨r, hr⟩ : ∃ r, a % 65536 = r := ⟨_, rfl⟩
  rw [hr] at e62
  have e63 : ((r : Int) != 0) = qq := by rw [← hqq, ← hr]; by_cases h : a % 65536 = 0 <;> simp [h] <;> omega
  have er : ((Wd : Int)).tmod 6 = 3 := by rw [Int.tmod_eq_emod_of_nonneg (by omega)]; omega
  have ew : IntKind.i64.wrap (Wd : Int) = (Wd : Int) := by rw [IntKind.wrap_i64]; omega
  have HW := hid hw1
  clear q1 q2 q3 q4 q5 q6 q7 q8 hl hlow hp1 hblk hw1 htw hp hK n0 hqq hv5 hm5 hm2 hwd hwk ha hr
  have HS2 : Hid (td2 2 tw a (isDom K) 16 = bfS (td1 2 tw a) (isDom K) (tdA 2 tw a) 16 ∧ tdR 2 tw a (isDom K) 16 = bfR (td1 2 tw a) (isDom K) (tdA 2 tw a) 16) := hid ⟨rfl, rfl⟩
  have HS1 : Hid (td1 2 tw a = cstS (td0 2 tw) 3 a ∧ tdA 2 tw a = cstR (td0 2 tw) 3 a) := hid ⟨rfl, rfl⟩
  simp only [← HS2.out.1, ← HS2.out.2] at HC2a
  simp only [← HS1.out.1, ← HS1.out.2] at HC1a
  clear HS2 HS1
  obtain ⟨S2, hS2⟩ : ∃ S2, td2 2 tw a (isDom K) 16 = S2 := ⟨_, rfl⟩
  obtain ⟨R2, hR2⟩ : ∃ R2, tdR 2 tw a (isDom K) 16 = R2 := ⟨_, rfl⟩
  simp only [hS2, hR2] at HC2a HB2 HE2 HY2 HD2 HV5
  clear hS2 hR2
  obtain ⟨S1, hS1⟩ : ∃ S1, td1 2 tw a = S1 := ⟨_, rfl⟩
  obtain ⟨A1, hA1⟩ : ∃ A1, tdA 2 tw a = A1 := ⟨_, rfl⟩
  simp only [hS1, hA1] at HC1a HC2a
  clear hS1 hA1
  obtain ⟨sN, hsN⟩ : ∃ sN : Nat → Nat, ∀ i, 2 ^ i = sN i := ⟨_, fun _ => rfl⟩
  have HSN : Hid (∀ i, 2 * sN i = sN (i + 1)) := hid (fun i => by rw [← hsN i, ← hsN (i + 1), Nat.pow_succ, Nat.mul_comm])
  have HS0 : Hid (sN 0 = 1) := hid (hsN 0).symm
  have HSK : Hid (sN 4 = 16) := hid (hsN 4).symm
  have HSB : Hid (∀ i, i ≤ 6 → sN i ≤ 64) := hid (fun i hi => by rw [← hsN i]; exact Nat.le_trans (Nat.pow_le_pow_right (by decide) hi) (by decide))
  clear hsN
  go_enter Tryd.func3, Tryd.ntmps3
  go_upto_region 1 with fail
  rw [HW.out]
  go_upto_region 7 with fail
  go_loopw [13, 14] (fun sv iv wr => ∃ i : Nat, i ≤ 4 ∧ iv = .int .i64 (i : Int) ∧ sv = .int .i64 (sN i : Int) ∧ w1 = wr) (fun _ iv _ => 4 - (intOf iv).toNat)
  case atStart => exact ⟨0, by omega, rfl, by rw [HS0.out]; rfl, rfl⟩
  case round =>
    obtain ⟨i, hi, rfl, rfl, rfl⟩ := hrel
    have hb := HSB.out i (by omega)
    have hn := HSN.out i
    have hb1 := HSB.out (i + 1)
    by_cases hlt : i < 4
    · have j1 : (i : Int) < 4 := by omega
      have j0 : (0 : Int) ≤ (i : Int) := by omega
      have em : IntKind.i64.wrap (2 * (sN i : Int)) = (sN (i + 1) : Int) := by rw [IntKind.wrap_i64]; omega
      clear hb hn hb1
      go_wp2
      go_roundw
      case rel => exact ⟨i + 1, by omega, by go_num, by first | rw [em] | rfl, by first | trivial | rfl⟩
      case measure => simp [intOf]; omega
    · obtain rfl : i = 4 := by omega
      rw [HSK.out]
      rw [show ((4 : Nat) : Int) = 4 from rfl, show ((16 : Nat) : Int) = 16 from rfl]
      clear hb hn hb1 hlt hi HSN HSB HS0 HSK
      go_upto_region 11 with (go_at_call 4; (with_reducible refine (HBG.out).mono ?_); rintro e w2 ⟨p, b, rfl, hz⟩; have Z2 := hid hz; clear hz)
      have H3 := hid ((Gy.start Z2.out).new hM (paC p b (.slice none 0 0) (.slice none 0 0)) 29)
      obtain ⟨b1, hb1⟩ : ∃ b1, w2.heap.size = b1 := ⟨_, rfl⟩
      rw [hb1] at H3
      generalize w2.alloc (.cells #[.pointer (some ⟨p, 0, none⟩), .pointer (some ⟨b, 0, none⟩), .slice none 0 0, .slice none 0 0] 29) = w3' at *
      try rw [hb1]
      clear hb1 HBG HW
      have HC1 := hid (fun (wx : World) (bs : List (Nat × Obj)) (h : Gy Pm w1.heap.size (fun _ => False) w1 w2 wx p b (td0 2 tw) (td0 2 tw) bs) => h.lift (f := 6) (args := #[.pointer (some ⟨p, 0, none⟩), .int .u64 (a : Int)]) (E := fun e => e = .returned (.agg (wdV A1))) (S1' := S1) (S2' := (td0 2 tw)) (fun X' W' hz => HC1a.out X' W' wx _ p b _ hz))
      have HC2 := hid (fun (wx : World) (bs : List (Nat × Obj)) (h : Gy Pm w1.heap.size (fun _ => False) w1 w2 wx p b S1 (td0 2 tw) bs) => h.lift (f := 5) (args := #[.pointer (some ⟨p, 0, none⟩), .int .i64 K, .agg (wdV A1), .int .i64 16]) (E := fun e => e = .returned (.agg (wdV R2))) (S1' := S2) (S2' := (td0 2 tw)) (fun X' W' hz => HC2a.out X' W' wx _ p b _ hz (Pv.bz HP1.out HGL.out h.z) HGL.out))
      have HVL : Hid (∀ (w : World) (bs : List (Nat × Obj)), Gy Pm w1.heap.size (fun _ => False) w1 w2 w p b S2 (td0 2 tw) bs → Calls Tryd.prog 8 #[.pointer (some ⟨p, 0, none⟩)] w fun e w' => (∃ v, e = .returned v ∧ Rd .u64 w' v (wdL S2.v S2.L)) ∧ Below w.heap.size w w') := hid (fun w bs h => (zvalues hM h.z HB2.out (by decide)).mono fun _ _ ⟨v, e1, e2, e3⟩ => ⟨⟨v, e1, by rw [show S2.keep S2.L = S2.L by unfold Ms.keep; rw [HY2.out]; rfl] at e2; exact e2⟩, e3⟩)
      have HVV : Hid (∀ (v : Value) (w : World), Rd .u64 w v (wdL S2.v S2.L) → Calls Tryd.prog 7 #[v, .agg (wdV R2)] w fun e w' => e = .returned (.int .u64 (v5 : Nat)) ∧ Below w.heap.size w w') := hid (fun v w h => by
        have := (shI hM).value v _ _ R2 w h (fun i hi => HB2.out.v i hi)
        rw [HV5.out] at this
        exact this)
      have HER : Hid (∀ (w : World) (bs : List (Nat × Obj)), Gy Pm w1.heap.size (fun _ => False) w1 w2 w p b S2 (td0 2 tw) bs → Calls Tryd.prog 9 #[.pointer (some ⟨p, 0, none⟩)] w fun e w' => e = .returned (.int .i64 0) ∧ Below w.heap.size w w') := hid (fun w bs h => by
        have := zerr hM h.z HB2.out (by decide)
        rw [HE2.out] at this
        exact this)
      have HDW : Hid (∀ (w : World) (bs : List (Nat × Obj)), Gy Pm w1.heap.size (fun _ => False) w1 w2 w p b S2 (td0 2 tw) bs → Calls Tryd.prog 10 #[.pointer (some ⟨p, 0, none⟩)] w fun e w' => e = .returned (.int .i64 8) ∧ Below w.heap.size w w') := hid (fun w bs h => by
        have := zdraws hM h.z HB2.out (by decide)
        rw [HD2.out] at this
        exact this)
      clear HC1a HC2a HV5 HE2 HD2
      go_upto_region 13 with fail
      go_cut [17] from 40 to 48 (fun q3 wx => ∃ b3, q3 = .pointer (some ⟨b3, 0, none⟩) ∧ Gy Pm w1.heap.size (fun _ => False) w1 w2 wx p b S2 (td0 2 tw) [(b3, .cells (wdV R2) 34 (0, 0)), (b1, .cells (paC p b (.slice none 0 0) (.slice none 0 0)) 29 (0, 0))])
      case first =>
        have G0 := hid (H3.out.self hM ((Below.refl _ w3').drew))
        refine wp_region_noPanic ?_
        refine wp_region_held_drew (S := fun w' => w'.heap[b1]? = some (.cells (paC p b (.slice none 0 0) (.slice none 0 0)) 29 (0, 0))) (by kernel_rfl) (G0.out.mem (by simp)) (fun h0 => ?_)
        generalize w3'.drew = q0 at *
        refine wpAnyH_take (i := 0) (v := .pointer (some ⟨b1, 0, none⟩)) rfl (by kernel_rfl) (by kernel_rfl) (by kernel_rfl) (fun _ _ _ h => h) (.inl ⟨by rfl, fun w hw => by clear hw; go_simp⟩) h0 ?_
        try simp only [Act.put, lay_out]
        refine wpAnyH_take (i := 1) (v := .pointer (some ⟨p, 0, none⟩)) rfl (by kernel_rfl) (by kernel_rfl) (by kernel_rfl) (fun _ _ _ h => h) (.inl ⟨by rfl, fun w' hw => by have hc := row_c (i := 0) (u := .pointer (some ⟨p, 0, none⟩)) hw rfl; clear hw; go_simp⟩) h0 ?_
        try simp only [Act.put, lay_out]
        refine wpAnyH_take (i := 3) (v := .pointer (some ⟨b1, 0, none⟩)) rfl (by kernel_rfl) (by kernel_rfl) (by kernel_rfl) (fun _ _ _ h => h) (.inl ⟨by rfl, fun w hw => by clear hw; go_simp⟩) h0 ?_
        try simp only [Act.put, lay_out]
        refine wpAnyH_take (i := 4) (v := .pointer (some ⟨p, 0, none⟩)) rfl (by kernel_rfl) (by kernel_rfl) (by kernel_rfl) (fun _ _ _ h => h) (.inl ⟨by rfl, fun w' hw => by have hc := row_c (i := 0) (u := .pointer (some ⟨p, 0, none⟩)) hw rfl; clear hw; go_simp⟩) h0 ?_
        try simp only [Act.put, lay_out]
        refine wpAnyH_take (i := 2) (v := .int .i64 K) rfl (by kernel_rfl) (by kernel_rfl) (by kernel_rfl) (fun _ _ _ h => h) (.inl ⟨by rfl, fun w hw => by clear hw; go_simp⟩) h0 ?_
        try simp only [Act.put, lay_out]
        refine wpAnyH_take (i := 5) (v := .int .u64 (a : Int)) rfl (by kernel_rfl) (by kernel_rfl) (by kernel_rfl) (fun _ _ _ h => h) (.inl ⟨by rfl, fun w hw => by clear hw; go_simp⟩) h0 ?_
        try simp only [Act.put, lay_out]
        refine wpAnyH_take (i := 7) (v := .int .i64 16) rfl (by kernel_rfl) (by kernel_rfl) (by kernel_rfl) (fun _ _ _ h => h) (.inl ⟨by rfl, fun w hw => by clear hw; go_simp⟩) h0 ?_
        try simp only [Act.put, lay_out]
        refine wpAnyH_ready (rs := [6, 9]) (by kernel_rfl) (by simp) (AllReadyH.cons rfl (fun K hK => ?_) (AllReadyH.cons rfl (fun K hK => ?_) AllReadyH.nil))
        · rw [if_pos (by rfl)]
          go_simp
          go_at_call 6
          (with_reducible refine (HC1.out _ _ G0.out).mono ?_); rintro e q1 ⟨rfl, hz⟩
          have G1 := hid hz
          clear hz
          refine hK.out _ _ (G1.out.mem (by simp)) (fun h1x => ?_)
          clear hK K
          try simp only [Act.put, lay_out]
          refine wpAnyH_ready (rs := [8, 9]) (by kernel_rfl) (by simp) (AllReadyH.cons rfl (fun K hK => ?_) (AllReadyH.cons rfl (fun K hK => ?_) AllReadyH.nil))
          · rw [if_pos (by rfl)]
            go_simp
            go_at_call 5
            (with_reducible refine (HC2.out _ _ G1.out).mono ?_); rintro e q2 ⟨rfl, hz⟩
            have G2 := hid hz
            clear hz
            refine hK.out _ _ (G2.out.mem (by simp)) (fun h2x => ?_)
            clear hK K
            try simp only [Act.put, lay_out]
            refine wpAnyH_ready (rs := [9]) (by kernel_rfl) (by simp) (AllReadyH.cons rfl (fun K hK => ?_) AllReadyH.nil)
            rw [if_pos (by rfl)]
            go_simp
            have G3 := hid (G2.out.new hM #[.int .i64 0, .int .i64 0, .int .i64 0] 34)
            refine hK.out _ _ (G3.out.mem (by simp)) (fun h3x => ?_)
            clear hK K
            try simp only [Act.put, lay_out]
            generalize q2.alloc (.cells #[.int .i64 0, .int .i64 0, .int .i64 0] 34) = q3 at *
            refine wpAnyH_ready (rs := [10]) (by kernel_rfl) (by simp) (AllReadyH.cons rfl (fun K hK => ?_) AllReadyH.nil)
            rw [if_pos (by rfl)]
            refine wp_store_row 34 _ _ rfl (q2.heap.size) (wdV R2) rfl rfl 34 _ (G3.out.bl 0 rfl) (by kernel_rfl) rfl (by kernel_rfl) ?_
            have G4 := hid (G3.out.row hM (wdV R2))
            refine hK.out _ _ (G4.out.mem (by simp)) (fun h4x => ?_)
            clear hK K
            try simp only [Act.put, lay_out]
            refine wpAnyH_done (by kernel_rfl) ?_ _
            refine NoPanic.normal ?_
            clear h0 h1x h2x h3x h4x
            try simp only [Act.put, lay_out]
            go_wp2_with fail
            go_meet
            exact ⟨_, rfl, G4.out⟩
          · rw [if_pos (by rfl)]
            go_simp
            have G2 := hid (G1.out.new hM #[.int .i64 0, .int .i64 0, .int .i64 0] 34)
            refine hK.out _ _ (G2.out.mem (by simp)) (fun h2x => ?_)
            clear hK K
            try simp only [Act.put, lay_out]
            generalize q1.alloc (.cells #[.int .i64 0, .int .i64 0, .int .i64 0] 34) = q2 at *
            refine wpAnyH_ready (rs := [8]) (by kernel_rfl) (by simp) (AllReadyH.cons rfl (fun K hK => ?_) AllReadyH.nil)
            rw [if_pos (by rfl)]
            go_simp
            go_at_call 5
            (with_reducible refine (HC2.out _ _ G2.out).mono ?_); rintro e q3 ⟨rfl, hz⟩
            have G3 := hid hz
            clear hz
            refine hK.out _ _ (G3.out.mem (by simp)) (fun h3x => ?_)
            clear hK K
            try simp only [Act.put, lay_out]
            refine wpAnyH_ready (rs := [10]) (by kernel_rfl) (by simp) (AllReadyH.cons rfl (fun K hK => ?_) AllReadyH.nil)
            rw [if_pos (by rfl)]
            refine wp_store_row 34 _ _ rfl (q1.heap.size) (wdV R2) rfl rfl 34 _ (G3.out.bl 0 rfl) (by kernel_rfl) rfl (by kernel_rfl) ?_
            have G4 := hid (G3.out.row hM (wdV R2))
            refine hK.out _ _ (G4.out.mem (by simp)) (fun h4x => ?_)
            clear hK K
            try simp only [Act.put, lay_out]
            refine wpAnyH_done (by kernel_rfl) ?_ _
            refine NoPanic.normal ?_
            clear h0 h1x h2x h3x h4x
            try simp only [Act.put, lay_out]
            go_wp2_with fail
            go_meet
            exact ⟨_, rfl, G4.out⟩
        · rw [if_pos (by rfl)]
          go_simp
          have G1 := hid (G0.out.new hM #[.int .i64 0, .int .i64 0, .int .i64 0] 34)
          refine hK.out _ _ (G1.out.mem (by simp)) (fun h1x => ?_)
          clear hK K
          try simp only [Act.put, lay_out]
          generalize q0.alloc (.cells #[.int .i64 0, .int .i64 0, .int .i64 0] 34) = q1 at *
          refine wpAnyH_ready (rs := [6]) (by kernel_rfl) (by simp) (AllReadyH.cons rfl (fun K hK => ?_) AllReadyH.nil)
          rw [if_pos (by rfl)]
          go_simp
          go_at_call 6
          (with_reducible refine (HC1.out _ _ G1.out).mono ?_); rintro e q2 ⟨rfl, hz⟩
          have G2 := hid hz
          clear hz
          refine hK.out _ _ (G2.out.mem (by simp)) (fun h2x => ?_)
          clear hK K
          try simp only [Act.put, lay_out]
          refine wpAnyH_ready (rs := [8]) (by kernel_rfl) (by simp) (AllReadyH.cons rfl (fun K hK => ?_) AllReadyH.nil)
          rw [if_pos (by rfl)]
          go_simp
          go_at_call 5
          (with_reducible refine (HC2.out _ _ G2.out).mono ?_); rintro e q3 ⟨rfl, hz⟩
          have G3 := hid hz
          clear hz
          refine hK.out _ _ (G3.out.mem (by simp)) (fun h3x => ?_)
          clear hK K
          try simp only [Act.put, lay_out]
          refine wpAnyH_ready (rs := [10]) (by kernel_rfl) (by simp) (AllReadyH.cons rfl (fun K hK => ?_) AllReadyH.nil)
          rw [if_pos (by rfl)]
          refine wp_store_row 34 _ _ rfl (q0.heap.size) (wdV R2) rfl rfl 34 _ (G3.out.bl 0 rfl) (by kernel_rfl) rfl (by kernel_rfl) ?_
          have G4 := hid (G3.out.row hM (wdV R2))
          refine hK.out _ _ (G4.out.mem (by simp)) (fun h4x => ?_)
          clear hK K
          try simp only [Act.put, lay_out]
          refine wpAnyH_done (by kernel_rfl) ?_ _
          refine NoPanic.normal ?_
          clear h0 h1x h2x h3x h4x
          try simp only [Act.put, lay_out]
          go_wp2_with fail
          go_meet
          exact ⟨_, rfl, G4.out⟩
      case rest =>
        obtain ⟨b3, rfl, hcut⟩ := hcut
        have H8 := hid hcut
        clear hcut H3 HC1 HC2
        generalize wc = w8 at *
        go_upto_region 14 with fail
        have G0 := hid (H8.out.self hM ((Below.refl _ w8).drew))
        refine wp_region_noPanic ?_
        refine wp_region_held_drew (S := fun w' => w'.heap[b1]? = some (.cells (paC p b (.slice none 0 0) (.slice none 0 0)) 29 (0, 0)) ∧ w'.heap[b3]? = some (.cells (wdV R2) 34 (0, 0))) (by kernel_rfl) (⟨G0.out.bl 1 rfl, G0.out.bl 0 rfl⟩) (fun h0 => ?_)
        generalize w8.drew = y0 at *
        refine wpAnyH_take (i := 0) (v := .pointer (some ⟨b1, 0, none⟩)) rfl (by kernel_rfl) (by kernel_rfl) (by kernel_rfl) (fun _ _ _ h => h) (.inl ⟨by rfl, fun w hw => by clear hw; go_simp⟩) h0 ?_
        try simp only [Act.put, lay_out]
        refine wpAnyH_take (i := 1) (v := .pointer (some ⟨p, 0, none⟩)) rfl (by kernel_rfl) (by kernel_rfl) (by kernel_rfl) (fun _ _ _ h => h) (.inl ⟨by rfl, fun w' hw => by have hc := row_c (i := 0) (u := .pointer (some ⟨p, 0, none⟩)) hw.1 rfl; clear hw; go_simp⟩) h0 ?_
        try simp only [Act.put, lay_out]
        refine wpAnyH_take (i := 3) (v := .agg (wdV R2)) rfl (by kernel_rfl) (by kernel_rfl) (by kernel_rfl) (fun _ _ _ h => h) (yields_load_row (by rfl) 34 _ rfl b3 34 (wdV R2) _ rfl (fun w h => h.2) Tryd.underlying34 rfl (by kernel_rfl)) h0 ?_
        try simp only [Act.put, lay_out]
        refine wpAnyH_ready (rs := [2]) (by kernel_rfl) (by simp) (AllReadyH.cons rfl (fun K hK => ?_) AllReadyH.nil)
        rw [if_pos (by rfl)]
        go_simp
        go_at_call 8
        (with_reducible refine (HVL.out _ _ G0.out).mono ?_); rintro e y1 ⟨⟨v, rfl, hv⟩, hb⟩
        have G1 := hid (G0.out.self hM hb)
        have V1 := hid hv
        clear hb hv
        refine hK.out _ _ (⟨G1.out.bl 1 rfl, G1.out.bl 0 rfl⟩) (fun h1x => ?_)
        clear hK K
        try simp only [Act.put, lay_out]
        refine wpAnyH_ready (rs := [4]) (by kernel_rfl) (by simp) (AllReadyH.cons rfl (fun K hK => ?_) AllReadyH.nil)
        rw [if_pos (by rfl)]
        go_simp
        go_at_call 7
        (with_reducible refine (HVV.out _ _ V1.out).mono ?_); rintro e y2 ⟨rfl, hb⟩
        have G2 := hid (G1.out.self hM hb)
        clear hb
        refine hK.out _ _ (⟨G2.out.bl 1 rfl, G2.out.bl 0 rfl⟩) (fun h2x => ?_)
        clear hK K
        try simp only [Act.put, lay_out]
        refine wpAnyH_take (i := 5) (v := .int .u64 (v5 : Int)) rfl (by kernel_rfl) (by kernel_rfl) (by kernel_rfl) (fun _ _ _ h => h) (.inl ⟨by rfl, fun w hw => by clear hw; go_simp⟩) h2x ?_
        try simp only [Act.put, lay_out]
        refine wpAnyH_done (by kernel_rfl) ?_ _
        refine NoPanic.normal ?_
        clear h0 h1x h2x
        try simp only [Act.put, lay_out]
        have c1 := row_c (i := 0) (u := .pointer (some ⟨p, 0, none⟩)) (G2.out.bl 1 rfl) rfl
        go_wp2_with (first
          | (go_at_call 9; (with_reducible refine (HER.out _ _ G2.out).mono ?_); rintro e wA ⟨rfl, hb⟩; have GA := hid (G2.out.self hM hb); clear hb c1; have c2 := row_c (i := 0) (u := .pointer (some ⟨p, 0, none⟩)) (GA.out.bl 1 rfl) rfl)
          | (go_at_call 10; (with_reducible refine (HDW.out _ _ GA.out).mono ?_); rintro e wB ⟨rfl, hb⟩; have GB := hid (GA.out.self hM hb); clear hb c2)
          | (go_at_call 11; (with_reducible refine (HRD.out _).mono ?_); rintro e wC ⟨rfl, rfl⟩)
          | (go_at_call 12; (with_reducible refine (HAW.out _ (HWJ.out.trans (GB.out.z.low.mono HWJ.out.size))).mono ?_); rintro e wz ⟨rfl, hb⟩; have HZ := hid ((HWJ.out.trans (GB.out.z.low.mono HWJ.out.size)).trans (hb.mono (HWJ.out.trans (GB.out.z.low.mono HWJ.out.size)).size)); clear hb))
        go_ret
        exact ⟨rfl, HZ.out⟩
set_option maxHeartbeats 12800000 in
theorem bfolds2_5 {Pm : World → Nat → Ms → (Nat → Prop) → Prop} (hM : Mach Pm) (hN : MachN Pm) (K : Int) (hK : I64 K) (a : Nat) (ha : a < 2 ^ 64) (Wd : Nat) (hwd : Wd < 256) (hwk : Wd % 6 = 4) (tw : Nat → Nat) (htw : ∀ i, i < 40 → tw i < 2 ^ 64) (W : World) (hp : Pv W) :
    Calls Tryd.prog 3 #[.bool false, .int .i64 K, .int .u64 (a : Int), .int .u8 (Wd : Int), .agg (wa 40 tw)] W fun e w' => e = .returned (.bool true) ∧ Below W.heap.size W w' := by
  obtain ⟨q1, q2, q3, q4, q5, q6, q7, q8⟩ := td_all (n := 2) (by decide) htw ha (isDom K) 32
  have hl : lgW 32 = 5 := by decide
  rw [hl, show (2 : Nat) ^ (2 ^ 5) = 4294967296 by decide] at q8
  rw [hl, show 5 * dN ((2 : Nat) : Int) = 10 by decide] at q7
  have hlow := (Below.refl W.heap.size W).alloc (Nat.le_refl _) (.cells (wa 40 tw) 23)
  obtain ⟨w1, hw1⟩ : ∃ w1, W.alloc (.cells (wa 40 tw) 23) = w1 := ⟨_, rfl⟩
  rw [hw1] at hlow
  have HWJ := hid hlow
  have hp1 := hp.self hlow
  have HP1 := hid hp1
  have HGL : Hid (gpair < w1.heap.size) := hid hp1.1
  have hblk : w1.heap[W.heap.size]? = some (.cells (wa 40 tw) 23 (0, 0)) := by rw [← hw1]; exact heap_alloc_new _ _
  have HBG : Hid (Calls Tryd.prog 4 #[.int .i64 2, .slice (some ⟨W.heap.size, 0, none⟩) 40 40, .int .i64 2000] w1 fun e w' => ∃ p b, e = .returned (.tuple #[.agg (paC p b (.slice none 0 0) (.slice none 0 0)), .bool true]) ∧ Bz Pm w1.heap.size (fun _ => False) w1 w' p b (td0 2 tw) (td0 2 tw)) := hid (by
    have hlen := wdL_len tw 40
    have hrd : RdS .u64 w1 (fun g => g < w1.heap.size) (.slice (some ⟨W.heap.size, 0, none⟩) 40 40) (wdL tw 40) := by
      refine ⟨some ⟨W.heap.size, 0, none⟩, 40, by rw [hlen], by rw [hlen]; exact Nat.le_refl 40, by decide, by rw [hlen]; show 40 * 8 ≤ _; decide, fun z hz => wdL_wfB htw z hz, fun _ => ⟨W.heap.size, 0, rfl, (Array.getElem?_eq_some_iff.1 hblk).1, (Array.getElem?_eq_some_iff.1 hblk).1, fun j hj => ?_⟩⟩
      rw [hlen] at hj
      rw [nth_wdB tw hj, Nat.zero_add]
      exact row_c (i := j) hblk (wa_get tw hj)
    exact lbegins_any hM hN ((2 : Nat) : Int) 2000 (by decide) (by decide) (by decide) tw 40 _ _ hrd)
  have HAW := hid (fun (w : World) (h : Below W.heap.size W w) => bawake_any hM hN w (hp.self h))
  have n0 : (td0 2 tw).n = 2 ∨ (td0 2 tw).n = 3 := .inl rfl
  have HC1a := hid (fun (X' : Nat → Prop) (W' wx : World) (lo p b : Nat) (S2 : Ms) (hz : Bz Pm lo X' W' wx p b (td0 2 tw) S2) => qpub hM (shI hM) a hz (td0_bq (n := 2) (by decide) htw) (by decide) n0 ha)
  have HC2a := hid (fun (X' : Nat → Prop) (W' wx : World) (lo p b : Nat) (S2 : Ms) (hz : Bz Pm lo X' W' wx p b (td1 2 tw a) S2) (hpv : Pv wx) (hg : gpair < lo) => qfold hM K (tdA 2 tw a) 32 hz hpv hg q1 (by decide) q3 hK q2)
  have HB2 := hid q4
  have HE2 := hid q5
  have HY2 := hid q6
  have HD2 := hid q7
  have HRD : Hid (∀ w, Calls Tryd.prog 11 #[.int .i64 2] w fun e w' => e = .returned (.int .i64 2) ∧ w' = w) := hid (fun w => rbdr_any 2 w)
  obtain ⟨qq, hqq⟩ : ∃ qq, decide (a % 4294967296 ≠ 0) = qq := ⟨_, rfl⟩
  obtain ⟨v5, hv5⟩ : ∃ v5, vlN (td2 2 tw a (isDom K) 32).v (td2 2 tw a (isDom K) 32).L (tdR 2 tw a (isDom K) 32) = v5 := ⟨_, rfl⟩
  rw [hv5] at q8
  have e22 : ((v5 : Int)).tmod 2 = ((v5 % 2 : Nat) : Int) := by rw [Int.tmod_eq_emod_of_nonneg (by omega)]; omega
  obtain ⟨m5, hm5⟩ : ∃ m5, v5 % 2 = m5 := ⟨_, rfl⟩
  rw [hm5] at e22 q8
  have hm2 : m5 < 2 := by omega
  have e23 : ((m5 : Int) == 1) = qq := by
    rw [← hqq]
    by_cases h : m5 = 1
    · rw [decide_eq_true (q8.1 h), h]; rfl
    · rw [decide_eq_false (fun h2 => h (q8.2 h2))]; simp; omega
  have HV5 := hid hv5
  have e62 : ((a : Int)).tmod 4294967296 = ((a % 4294967296 : Nat) : Int) := by rw [Int.tmod_eq_emod_of_nonneg (by omega)]; omega
  obtain ⟨r, hr⟩ : ∃ r, a % 4294967296 = r := ⟨_, rfl⟩
  rw [hr] at e62
  have e63 : ((r : Int) != 0) = qq := by rw [← hqq, ← hr]; by_cases h : a % 4294967296 = 0 <;> simp [h] <;> omega
  have er : ((Wd : Int)).tmod 6 = 4 := by rw [Int.tmod_eq_emod_of_nonneg (by omega)]; omega
  have ew : IntKind.i64.wrap (Wd : Int) = (Wd : Int) := by rw [IntKind.wrap_i64]; omega
  have HW := hid hw1
  clear q1 q2 q3 q4 q5 q6 q7 q8 hl hlow hp1 hblk hw1 htw hp hK n0 hqq hv5 hm5 hm2 hwd hwk ha hr
  have HS2 : Hid (td2 2 tw a (isDom K) 32 = bfS (td1 2 tw a) (isDom K) (tdA 2 tw a) 32 ∧ tdR 2 tw a (isDom K) 32 = bfR (td1 2 tw a) (isDom K) (tdA 2 tw a) 32) := hid ⟨rfl, rfl⟩
  have HS1 : Hid (td1 2 tw a = cstS (td0 2 tw) 3 a ∧ tdA 2 tw a = cstR (td0 2 tw) 3 a) := hid ⟨rfl, rfl⟩
  simp only [← HS2.out.1, ← HS2.out.2] at HC2a
  simp only [← HS1.out.1, ← HS1.out.2] at HC1a
  clear HS2 HS1
  obtain ⟨S2, hS2⟩ : ∃ S2, td2 2 tw a (isDom K) 32 = S2 := ⟨_, rfl⟩
  obtain ⟨R2, hR2⟩ : ∃ R2, tdR 2 tw a (isDom K) 32 = R2 := ⟨_, rfl⟩
  simp only [hS2, hR2] at HC2a HB2 HE2 HY2 HD2 HV5
  clear hS2 hR2
  obtain ⟨S1, hS1⟩ : ∃ S1, td1 2 tw a = S1 := ⟨_, rfl⟩
  obtain ⟨A1, hA1⟩ : ∃ A1, tdA 2 tw a = A1 := ⟨_, rfl⟩
  simp only [hS1, hA1] at HC1a HC2a
  clear hS1 hA1
  obtain ⟨sN, hsN⟩ : ∃ sN : Nat → Nat, ∀ i, 2 ^ i = sN i := ⟨_, fun _ => rfl⟩
  have HSN : Hid (∀ i, 2 * sN i = sN (i + 1)) := hid (fun i => by rw [← hsN i, ← hsN (i + 1), Nat.pow_succ, Nat.mul_comm])
  have HS0 : Hid (sN 0 = 1) := hid (hsN 0).symm
  have HSK : Hid (sN 5 = 32) := hid (hsN 5).symm
  have HSB : Hid (∀ i, i ≤ 6 → sN i ≤ 64) := hid (fun i hi => by rw [← hsN i]; exact Nat.le_trans (Nat.pow_le_pow_right (by decide) hi) (by decide))
  clear hsN
  go_enter Tryd.func3, Tryd.ntmps3
  go_upto_region 1 with fail
  rw [HW.out]
  go_upto_region 7 with fail
  go_loopw [13, 14] (fun sv iv wr => ∃ i : Nat, i ≤ 5 ∧ iv = .int .i64 (i : Int) ∧ sv = .int .i64 (sN i : Int) ∧ w1 = wr) (fun _ iv _ => 5 - (intOf iv).toNat)
  case atStart => exact ⟨0, by omega, rfl, by rw [HS0.out]; rfl, rfl⟩
  case round =>
    obtain ⟨i, hi, rfl, rfl, rfl⟩ := hrel
    have hb := HSB.out i (by omega)
    have hn := HSN.out i
    have hb1 := HSB.out (i + 1)
    by_cases hlt : i < 5
    · have j1 : (i : Int) < 5 := by omega
      have j0 : (0 : Int) ≤ (i : Int) := by omega
      have em : IntKind.i64.wrap (2 * (sN i : Int)) = (sN (i + 1) : Int) := by rw [IntKind.wrap_i64]; omega
      clear hb hn hb1
      go_wp2
      go_roundw
      case rel => exact ⟨i + 1, by omega, by go_num, by first | rw [em] | rfl, by first | trivial | rfl⟩
      case measure => simp [intOf]; omega
    · obtain rfl : i = 5 := by omega
      rw [HSK.out]
      rw [show ((5 : Nat) : Int) = 5 from rfl, show ((32 : Nat) : Int) = 32 from rfl]
      clear hb hn hb1 hlt hi HSN HSB HS0 HSK
      go_upto_region 11 with (go_at_call 4; (with_reducible refine (HBG.out).mono ?_); rintro e w2 ⟨p, b, rfl, hz⟩; have Z2 := hid hz; clear hz)
      have H3 := hid ((Gy.start Z2.out).new hM (paC p b (.slice none 0 0) (.slice none 0 0)) 29)
      obtain ⟨b1, hb1⟩ : ∃ b1, w2.heap.size = b1 := ⟨_, rfl⟩
      rw [hb1] at H3
      generalize w2.alloc (.cells #[.pointer (some ⟨p, 0, none⟩), .pointer (some ⟨b, 0, none⟩), .slice none 0 0, .slice none 0 0] 29) = w3' at *
      try rw [hb1]
      clear hb1 HBG HW
      have HC1 := hid (fun (wx : World) (bs : List (Nat × Obj)) (h : Gy Pm w1.heap.size (fun _ => False) w1 w2 wx p b (td0 2 tw) (td0 2 tw) bs) => h.lift (f := 6) (args := #[.pointer (some ⟨p, 0, none⟩), .int .u64 (a : Int)]) (E := fun e => e = .returned (.agg (wdV A1))) (S1' := S1) (S2' := (td0 2 tw)) (fun X' W' hz => HC1a.out X' W' wx _ p b _ hz))
      have HC2 := hid (fun (wx : World) (bs : List (Nat × Obj)) (h : Gy Pm w1.heap.size (fun _ => False) w1 w2 wx p b S1 (td0 2 tw) bs) => h.lift (f := 5) (args := #[.pointer (some ⟨p, 0, none⟩), .int .i64 K, .agg (wdV A1), .int .i64 32]) (E := fun e => e = .returned (.agg (wdV R2))) (S1' := S2) (S2' := (td0 2 tw)) (fun X' W' hz => HC2a.out X' W' wx _ p b _ hz (Pv.bz HP1.out HGL.out h.z) HGL.out))
      have HVL : Hid (∀ (w : World) (bs : List (Nat × Obj)), Gy Pm w1.heap.size (fun _ => False) w1 w2 w p b S2 (td0 2 tw) bs → Calls Tryd.prog 8 #[.pointer (some ⟨p, 0, none⟩)] w fun e w' => (∃ v, e = .returned v ∧ Rd .u64 w' v (wdL S2.v S2.L)) ∧ Below w.heap.size w w') := hid (fun w bs h => (zvalues hM h.z HB2.out (by decide)).mono fun _ _ ⟨v, e1, e2, e3⟩ => ⟨⟨v, e1, by rw [show S2.keep S2.L = S2.L by unfold Ms.keep; rw [HY2.out]; rfl] at e2; exact e2⟩, e3⟩)
      have HVV : Hid (∀ (v : Value) (w : World), Rd .u64 w v (wdL S2.v S2.L) → Calls Tryd.prog 7 #[v, .agg (wdV R2)] w fun e w' => e = .returned (.int .u64 (v5 : Nat)) ∧ Below w.heap.size w w') := hid (fun v w h => by
        have := (shI hM).value v _ _ R2 w h (fun i hi => HB2.out.v i hi)
        rw [HV5.out] at this
        exact this)
      have HER : Hid (∀ (w : World) (bs : List (Nat × Obj)), Gy Pm w1.heap.size (fun _ => False) w1 w2 w p b S2 (td0 2 tw) bs → Calls Tryd.prog 9 #[.pointer (some ⟨p, 0, none⟩)] w fun e w' => e = .returned (.int .i64 0) ∧ Below w.heap.size w w') := hid (fun w bs h => by
        have := zerr hM h.z HB2.out (by decide)
        rw [HE2.out] at this
        exact this)
      have HDW : Hid (∀ (w : World) (bs : List (Nat × Obj)), Gy Pm w1.heap.size (fun _ => False) w1 w2 w p b S2 (td0 2 tw) bs → Calls Tryd.prog 10 #[.pointer (some ⟨p, 0, none⟩)] w fun e w' => e = .returned (.int .i64 10) ∧ Below w.heap.size w w') := hid (fun w bs h => by
        have := zdraws hM h.z HB2.out (by decide)
        rw [HD2.out] at this
        exact this)
      clear HC1a HC2a HV5 HE2 HD2
      go_upto_region 13 with fail
      go_cut [17] from 40 to 48 (fun q3 wx => ∃ b3, q3 = .pointer (some ⟨b3, 0, none⟩) ∧ Gy Pm w1.heap.size (fun _ => False) w1 w2 wx p b S2 (td0 2 tw) [(b3, .cells (wdV R2) 34 (0, 0)), (b1, .cells (paC p b (.slice none 0 0) (.slice none 0 0)) 29 (0, 0))])
      case first =>
        have G0 := hid (H3.out.self hM ((Below.refl _ w3').drew))
        refine wp_region_noPanic ?_
        refine wp_region_held_drew (S := fun w' => w'.heap[b1]? = some (.cells (paC p b (.slice none 0 0) (.slice none 0 0)) 29 (0, 0))) (by kernel_rfl) (G0.out.mem (by simp)) (fun h0 => ?_)
        generalize w3'.drew = q0 at *
        refine wpAnyH_take (i := 0) (v := .pointer (some ⟨b1, 0, none⟩)) rfl (by kernel_rfl) (by kernel_rfl) (by kernel_rfl) (fun _ _ _ h => h) (.inl ⟨by rfl, fun w hw => by clear hw; go_simp⟩) h0 ?_
        try simp only [Act.put, lay_out]
        refine wpAnyH_take (i := 1) (v := .pointer (some ⟨p, 0, none⟩)) rfl (by kernel_rfl) (by kernel_rfl) (by kernel_rfl) (fun _ _ _ h => h) (.inl ⟨by rfl, fun w' hw => by have hc := row_c (i := 0) (u := .pointer (some ⟨p, 0, none⟩)) hw rfl; clear hw; go_simp⟩) h0 ?_
        try simp only [Act.put, lay_out]
        refine wpAnyH_take (i := 3) (v := .pointer (some ⟨b1, 0, none⟩)) rfl (by kernel_rfl) (by kernel_rfl) (by kernel_rfl) (fun _ _ _ h => h) (.inl ⟨by rfl, fun w hw => by clear hw; go_simp⟩) h0 ?_
        try simp only [Act.put, lay_out]
        refine wpAnyH_take (i := 4) (v := .pointer (some ⟨p, 0, none⟩)) rfl (by kernel_rfl) (by kernel_rfl) (by kernel_rfl) (fun _ _ _ h => h) (.inl ⟨by rfl, fun w' hw => by have hc := row_c (i := 0) (u := .pointer (some ⟨p, 0, none⟩)) hw rfl; clear hw; go_simp⟩) h0 ?_
        try simp only [Act.put, lay_out]
        refine wpAnyH_take (i := 2) (v := .int .i64 K) rfl (by kernel_rfl) (by kernel_rfl) (by kernel_rfl) (fun _ _ _ h => h) (.inl ⟨by rfl, fun w hw => by clear hw; go_simp⟩) h0 ?_
        try simp only [Act.put, lay_out]
        refine wpAnyH_take (i := 5) (v := .int .u64 (a : Int)) rfl (by kernel_rfl) (by kernel_rfl) (by kernel_rfl) (fun _ _ _ h => h) (.inl ⟨by rfl, fun w hw => by clear hw; go_simp⟩) h0 ?_
        try simp only [Act.put, lay_out]
        refine wpAnyH_take (i := 7) (v := .int .i64 32) rfl (by kernel_rfl) (by kernel_rfl) (by kernel_rfl) (fun _ _ _ h => h) (.inl ⟨by rfl, fun w hw => by clear hw; go_simp⟩) h0 ?_
        try simp only [Act.put, lay_out]
        refine wpAnyH_ready (rs := [6, 9]) (by kernel_rfl) (by simp) (AllReadyH.cons rfl (fun K hK => ?_) (AllReadyH.cons rfl (fun K hK => ?_) AllReadyH.nil))
        · rw [if_pos (by rfl)]
          go_simp
          go_at_call 6
          (with_reducible refine (HC1.out _ _ G0.out).mono ?_); rintro e q1 ⟨rfl, hz⟩
          have G1 := hid hz
          clear hz
          refine hK.out _ _ (G1.out.mem (by simp)) (fun h1x => ?_)
          clear hK K
          try simp only [Act.put, lay_out]
          refine wpAnyH_ready (rs := [8, 9]) (by kernel_rfl) (by simp) (AllReadyH.cons rfl (fun K hK => ?_) (AllReadyH.cons rfl (fun K hK => ?_) AllReadyH.nil))
          · rw [if_pos (by rfl)]
            go_simp
            go_at_call 5
            (with_reducible refine (HC2.out _ _ G1.out).mono ?_); rintro e q2 ⟨rfl, hz⟩
            have G2 := hid hz
            clear hz
            refine hK.out _ _ (G2.out.mem (by simp)) (fun h2x => ?_)
            clear hK K
            try simp only [Act.put, lay_out]
            refine wpAnyH_ready (rs := [9]) (by kernel_rfl) (by simp) (AllReadyH.cons rfl (fun K hK => ?_) AllReadyH.nil)
            rw [if_pos (by rfl)]
            go_simp
            have G3 := hid (G2.out.new hM #[.int .i64 0, .int .i64 0, .int .i64 0] 34)
            refine hK.out _ _ (G3.out.mem (by simp)) (fun h3x => ?_)
            clear hK K
            try simp only [Act.put, lay_out]
            generalize q2.alloc (.cells #[.int .i64 0, .int .i64 0, .int .i64 0] 34) = q3 at *
            refine wpAnyH_ready (rs := [10]) (by kernel_rfl) (by simp) (AllReadyH.cons rfl (fun K hK => ?_) AllReadyH.nil)
            rw [if_pos (by rfl)]
            refine wp_store_row 34 _ _ rfl (q2.heap.size) (wdV R2) rfl rfl 34 _ (G3.out.bl 0 rfl) (by kernel_rfl) rfl (by kernel_rfl) ?_
            have G4 := hid (G3.out.row hM (wdV R2))
            refine hK.out _ _ (G4.out.mem (by simp)) (fun h4x => ?_)
            clear hK K
            try simp only [Act.put, lay_out]
            refine wpAnyH_done (by kernel_rfl) ?_ _
            refine NoPanic.normal ?_
            clear h0 h1x h2x h3x h4x
            try simp only [Act.put, lay_out]
            go_wp2_with fail
            go_meet
            exact ⟨_, rfl, G4.out⟩
          · rw [if_pos (by rfl)]
            go_simp
            have G2 := hid (G1.out.new hM #[.int .i64 0, .int .i64 0, .int .i64 0] 34)
            refine hK.out _ _ (G2.out.mem (by simp)) (fun h2x => ?_)
            clear hK K
            try simp only [Act.put, lay_out]
            generalize q1.alloc (.cells #[.int .i64 0, .int .i64 0, .int .i64 0] 34) = q2 at *
            refine wpAnyH_ready (rs := [8]) (by kernel_rfl) (by simp) (AllReadyH.cons rfl (fun K hK => ?_) AllReadyH.nil)
            rw [if_pos (by rfl)]
            go_simp
            go_at_call 5
            (with_reducible refine (HC2.out _ _ G2.out).mono ?_); rintro e q3 ⟨rfl, hz⟩
            have G3 := hid hz
            clear hz
            refine hK.out _ _ (G3.out.mem (by simp)) (fun h3x => ?_)
            clear hK K
            try simp only [Act.put, lay_out]
            refine wpAnyH_ready (rs := [10]) (by kernel_rfl) (by simp) (AllReadyH.cons rfl (fun K hK => ?_) AllReadyH.nil)
            rw [if_pos (by rfl)]
            refine wp_store_row 34 _ _ rfl (q1.heap.size) (wdV R2) rfl rfl 34 _ (G3.out.bl 0 rfl) (by kernel_rfl) rfl (by kernel_rfl) ?_
            have G4 := hid (G3.out.row hM (wdV R2))
            refine hK.out _ _ (G4.out.mem (by simp)) (fun h4x => ?_)
            clear hK K
            try simp only [Act.put, lay_out]
            refine wpAnyH_done (by kernel_rfl) ?_ _
            refine NoPanic.normal ?_
            clear h0 h1x h2x h3x h4x
            try simp only [Act.put, lay_out]
            go_wp2_with fail
            go_meet
            exact ⟨_, rfl, G4.out⟩
        · rw [if_pos (by rfl)]
          go_simp
          have G1 := hid (G0.out.new hM #[.int .i64 0, .int .i64 0, .int .i64 0] 34)
          refine hK.out _ _ (G1.out.mem (by simp)) (fun h1x => ?_)
          clear hK K
          try simp only [Act.put, lay_out]
          generalize q0.alloc (.cells #[.int .i64 0, .int .i64 0, .int .i64 0] 34) = q1 at *
          refine wpAnyH_ready (rs := [6]) (by kernel_rfl) (by simp) (AllReadyH.cons rfl (fun K hK => ?_) AllReadyH.nil)
          rw [if_pos (by rfl)]
          go_simp
          go_at_call 6
          (with_reducible refine (HC1.out _ _ G1.out).mono ?_); rintro e q2 ⟨rfl, hz⟩
          have G2 := hid hz
          clear hz
          refine hK.out _ _ (G2.out.mem (by simp)) (fun h2x => ?_)
          clear hK K
          try simp only [Act.put, lay_out]
          refine wpAnyH_ready (rs := [8]) (by kernel_rfl) (by simp) (AllReadyH.cons rfl (fun K hK => ?_) AllReadyH.nil)
          rw [if_pos (by rfl)]
          go_simp
          go_at_call 5
          (with_reducible refine (HC2.out _ _ G2.out).mono ?_); rintro e q3 ⟨rfl, hz⟩
          have G3 := hid hz
          clear hz
          refine hK.out _ _ (G3.out.mem (by simp)) (fun h3x => ?_)
          clear hK K
          try simp only [Act.put, lay_out]
          refine wpAnyH_ready (rs := [10]) (by kernel_rfl) (by simp) (AllReadyH.cons rfl (fun K hK => ?_) AllReadyH.nil)
          rw [if_pos (by rfl)]
          refine wp_store_row 34 _ _ rfl (q0.heap.size) (wdV R2) rfl rfl 34 _ (G3.out.bl 0 rfl) (by kernel_rfl) rfl (by kernel_rfl) ?_
          have G4 := hid (G3.out.row hM (wdV R2))
          refine hK.out _ _ (G4.out.mem (by simp)) (fun h4x => ?_)
          clear hK K
          try simp only [Act.put, lay_out]
          refine wpAnyH_done (by kernel_rfl) ?_ _
          refine NoPanic.normal ?_
          clear h0 h1x h2x h3x h4x
          try simp only [Act.put, lay_out]
          go_wp2_with fail
          go_meet
          exact ⟨_, rfl, G4.out⟩
      case rest =>
        obtain ⟨b3, rfl, hcut⟩ := hcut
        have H8 := hid hcut
        clear hcut H3 HC1 HC2
        generalize wc = w8 at *
        go_upto_region 14 with fail
        have G0 := hid (H8.out.self hM ((Below.refl _ w8).drew))
        refine wp_region_noPanic ?_
        refine wp_region_held_drew (S := fun w' => w'.heap[b1]? = some (.cells (paC p b (.slice none 0 0) (.slice none 0 0)) 29 (0, 0)) ∧ w'.heap[b3]? = some (.cells (wdV R2) 34 (0, 0))) (by kernel_rfl) (⟨G0.out.bl 1 rfl, G0.out.bl 0 rfl⟩) (fun h0 => ?_)
        generalize w8.drew = y0 at *
        refine wpAnyH_take (i := 0) (v := .pointer (some ⟨b1, 0, none⟩)) rfl (by kernel_rfl) (by kernel_rfl) (by kernel_rfl) (fun _ _ _ h => h) (.inl ⟨by rfl, fun w hw => by clear hw; go_simp⟩) h0 ?_
        try simp only [Act.put, lay_out]
        refine wpAnyH_take (i := 1) (v := .pointer (some ⟨p, 0, none⟩)) rfl (by kernel_rfl) (by kernel_rfl) (by kernel_rfl) (fun _ _ _ h => h) (.inl ⟨by rfl, fun w' hw => by have hc := row_c (i := 0) (u := .pointer (some ⟨p, 0, none⟩)) hw.1 rfl; clear hw; go_simp⟩) h0 ?_
        try simp only [Act.put, lay_out]
        refine wpAnyH_take (i := 3) (v := .agg (wdV R2)) rfl (by kernel_rfl) (by kernel_rfl) (by kernel_rfl) (fun _ _ _ h => h) (yields_load_row (by rfl) 34 _ rfl b3 34 (wdV R2) _ rfl (fun w h => h.2) Tryd.underlying34 rfl (by kernel_rfl)) h0 ?_
        try simp only [Act.put, lay_out]
        refine wpAnyH_ready (rs := [2]) (by kernel_rfl) (by simp) (AllReadyH.cons rfl (fun K hK => ?_) AllReadyH.nil)
        rw [if_pos (by rfl)]
        go_simp
        go_at_call 8
        (with_reducible refine (HVL.out _ _ G0.out).mono ?_); rintro e y1 ⟨⟨v, rfl, hv⟩, hb⟩
        have G1 := hid (G0.out.self hM hb)
        have V1 := hid hv
        clear hb hv
        refine hK.out _ _ (⟨G1.out.bl 1 rfl, G1.out.bl 0 rfl⟩) (fun h1x => ?_)
        clear hK K
        try simp only [Act.put, lay_out]
        refine wpAnyH_ready (rs := [4]) (by kernel_rfl) (by simp) (AllReadyH.cons rfl (fun K hK => ?_) AllReadyH.nil)
        rw [if_pos (by rfl)]
        go_simp
        go_at_call 7
        (with_reducible refine (HVV.out _ _ V1.out).mono ?_); rintro e y2 ⟨rfl, hb⟩
        have G2 := hid (G1.out.self hM hb)
        clear hb
        refine hK.out _ _ (⟨G2.out.bl 1 rfl, G2.out.bl 0 rfl⟩) (fun h2x => ?_)
        clear hK K
        try simp only [Act.put, lay_out]
        refine wpAnyH_take (i := 5) (v := .int .u64 (v5 : Int)) rfl (by kernel_rfl) (by kernel_rfl) (by kernel_rfl) (fun _ _ _ h => h) (.inl ⟨by rfl, fun w hw => by clear hw; go_simp⟩) h2x ?_
        try simp only [Act.put, lay_out]
        refine wpAnyH_done (by kernel_rfl) ?_ _
        refine NoPanic.normal ?_
        clear h0 h1x h2x
        try simp only [Act.put, lay_out]
        have c1 := row_c (i := 0) (u := .pointer (some ⟨p, 0, none⟩)) (G2.out.bl 1 rfl) rfl
        go_wp2_with (first
          | (go_at_call 9; (with_reducible refine (HER.out _ _ G2.out).mono ?_); rintro e wA ⟨rfl, hb⟩; have GA := hid (G2.out.self hM hb); clear hb c1; have c2 := row_c (i := 0) (u := .pointer (some ⟨p, 0, none⟩)) (GA.out.bl 1 rfl) rfl)
          | (go_at_call 10; (with_reducible refine (HDW.out _ _ GA.out).mono ?_); rintro e wB ⟨rfl, hb⟩; have GB := hid (GA.out.self hM hb); clear hb c2)
          | (go_at_call 11; (with_reducible refine (HRD.out _).mono ?_); rintro e wC ⟨rfl, rfl⟩)
          | (go_at_call 12; (with_reducible refine (HAW.out _ (HWJ.out.trans (GB.out.z.low.mono HWJ.out.size))).mono ?_); rintro e wz ⟨rfl, hb⟩; have HZ := hid ((HWJ.out.trans (GB.out.z.low.mono HWJ.out.size)).trans (hb.mono (HWJ.out.trans (GB.out.z.low.mono HWJ.out.size)).size)); clear hb))
        go_ret
        exact ⟨rfl, HZ.out⟩
set_option maxHeartbeats 12800000 in
theorem bfolds2_6 {Pm : World → Nat → Ms → (Nat → Prop) → Prop} (hM : Mach Pm) (hN : MachN Pm) (K : Int) (hK : I64 K) (a : Nat) (ha : a < 2 ^ 64) (Wd : Nat) (hwd : Wd < 256) (hwk : Wd % 6 = 5) (tw : Nat → Nat) (htw : ∀ i, i < 40 → tw i < 2 ^ 64) (W : World) (hp : Pv W) :
    Calls Tryd.prog 3 #[.bool false, .int .i64 K, .int .u64 (a : Int), .int .u8 (Wd : Int), .agg (wa 40 tw)] W fun e w' => e = .returned (.bool true) ∧ Below W.heap.size W w' := by
  obtain ⟨q1, q2, q3, q4, q5, q6, q7, q8⟩ := td_all (n := 2) (by decide) htw ha (isDom K) 64
  have hl : lgW 64 = 6 := by decide
  rw [hl, show (2 : Nat) ^ (2 ^ 6) = 18446744073709551616 by decide, Nat.mod_eq_of_lt ha] at q8
  rw [hl, show 6 * dN ((2 : Nat) : Int) = 12 by decide] at q7
  have hlow := (Below.refl W.heap.size W).alloc (Nat.le_refl _) (.cells (wa 40 tw) 23)
  obtain ⟨w1, hw1⟩ : ∃ w1, W.alloc (.cells (wa 40 tw) 23) = w1 := ⟨_, rfl⟩
  rw [hw1] at hlow
  have HWJ := hid hlow
  have hp1 := hp.self hlow
  have HP1 := hid hp1
  have HGL : Hid (gpair < w1.heap.size) := hid hp1.1
  have hblk : w1.heap[W.heap.size]? = some (.cells (wa 40 tw) 23 (0, 0)) := by rw [← hw1]; exact heap_alloc_new _ _
  have HBG : Hid (Calls Tryd.prog 4 #[.int .i64 2, .slice (some ⟨W.heap.size, 0, none⟩) 40 40, .int .i64 2000] w1 fun e w' => ∃ p b, e = .returned (.tuple #[.agg (paC p b (.slice none 0 0) (.slice none 0 0)), .bool true]) ∧ Bz Pm w1.heap.size (fun _ => False) w1 w' p b (td0 2 tw) (td0 2 tw)) := hid (by
    have hlen := wdL_len tw 40
    have hrd : RdS .u64 w1 (fun g => g < w1.heap.size) (.slice (some ⟨W.heap.size, 0, none⟩) 40 40) (wdL tw 40) := by
      refine ⟨some ⟨W.heap.size, 0, none⟩, 40, by rw [hlen], by rw [hlen]; exact Nat.le_refl 40, by decide, by rw [hlen]; show 40 * 8 ≤ _; decide, fun z hz => wdL_wfB htw z hz, fun _ => ⟨W.heap.size, 0, rfl, (Array.getElem?_eq_some_iff.1 hblk).1, (Array.getElem?_eq_some_iff.1 hblk).1, fun j hj => ?_⟩⟩
      rw [hlen] at hj
      rw [nth_wdB tw hj, Nat.zero_add]
      exact row_c (i := j) hblk (wa_get tw hj)
    exact lbegins_any hM hN ((2 : Nat) : Int) 2000 (by decide) (by decide) (by decide) tw 40 _ _ hrd)
  have HAW := hid (fun (w : World) (h : Below W.heap.size W w) => bawake_any hM hN w (hp.self h))
  have n0 : (td0 2 tw).n = 2 ∨ (td0 2 tw).n = 3 := .inl rfl
  have HC1a := hid (fun (X' : Nat → Prop) (W' wx : World) (lo p b : Nat) (S2 : Ms) (hz : Bz Pm lo X' W' wx p b (td0 2 tw) S2) => qpub hM (shI hM) a hz (td0_bq (n := 2) (by decide) htw) (by decide) n0 ha)
  have HC2a := hid (fun (X' : Nat → Prop) (W' wx : World) (lo p b : Nat) (S2 : Ms) (hz : Bz Pm lo X' W' wx p b (td1 2 tw a) S2) (hpv : Pv wx) (hg : gpair < lo) => qfold hM K (tdA 2 tw a) 64 hz hpv hg q1 (by decide) q3 hK q2)
  have HB2 := hid q4
  have HE2 := hid q5
  have HY2 := hid q6
  have HD2 := hid q7
  have HRD : Hid (∀ w, Calls Tryd.prog 11 #[.int .i64 2] w fun e w' => e = .returned (.int .i64 2) ∧ w' = w) := hid (fun w => rbdr_any 2 w)
  obtain ⟨qq, hqq⟩ : ∃ qq, decide (a ≠ 0) = qq := ⟨_, rfl⟩
  obtain ⟨v5, hv5⟩ : ∃ v5, vlN (td2 2 tw a (isDom K) 64).v (td2 2 tw a (isDom K) 64).L (tdR 2 tw a (isDom K) 64) = v5 := ⟨_, rfl⟩
  rw [hv5] at q8
  have e22 : ((v5 : Int)).tmod 2 = ((v5 % 2 : Nat) : Int) := by rw [Int.tmod_eq_emod_of_nonneg (by omega)]; omega
  obtain ⟨m5, hm5⟩ : ∃ m5, v5 % 2 = m5 := ⟨_, rfl⟩
  rw [hm5] at e22 q8
  have hm2 : m5 < 2 := by omega
  have e23 : ((m5 : Int) == 1) = qq := by
    rw [← hqq]
    by_cases h : m5 = 1
    · rw [decide_eq_true (q8.1 h), h]; rfl
    · rw [decide_eq_false (fun h2 => h (q8.2 h2))]; simp; omega
  have HV5 := hid hv5
  have e63 : ((a : Int) != 0) = qq := by rw [← hqq]; by_cases h : a = 0 <;> simp [h] <;> omega
  have er : ((Wd : Int)).tmod 6 = 5 := by rw [Int.tmod_eq_emod_of_nonneg (by omega)]; omega
  have ew : IntKind.i64.wrap (Wd : Int) = (Wd : Int) := by rw [IntKind.wrap_i64]; omega
  have HW := hid hw1
  clear q1 q2 q3 q4 q5 q6 q7 q8 hl hlow hp1 hblk hw1 htw hp hK n0 hqq hv5 hm5 hm2 hwd hwk ha
  have HS2 : Hid (td2 2 tw a (isDom K) 64 = bfS (td1 2 tw a) (isDom K) (tdA 2 tw a) 64 ∧ tdR 2 tw a (isDom K) 64 = bfR (td1 2 tw a) (isDom K) (tdA 2 tw a) 64) := hid ⟨rfl, rfl⟩
  have HS1 : Hid (td1 2 tw a = cstS (td0 2 tw) 3 a ∧ tdA 2 tw a = cstR (td0 2 tw) 3 a) := hid ⟨rfl, rfl⟩
  simp only [← HS2.out.1, ← HS2.out.2] at HC2a
  simp only [← HS1.out.1, ← HS1.out.2] at HC1a
  clear HS2 HS1
  obtain ⟨S2, hS2⟩ : ∃ S2, td2 2 tw a (isDom K) 64 = S2 := ⟨_, rfl⟩
  obtain ⟨R2, hR2⟩ : ∃ R2, tdR 2 tw a (isDom K) 64 = R2 := ⟨_, rfl⟩
  simp only [hS2, hR2] at HC2a HB2 HE2 HY2 HD2 HV5
  clear hS2 hR2
  obtain ⟨S1, hS1⟩ : ∃ S1, td1 2 tw a = S1 := ⟨_, rfl⟩
  obtain ⟨A1, hA1⟩ : ∃ A1, tdA 2 tw a = A1 := ⟨_, rfl⟩
  simp only [hS1, hA1] at HC1a HC2a
  clear hS1 hA1
  obtain ⟨sN, hsN⟩ : ∃ sN : Nat → Nat, ∀ i, 2 ^ i = sN i := ⟨_, fun _ => rfl⟩
  have HSN : Hid (∀ i, 2 * sN i = sN (i + 1)) := hid (fun i => by rw [← hsN i, ← hsN (i + 1), Nat.pow_succ, Nat.mul_comm])
  have HS0 : Hid (sN 0 = 1) := hid (hsN 0).symm
  have HSK : Hid (sN 6 = 64) := hid (hsN 6).symm
  have HSB : Hid (∀ i, i ≤ 6 → sN i ≤ 64) := hid (fun i hi => by rw [← hsN i]; exact Nat.le_trans (Nat.pow_le_pow_right (by decide) hi) (by decide))
  clear hsN
  go_enter Tryd.func3, Tryd.ntmps3
  go_upto_region 1 with fail
  rw [HW.out]
  go_upto_region 7 with fail
  go_loopw [13, 14] (fun sv iv wr => ∃ i : Nat, i ≤ 6 ∧ iv = .int .i64 (i : Int) ∧ sv = .int .i64 (sN i : Int) ∧ w1 = wr) (fun _ iv _ => 6 - (intOf iv).toNat)
  case atStart => exact ⟨0, by omega, rfl, by rw [HS0.out]; rfl, rfl⟩
  case round =>
    obtain ⟨i, hi, rfl, rfl, rfl⟩ := hrel
    have hb := HSB.out i (by omega)
    have hn := HSN.out i
    have hb1 := HSB.out (i + 1)
    by_cases hlt : i < 6
    · have j1 : (i : Int) < 6 := by omega
      have j0 : (0 : Int) ≤ (i : Int) := by omega
      have em : IntKind.i64.wrap (2 * (sN i : Int)) = (sN (i + 1) : Int) := by rw [IntKind.wrap_i64]; omega
      clear hb hn hb1
      go_wp2
      go_roundw
      case rel => exact ⟨i + 1, by omega, by go_num, by first | rw [em] | rfl, by first | trivial | rfl⟩
      case measure => simp [intOf]; omega
    · obtain rfl : i = 6 := by omega
      rw [HSK.out]
      rw [show ((6 : Nat) : Int) = 6 from rfl, show ((64 : Nat) : Int) = 64 from rfl]
      clear hb hn hb1 hlt hi HSN HSB HS0 HSK
      go_upto_region 11 with (go_at_call 4; (with_reducible refine (HBG.out).mono ?_); rintro e w2 ⟨p, b, rfl, hz⟩; have Z2 := hid hz; clear hz)
      have H3 := hid ((Gy.start Z2.out).new hM (paC p b (.slice none 0 0) (.slice none 0 0)) 29)
      obtain ⟨b1, hb1⟩ : ∃ b1, w2.heap.size = b1 := ⟨_, rfl⟩
      rw [hb1] at H3
      generalize w2.alloc (.cells #[.pointer (some ⟨p, 0, none⟩), .pointer (some ⟨b, 0, none⟩), .slice none 0 0, .slice none 0 0] 29) = w3' at *
      try rw [hb1]
      clear hb1 HBG HW
      have HC1 := hid (fun (wx : World) (bs : List (Nat × Obj)) (h : Gy Pm w1.heap.size (fun _ => False) w1 w2 wx p b (td0 2 tw) (td0 2 tw) bs) => h.lift (f := 6) (args := #[.pointer (some ⟨p, 0, none⟩), .int .u64 (a : Int)]) (E := fun e => e = .returned (.agg (wdV A1))) (S1' := S1) (S2' := (td0 2 tw)) (fun X' W' hz => HC1a.out X' W' wx _ p b _ hz))
      have HC2 := hid (fun (wx : World) (bs : List (Nat × Obj)) (h : Gy Pm w1.heap.size (fun _ => False) w1 w2 wx p b S1 (td0 2 tw) bs) => h.lift (f := 5) (args := #[.pointer (some ⟨p, 0, none⟩), .int .i64 K, .agg (wdV A1), .int .i64 64]) (E := fun e => e = .returned (.agg (wdV R2))) (S1' := S2) (S2' := (td0 2 tw)) (fun X' W' hz => HC2a.out X' W' wx _ p b _ hz (Pv.bz HP1.out HGL.out h.z) HGL.out))
      have HVL : Hid (∀ (w : World) (bs : List (Nat × Obj)), Gy Pm w1.heap.size (fun _ => False) w1 w2 w p b S2 (td0 2 tw) bs → Calls Tryd.prog 8 #[.pointer (some ⟨p, 0, none⟩)] w fun e w' => (∃ v, e = .returned v ∧ Rd .u64 w' v (wdL S2.v S2.L)) ∧ Below w.heap.size w w') := hid (fun w bs h => (zvalues hM h.z HB2.out (by decide)).mono fun _ _ ⟨v, e1, e2, e3⟩ => ⟨⟨v, e1, by rw [show S2.keep S2.L = S2.L by unfold Ms.keep; rw [HY2.out]; rfl] at e2; exact e2⟩, e3⟩)
      have HVV : Hid (∀ (v : Value) (w : World), Rd .u64 w v (wdL S2.v S2.L) → Calls Tryd.prog 7 #[v, .agg (wdV R2)] w fun e w' => e = .returned (.int .u64 (v5 : Nat)) ∧ Below w.heap.size w w') := hid (fun v w h => by
        have := (shI hM).value v _ _ R2 w h (fun i hi => HB2.out.v i hi)
        rw [HV5.out] at this
        exact this)
      have HER : Hid (∀ (w : World) (bs : List (Nat × Obj)), Gy Pm w1.heap.size (fun _ => False) w1 w2 w p b S2 (td0 2 tw) bs → Calls Tryd.prog 9 #[.pointer (some ⟨p, 0, none⟩)] w fun e w' => e = .returned (.int .i64 0) ∧ Below w.heap.size w w') := hid (fun w bs h => by
        have := zerr hM h.z HB2.out (by decide)
        rw [HE2.out] at this
        exact this)
      have HDW : Hid (∀ (w : World) (bs : List (Nat × Obj)), Gy Pm w1.heap.size (fun _ => False) w1 w2 w p b S2 (td0 2 tw) bs → Calls Tryd.prog 10 #[.pointer (some ⟨p, 0, none⟩)] w fun e w' => e = .returned (.int .i64 12) ∧ Below w.heap.size w w') := hid (fun w bs h => by
        have := zdraws hM h.z HB2.out (by decide)
        rw [HD2.out] at this
        exact this)
      clear HC1a HC2a HV5 HE2 HD2
      go_upto_region 13 with fail
      go_cut [17] from 40 to 48 (fun q3 wx => ∃ b3, q3 = .pointer (some ⟨b3, 0, none⟩) ∧ Gy Pm w1.heap.size (fun _ => False) w1 w2 wx p b S2 (td0 2 tw) [(b3, .cells (wdV R2) 34 (0, 0)), (b1, .cells (paC p b (.slice none 0 0) (.slice none 0 0)) 29 (0, 0))])
      case first =>
        have G0 := hid (H3.out.self hM ((Below.refl _ w3').drew))
        refine wp_region_noPanic ?_
        refine wp_region_held_drew (S := fun w' => w'.heap[b1]? = some (.cells (paC p b (.slice none 0 0) (.slice none 0 0)) 29 (0, 0))) (by kernel_rfl) (G0.out.mem (by simp)) (fun h0 => ?_)
        generalize w3'.drew = q0 at *
        refine wpAnyH_take (i := 0) (v := .pointer (some ⟨b1, 0, none⟩)) rfl (by kernel_rfl) (by kernel_rfl) (by kernel_rfl) (fun _ _ _ h => h) (.inl ⟨by rfl, fun w hw => by clear hw; go_simp⟩) h0 ?_
        try simp only [Act.put, lay_out]
        refine wpAnyH_take (i := 1) (v := .pointer (some ⟨p, 0, none⟩)) rfl (by kernel_rfl) (by kernel_rfl) (by kernel_rfl) (fun _ _ _ h => h) (.inl ⟨by rfl, fun w' hw => by have hc := row_c (i := 0) (u := .pointer (some ⟨p, 0, none⟩)) hw rfl; clear hw; go_simp⟩) h0 ?_
        try simp only [Act.put, lay_out]
        refine wpAnyH_take (i := 3) (v := .pointer (some ⟨b1, 0, none⟩)) rfl (by kernel_rfl) (by kernel_rfl) (by kernel_rfl) (fun _ _ _ h => h) (.inl ⟨by rfl, fun w hw => by clear hw; go_simp⟩) h0 ?_
        try simp only [Act.put, lay_out]
        refine wpAnyH_take (i := 4) (v := .pointer (some ⟨p, 0, none⟩)) rfl (by kernel_rfl) (by kernel_rfl) (by kernel_rfl) (fun _ _ _ h => h) (.inl ⟨by rfl, fun w' hw => by have hc := row_c (i := 0) (u := .pointer (some ⟨p, 0, none⟩)) hw rfl; clear hw; go_simp⟩) h0 ?_
        try simp only [Act.put, lay_out]
        refine wpAnyH_take (i := 2) (v := .int .i64 K) rfl (by kernel_rfl) (by kernel_rfl) (by kernel_rfl) (fun _ _ _ h => h) (.inl ⟨by rfl, fun w hw => by clear hw; go_simp⟩) h0 ?_
        try simp only [Act.put, lay_out]
        refine wpAnyH_take (i := 5) (v := .int .u64 (a : Int)) rfl (by kernel_rfl) (by kernel_rfl) (by kernel_rfl) (fun _ _ _ h => h) (.inl ⟨by rfl, fun w hw => by clear hw; go_simp⟩) h0 ?_
        try simp only [Act.put, lay_out]
        refine wpAnyH_take (i := 7) (v := .int .i64 64) rfl (by kernel_rfl) (by kernel_rfl) (by kernel_rfl) (fun _ _ _ h => h) (.inl ⟨by rfl, fun w hw => by clear hw; go_simp⟩) h0 ?_
        try simp only [Act.put, lay_out]
        refine wpAnyH_ready (rs := [6, 9]) (by kernel_rfl) (by simp) (AllReadyH.cons rfl (fun K hK => ?_) (AllReadyH.cons rfl (fun K hK => ?_) AllReadyH.nil))
        · rw [if_pos (by rfl)]
          go_simp
          go_at_call 6
          (with_reducible refine (HC1.out _ _ G0.out).mono ?_); rintro e q1 ⟨rfl, hz⟩
          have G1 := hid hz
          clear hz
          refine hK.out _ _ (G1.out.mem (by simp)) (fun h1x => ?_)
          clear hK K
          try simp only [Act.put, lay_out]
          refine wpAnyH_ready (rs := [8, 9]) (by kernel_rfl) (by simp) (AllReadyH.cons rfl (fun K hK => ?_) (AllReadyH.cons rfl (fun K hK => ?_) AllReadyH.nil))
          · rw [if_pos (by rfl)]
            go_simp
            go_at_call 5
            (with_reducible refine (HC2.out _ _ G1.out).mono ?_); rintro e q2 ⟨rfl, hz⟩
            have G2 := hid hz
            clear hz
            refine hK.out _ _ (G2.out.mem (by simp)) (fun h2x => ?_)
            clear hK K
            try simp only [Act.put, lay_out]
            refine wpAnyH_ready (rs := [9]) (by kernel_rfl) (by simp) (AllReadyH.cons rfl (fun K hK => ?_) AllReadyH.nil)
            rw [if_pos (by rfl)]
            go_simp
            have G3 := hid (G2.out.new hM #[.int .i64 0, .int .i64 0, .int .i64 0] 34)
            refine hK.out _ _ (G3.out.mem (by simp)) (fun h3x => ?_)
            clear hK K
            try simp only [Act.put, lay_out]
            generalize q2.alloc (.cells #[.int .i64 0, .int .i64 0, .int .i64 0] 34) = q3 at *
            refine wpAnyH_ready (rs := [10]) (by kernel_rfl) (by simp) (AllReadyH.cons rfl (fun K hK => ?_) AllReadyH.nil)
            rw [if_pos (by rfl)]
            refine wp_store_row 34 _ _ rfl (q2.heap.size) (wdV R2) rfl rfl 34 _ (G3.out.bl 0 rfl) (by kernel_rfl) rfl (by kernel_rfl) ?_
            have G4 := hid (G3.out.row hM (wdV R2))
            refine hK.out _ _ (G4.out.mem (by simp)) (fun h4x => ?_)
            clear hK K
            try simp only [Act.put, lay_out]
            refine wpAnyH_done (by kernel_rfl) ?_ _
            refine NoPanic.normal ?_
            clear h0 h1x h2x h3x h4x
            try simp only [Act.put, lay_out]
            go_wp2_with fail
            go_meet
            exact ⟨_, rfl, G4.out⟩
          · rw [if_pos (by rfl)]
            go_simp
            have G2 := hid (G1.out.new hM #[.int .i64 0, .int .i64 0, .int .i64 0] 34)
            refine hK.out _ _ (G2.out.mem (by simp)) (fun h2x => ?_)
            clear hK K
            try simp only [Act.put, lay_out]
            generalize q1.alloc (.cells #[.int .i64 0, .int .i64 0, .int .i64 0] 34) = q2 at *
            refine wpAnyH_ready (rs := [8]) (by kernel_rfl) (by simp) (AllReadyH.cons rfl (fun K hK => ?_) AllReadyH.nil)
            rw [if_pos (by rfl)]
            go_simp
            go_at_call 5
            (with_reducible refine (HC2.out _ _ G2.out).mono ?_); rintro e q3 ⟨rfl, hz⟩
            have G3 := hid hz
            clear hz
            refine hK.out _ _ (G3.out.mem (by simp)) (fun h3x => ?_)
            clear hK K
            try simp only [Act.put, lay_out]
            refine wpAnyH_ready (rs := [10]) (by kernel_rfl) (by simp) (AllReadyH.cons rfl (fun K hK => ?_) AllReadyH.nil)
            rw [if_pos (by rfl)]
            refine wp_store_row 34 _ _ rfl (q1.heap.size) (wdV R2) rfl rfl 34 _ (G3.out.bl 0 rfl) (by kernel_rfl) rfl (by kernel_rfl) ?_
            have G4 := hid (G3.out.row hM (wdV R2))
            refine hK.out _ _ (G4.out.mem (by simp)) (fun h4x => ?_)
            clear hK K
            try simp only [Act.put, lay_out]
            refine wpAnyH_done (by kernel_rfl) ?_ _
            refine NoPanic.normal ?_
            clear h0 h1x h2x h3x h4x
            try simp only [Act.put, lay_out]
            go_wp2_with fail
            go_meet
            exact ⟨_, rfl, G4.out⟩
        · rw [if_pos (by rfl)]
          go_simp
          have G1 := hid (G0.out.new hM #[.int .i64 0, .int .i64 0, .int .i64 0] 34)
          refine hK.out _ _ (G1.out.mem (by simp)) (fun h1x => ?_)
          clear hK K
          try simp only [Act.put, lay_out]
          generalize q0.alloc (.cells #[.int .i64 0, .int .i64 0, .int .i64 0] 34) = q1 at *
          refine wpAnyH_ready (rs := [6]) (by kernel_rfl) (by simp) (AllReadyH.cons rfl (fun K hK => ?_) AllReadyH.nil)
          rw [if_pos (by rfl)]
          go_simp
          go_at_call 6
          (with_reducible refine (HC1.out _ _ G1.out).mono ?_); rintro e q2 ⟨rfl, hz⟩
          have G2 := hid hz
          clear hz
          refine hK.out _ _ (G2.out.mem (by simp)) (fun h2x => ?_)
          clear hK K
          try simp only [Act.put, lay_out]
          refine wpAnyH_ready (rs := [8]) (by kernel_rfl) (by simp) (AllReadyH.cons rfl (fun K hK => ?_) AllReadyH.nil)
          rw [if_pos (by rfl)]
          go_simp
          go_at_call 5
          (with_reducible refine (HC2.out _ _ G2.out).mono ?_); rintro e q3 ⟨rfl, hz⟩
          have G3 := hid hz
          clear hz
          refine hK.out _ _ (G3.out.mem (by simp)) (fun h3x => ?_)
          clear hK K
          try simp only [Act.put, lay_out]
          refine wpAnyH_ready (rs := [10]) (by kernel_rfl) (by simp) (AllReadyH.cons rfl (fun K hK => ?_) AllReadyH.nil)
          rw [if_pos (by rfl)]
          refine wp_store_row 34 _ _ rfl (q0.heap.size) (wdV R2) rfl rfl 34 _ (G3.out.bl 0 rfl) (by kernel_rfl) rfl (by kernel_rfl) ?_
          have G4 := hid (G3.out.row hM (wdV R2))
          refine hK.out _ _ (G4.out.mem (by simp)) (fun h4x => ?_)
          clear hK K
          try simp only [Act.put, lay_out]
          refine wpAnyH_done (by kernel_rfl) ?_ _
          refine NoPanic.normal ?_
          clear h0 h1x h2x h3x h4x
          try simp only [Act.put, lay_out]
          go_wp2_with fail
          go_meet
          exact ⟨_, rfl, G4.out⟩
      case rest =>
        obtain ⟨b3, rfl, hcut⟩ := hcut
        have H8 := hid hcut
        clear hcut H3 HC1 HC2
        generalize wc = w8 at *
        go_upto_region 14 with fail
        have G0 := hid (H8.out.self hM ((Below.refl _ w8).drew))
        refine wp_region_noPanic ?_
        refine wp_region_held_drew (S := fun w' => w'.heap[b1]? = some (.cells (paC p b (.slice none 0 0) (.slice none 0 0)) 29 (0, 0)) ∧ w'.heap[b3]? = some (.cells (wdV R2) 34 (0, 0))) (by kernel_rfl) (⟨G0.out.bl 1 rfl, G0.out.bl 0 rfl⟩) (fun h0 => ?_)
        generalize w8.drew = y0 at *
        refine wpAnyH_take (i := 0) (v := .pointer (some ⟨b1, 0, none⟩)) rfl (by kernel_rfl) (by kernel_rfl) (by kernel_rfl) (fun _ _ _ h => h) (.inl ⟨by rfl, fun w hw => by clear hw; go_simp⟩) h0 ?_
        try simp only [Act.put, lay_out]
        refine wpAnyH_take (i := 1) (v := .pointer (some ⟨p, 0, none⟩)) rfl (by kernel_rfl) (by kernel_rfl) (by kernel_rfl) (fun _ _ _ h => h) (.inl ⟨by rfl, fun w' hw => by have hc := row_c (i := 0) (u := .pointer (some ⟨p, 0, none⟩)) hw.1 rfl; clear hw; go_simp⟩) h0 ?_
        try simp only [Act.put, lay_out]
        refine wpAnyH_take (i := 3) (v := .agg (wdV R2)) rfl (by kernel_rfl) (by kernel_rfl) (by kernel_rfl) (fun _ _ _ h => h) (yields_load_row (by rfl) 34 _ rfl b3 34 (wdV R2) _ rfl (fun w h => h.2) Tryd.underlying34 rfl (by kernel_rfl)) h0 ?_
        try simp only [Act.put, lay_out]
        refine wpAnyH_ready (rs := [2]) (by kernel_rfl) (by simp) (AllReadyH.cons rfl (fun K hK => ?_) AllReadyH.nil)
        rw [if_pos (by rfl)]
        go_simp
        go_at_call 8
        (with_reducible refine (HVL.out _ _ G0.out).mono ?_); rintro e y1 ⟨⟨v, rfl, hv⟩, hb⟩
        have G1 := hid (G0.out.self hM hb)
        have V1 := hid hv
        clear hb hv
        refine hK.out _ _ (⟨G1.out.bl 1 rfl, G1.out.bl 0 rfl⟩) (fun h1x => ?_)
        clear hK K
        try simp only [Act.put, lay_out]
        refine wpAnyH_ready (rs := [4]) (by kernel_rfl) (by simp) (AllReadyH.cons rfl (fun K hK => ?_) AllReadyH.nil)
        rw [if_pos (by rfl)]
        go_simp
        go_at_call 7
        (with_reducible refine (HVV.out _ _ V1.out).mono ?_); rintro e y2 ⟨rfl, hb⟩
        have G2 := hid (G1.out.self hM hb)
        clear hb
        refine hK.out _ _ (⟨G2.out.bl 1 rfl, G2.out.bl 0 rfl⟩) (fun h2x => ?_)
        clear hK K
        try simp only [Act.put, lay_out]
        refine wpAnyH_take (i := 5) (v := .int .u64 (v5 : Int)) rfl (by kernel_rfl) (by kernel_rfl) (by kernel_rfl) (fun _ _ _ h => h) (.inl ⟨by rfl, fun w hw => by clear hw; go_simp⟩) h2x ?_
        try simp only [Act.put, lay_out]
        refine wpAnyH_done (by kernel_rfl) ?_ _
        refine NoPanic.normal ?_
        clear h0 h1x h2x
        try simp only [Act.put, lay_out]
        have c1 := row_c (i := 0) (u := .pointer (some ⟨p, 0, none⟩)) (G2.out.bl 1 rfl) rfl
        go_wp2_with (first
          | (go_at_call 9; (with_reducible refine (HER.out _ _ G2.out).mono ?_); rintro e wA ⟨rfl, hb⟩; have GA := hid (G2.out.self hM hb); clear hb c1; have c2 := row_c (i := 0) (u := .pointer (some ⟨p, 0, none⟩)) (GA.out.bl 1 rfl) rfl)
          | (go_at_call 10; (with_reducible refine (HDW.out _ _ GA.out).mono ?_); rintro e wB ⟨rfl, hb⟩; have GB := hid (GA.out.self hM hb); clear hb c2)
          | (go_at_call 11; (with_reducible refine (HRD.out _).mono ?_); rintro e wC ⟨rfl, rfl⟩)
          | (go_at_call 12; (with_reducible refine (HAW.out _ (HWJ.out.trans (GB.out.z.low.mono HWJ.out.size))).mono ?_); rintro e wz ⟨rfl, hb⟩; have HZ := hid ((HWJ.out.trans (GB.out.z.low.mono HWJ.out.size)).trans (hb.mono (HWJ.out.trans (GB.out.z.low.mono HWJ.out.size)).size)); clear hb))
        go_ret
        exact ⟨rfl, HZ.out⟩
end Go.Proofs.YthkijncnndoafaaDoor
