import Derived.Test.YtkeojphhgebhdaaProg
import Derived.Test.YtkeojphhgebhdaaCdp
/- CodeBack, where the strings are short. -/
namespace Go.Proofs.Ytkeojphhgebhdaa
open Go.RowKit

/-- Four strings that are short. -/
structure Fo (W : World) (a b c d : Value) (za zb zc zd : List Int) : Prop where
  a : Rd .u8 W a za
  b : Rd .u8 W b zb
  c : Rd .u8 W c zc
  d : Rd .u8 W d zd
  le : za.length + zb.length + zc.length + zd.length ≤ 3000
theorem Fo.self {W w' : World} {a b c d : Value} {za zb zc zd : List Int} (h : Fo W a b c d za zb zc zd) (hb : Below W.heap.size W w') : Fo w' a b c d za zb zc zd :=
  ⟨h.a.self hb, h.b.self hb, h.c.self hb, h.d.self hb, h.le⟩
/-- A string, put, in a new row. -/
theorem sto_rd {B : Nat} {w : World} {v : Value} {z : List Int} (h : Own .u8 B 5 w v (sto z)) (hl : z.length ≤ 3000) (hw : ∀ y ∈ z, (Lit.int .u8 y).wf = true) : Rd .u8 w v (sto z) :=
  h.rd (by have := sto_le (z := z) (by omega); show _ * 1 ≤ _; omega) (sto_wf (by omega) hw)
theorem lim2 {x y : List Int} (hx : x.length ≤ 10000) (hy : y.length ≤ 10000) : (x.length + y.length) * (IntKind.u8.bits / 8) ≤ 140737488355328 := by show _ * 1 ≤ _; omega
theorem sto_le4 {z : List Int} (hl : z.length ≤ 3000) : (sto z).length ≤ 3009 := by have := sto_le (z := z) (by omega); omega

set_option maxRecDepth 100000 in
set_option maxHeartbeats 6400000 in
theorem cback_yy (a b c d : Value) (za zb zc zd : List Int) (W : World) (h : Fo W a b c d za zb zc zd) (e1 : za = zc) (e2 : zb = zd) :
    Calls Try.prog 4 #[a, b, c, d] W fun e w' => e = .returned (.bool true) ∧ Below W.heap.size W w' := by
  have HF := hid h
  have hle := h.le
  have HLa : Hid (za.length ≤ 3000) := hid (by omega)
  have HLb : Hid (zb.length ≤ 3000) := hid (by omega)
  have HLc : Hid (zc.length ≤ 3000) := hid (by omega)
  have HLd : Hid (zd.length ≤ 3000) := hid (by omega)
  obtain ⟨L, hL⟩ : ∃ L, (sto za).length = L := ⟨_, rfl⟩
  have HA := hid (fun w (h : Rd .u8 w a za) => str_any a za w h)
  have HAL := hid (fun w (h : Rd .u8 w a za) => (str_any a za w h).mono fun _ _ h => h.at hL)
  have HB := hid (fun w (h : Rd .u8 w b zb) => str_any b zb w h)
  have HC := hid (fun w (h : Rd .u8 w c zc) => str_any c zc w h)
  have HD := hid (fun w (h : Rd .u8 w d zd) => str_any d zd w h)
  have HT : Hid (TkR (sto za ++ zd) za (L : Int) true) := hid (by rw [← hL]; exact tkr_sto (by omega))
  have HAw := hid cawake_any
  have wa := wfs_of h.a
  have wb := wfs_of h.b
  have wc := wfs_of h.c
  have wd := wfs_of h.d
  have HWa := hid wa
  have HWb := hid wb
  have HWc := hid wc
  have HWd := hid wd
  have q0 := strOfNums_eq (xs := sto za ++ sto zb) (ys := sto zc ++ sto zd) (fun z hz => (List.mem_append.1 hz).elim (sto_wf (by omega) wa z) (sto_wf (by omega) wb z)) (fun z hz => (List.mem_append.1 hz).elim (sto_wf (by omega) wc z) (sto_wf (by omega) wd z))
  have q1 := strOfNums_eq wa wc
  have q2 := strOfNums_eq wb wd
  rw [decide_eq_true (show sto za ++ sto zb = sto zc ++ sto zd by rw [e1, e2])] at q0
  rw [decide_eq_true e1] at q1
  rw [decide_eq_true e2] at q2
  clear e1 e2
  have HLT : Hid ((sto za ++ zd).length ≤ 65536) := hid (by rw [List.length_append]; have := sto_le4 (z := za) (by omega); omega)
  have HWT : Hid (∀ z ∈ sto za ++ zd, (Lit.int .u8 z).wf = true) := hid (fun z hz => (List.mem_append.1 hz).elim (sto_wf (by omega) wa z) (wd z))
  obtain ⟨pa, ca, rfl, _⟩ := h.a
  obtain ⟨pb, cb, rfl, _⟩ := h.b
  obtain ⟨pc, cc, rfl, _⟩ := h.c
  obtain ⟨qd, cd, rfl, _⟩ := h.d
  obtain ⟨la, ea⟩ : ∃ l, za.length = l := ⟨_, rfl⟩
  obtain ⟨lb, eb⟩ : ∃ l, zb.length = l := ⟨_, rfl⟩
  obtain ⟨lc, ec⟩ : ∃ l, zc.length = l := ⟨_, rfl⟩
  obtain ⟨ld, ed⟩ : ∃ l, zd.length = l := ⟨_, rfl⟩
  rw [ea] at HA HAL HF hle ⊢
  rw [eb] at HB HF hle ⊢
  rw [ec] at HC HF hle ⊢
  rw [ed] at HD HF hle ⊢
  obtain ⟨s1, e1⟩ : ∃ s, la + lb = s := ⟨_, rfl⟩
  obtain ⟨s2, e2⟩ : ∃ s, s1 + lc = s := ⟨_, rfl⟩
  obtain ⟨s3, e3⟩ : ∃ s, s2 + ld = s := ⟨_, rfl⟩
  have f1 : (la : Int) + (lb : Int) = (s1 : Int) := by omega
  have f2 : (s1 : Int) + (lc : Int) = (s2 : Int) := by omega
  have f3 : (s2 : Int) + (ld : Int) = (s3 : Int) := by omega
  have g1 : IntKind.i64.wrap (s1 : Int) = s1 := by rw [IntKind.wrap_i64]; omega
  have g2 : IntKind.i64.wrap (s2 : Int) = s2 := by rw [IntKind.wrap_i64]; omega
  have g3 : IntKind.i64.wrap (s3 : Int) = s3 := by rw [IntKind.wrap_i64]; omega
  have g4 : ¬ (3000 : Int) < (s3 : Int) := by omega
  have HE0 : Hid (Own .u8 W.heap.size 5 (W.alloc (.cells #[] 5)) (.slice (some ⟨W.heap.size, 0, none⟩) 0 0) []) := hid (own_empty W (Nat.le_refl _))
  have HW0 : Hid (Below W.heap.size W (W.alloc (.cells #[] 5))) := hid ((Below.refl _ _).alloc (Nat.le_refl _) _)
  clear h hle hL wa wb wc wd ea eb ec ed e1 e2 e3
  go_enter Try.func4, Try.ntmps4
  go_wp2_with (first
    | (go_at_call 14; (with_reducible refine (HA.out (W.alloc (.cells #[] 5)) (HF.out.self HW0.out).a).mono ?_); rintro e w1 ⟨v1, rfl, ho1, hl1⟩; have HO1 := hid ho1; have HW1 := hid (HW0.out.trans (hl1.mono HW0.out.size)); have HE1 := hid (own_self HE0.out hl1); clear ho1 hl1)
    | (at_builtin; refine wpList_append_rd rfl (.tmp 27) (.tmp 29) 22 rfl .u8 W.heap.size 5 Try.underlying22 infob (by decide) _ _ rfl HE1.out _ _ rfl (sto_rd HO1.out HLa.out HWa.out) (lim2 (Nat.zero_le _) (Nat.le_trans (sto_le4 HLa.out) (by decide))) HW1.out.size W.heap.size W HW1.out (Nat.le_refl _) ?_; intro v2 w2 hown hlow _; have HW2 := hid hlow; have HY2 : Hid (Own .u8 W.heap.size 5 w2 v2 (sto za)) := hid (by simpa using hown); clear hown hlow)
    | (go_at_call 14; (with_reducible refine (HB.out w2 (HF.out.self HW2.out).b).mono ?_); rintro e w3 ⟨v3, rfl, ho3, hl3⟩; have HO3 := hid ho3; have HW3 := hid (HW2.out.trans (hl3.mono HW2.out.size)); have HY3 := hid (own_self HY2.out hl3); clear ho3 hl3)
    | (at_builtin; refine wpList_append_rd rfl (.tmp 30) (.tmp 32) 22 rfl .u8 W.heap.size 5 Try.underlying22 infob (by decide) _ _ rfl HY3.out _ _ rfl (sto_rd HO3.out HLb.out HWb.out) (lim2 (Nat.le_trans (sto_le4 HLa.out) (by decide)) (Nat.le_trans (sto_le4 HLb.out) (by decide))) HW3.out.size W.heap.size W HW3.out (Nat.le_refl _) ?_; intro v4 w4 hown hlow _; have HW4 := hid hlow; have HX4 := hid hown; have HG4 := hid hlow; have HE4e : Hid (Own .u8 w4.heap.size 5 (w4.alloc (.cells #[] 5)) (.slice (some ⟨w4.heap.size, 0, none⟩) 0 0) []) := hid (own_empty w4 (Nat.le_refl _)); have HB4 : Hid (Below w4.heap.size w4 (w4.alloc (.cells #[] 5))) := hid ((Below.refl _ _).alloc (Nat.le_refl _) _); have HG4a := hid (HG4.out.trans (HB4.out.mono HG4.out.size)); clear hown hlow)
    | (go_at_call 14; (with_reducible refine (HC.out (w4.alloc (.cells #[] 5)) (HF.out.self HG4a.out).c).mono ?_); rintro e w5 ⟨v5, rfl, ho5, hl5⟩; have HO5 := hid ho5; have HW5 := hid (HB4.out.trans (hl5.mono HB4.out.size)); have HE5 := hid (own_self HE4e.out hl5); clear ho5 hl5)
    | (at_builtin; refine wpList_append_rd rfl (.tmp 34) (.tmp 36) 22 rfl .u8 w4.heap.size 5 Try.underlying22 infob (by decide) _ _ rfl HE5.out _ _ rfl (sto_rd HO5.out HLc.out HWc.out) (lim2 (Nat.zero_le _) (Nat.le_trans (sto_le4 HLc.out) (by decide))) HW5.out.size w4.heap.size w4 HW5.out (Nat.le_refl _) ?_; intro v6 w6 hown hlow _; have HW6 := hid hlow; have HY6 : Hid (Own .u8 w4.heap.size 5 w6 v6 (sto zc)) := hid (by simpa using hown); have HG6 := hid (HG4.out.trans (hlow.mono HG4.out.size)); clear hown hlow)
    | (go_at_call 14; (with_reducible refine (HD.out w6 (HF.out.self HG6.out).d).mono ?_); rintro e w7 ⟨v7, rfl, ho7, hl7⟩; have HO7 := hid ho7; have HW7 := hid (HW6.out.trans (hl7.mono HW6.out.size)); have HY7 := hid (own_self HY6.out hl7); clear ho7 hl7)
    | (at_builtin; refine wpList_append_rd rfl (.tmp 37) (.tmp 39) 22 rfl .u8 w4.heap.size 5 Try.underlying22 infob (by decide) _ _ rfl HY7.out _ _ rfl (sto_rd HO7.out HLd.out HWd.out) (lim2 (Nat.le_trans (sto_le4 HLc.out) (by decide)) (Nat.le_trans (sto_le4 HLd.out) (by decide))) HW7.out.size w4.heap.size w4 HW7.out (Nat.le_refl _) ?_; intro v8 w8 hown hlow _; have HW8 := hid hlow; have HX8 := hid (own_self HX4.out hlow); have HY8 := hid hown; have HG8 := hid (HG4.out.trans (hlow.mono HG4.out.size)); have HE8e : Hid (Own .u8 w8.heap.size 5 (w8.alloc (.cells #[] 5)) (.slice (some ⟨w8.heap.size, 0, none⟩) 0 0) []) := hid (own_empty w8 (Nat.le_refl _)); have HB8 : Hid (Below w8.heap.size w8 (w8.alloc (.cells #[] 5))) := hid ((Below.refl _ _).alloc (Nat.le_refl _) _); have HG8a := hid (HG8.out.trans (HB8.out.mono HG8.out.size)); clear hown hlow)
    | (go_at_call 14; (with_reducible refine (HA.out (w8.alloc (.cells #[] 5)) (HF.out.self HG8a.out).a).mono ?_); rintro e w9 ⟨v9, rfl, ho9, hl9⟩; have HO9 := hid ho9; have HW9 := hid (HB8.out.trans (hl9.mono HB8.out.size)); have HE9 := hid (own_self HE8e.out hl9); clear ho9 hl9)
    | (at_builtin; refine wpList_append_rd rfl (.tmp 42) (.tmp 44) 22 rfl .u8 w8.heap.size 5 Try.underlying22 infob (by decide) _ _ rfl HE9.out _ _ rfl (sto_rd HO9.out HLa.out HWa.out) (lim2 (Nat.zero_le _) (Nat.le_trans (sto_le4 HLa.out) (by decide))) HW9.out.size w8.heap.size w8 HW9.out (Nat.le_refl _) ?_; intro v10 w10 hown hlow _; have HW10 := hid hlow; have HY10 : Hid (Own .u8 w8.heap.size 5 w10 v10 (sto za)) := hid (by simpa using hown); have HG10 := hid (HG8.out.trans (hlow.mono HG8.out.size)); clear hown hlow)
    | (at_builtin; refine wpList_append_rd rfl (.tmp 45) (.tmp 46) 22 rfl .u8 w8.heap.size 5 Try.underlying22 infob (by decide) _ _ rfl HY10.out _ _ rfl (HF.out.self HG10.out).d (lim2 (Nat.le_trans (sto_le4 HLa.out) (by decide)) (Nat.le_trans HLd.out (by decide))) HW10.out.size w8.heap.size w8 HW10.out (Nat.le_refl _) ?_; intro v11 w11 hown hlow _; have HW11 := hid hlow; have HG11 := hid (HG8.out.trans (hlow.mono HG8.out.size)); have HX11 := hid (own_self HX8.out hlow); have HYY11 := hid (own_self HY8.out hlow); have HT11 := hid (take_i v11 _ za (L : Int) true HT.out w11 (rdc_own hown HLT.out HWT.out)); clear hown hlow)
    | (go_at_call 8; (with_reducible refine (HT11.out).mono ?_); rintro e w12 ⟨v12, rfl, hr, hl⟩; have HG12 := hid (HG11.out.trans (hl.mono HG11.out.size)); have HX12 := hid (own_self HX11.out hl); have HY12 := hid (own_self HYY11.out hl); have k1 := run_conv_rw (P := Try.prog) hr Try.underlying22 Try.underlying5 9 Try.underlying9; have k2 := run_conv_rd (P := Try.prog) (HF.out.self HG12.out).a Try.underlying22 Try.underlying5 9 Try.underlying9; clear hr hl)
    | (go_at_call 14; (with_reducible refine (HAL.out w12 (HF.out.self HG12.out).a).mono ?_); rintro e w13 ⟨p13, c13, rfl, ho, hl⟩; have HG13 := hid (HG12.out.trans (hl.mono HG12.out.size)); have k3 := run_conv_rw (P := Try.prog) (Rw.of_own (own_self HX12.out hl)) Try.underlying22 Try.underlying5 9 Try.underlying9; have k4 := run_conv_rw (P := Try.prog) (Rw.of_own (own_self HY12.out hl)) Try.underlying22 Try.underlying5 9 Try.underlying9; have k5 := run_conv_rd (P := Try.prog) (HF.out.self HG13.out).a Try.underlying22 Try.underlying5 9 Try.underlying9; have k6 := run_conv_rd (P := Try.prog) (HF.out.self HG13.out).b Try.underlying22 Try.underlying5 9 Try.underlying9; have k7 := run_conv_rd (P := Try.prog) (HF.out.self HG13.out).c Try.underlying22 Try.underlying5 9 Try.underlying9; have k8 := run_conv_rd (P := Try.prog) (HF.out.self HG13.out).d Try.underlying22 Try.underlying5 9 Try.underlying9; clear ho hl k1 k2)
    | (go_at_call 16; (with_reducible refine (HAw.out _).mono ?_); rintro e w14 ⟨rfl, hl⟩; have HG14 := hid (HG13.out.trans (hl.mono HG13.out.size)); clear hl))
  go_ret
  exact ⟨rfl, HG14.out⟩

set_option maxRecDepth 100000 in
set_option maxHeartbeats 6400000 in
theorem cback_yn (a b c d : Value) (za zb zc zd : List Int) (W : World) (h : Fo W a b c d za zb zc zd) (e1 : za = zc) (e2 : ¬ zb = zd) :
    Calls Try.prog 4 #[a, b, c, d] W fun e w' => e = .returned (.bool true) ∧ Below W.heap.size W w' := by
  have HF := hid h
  have hle := h.le
  have HLa : Hid (za.length ≤ 3000) := hid (by omega)
  have HLb : Hid (zb.length ≤ 3000) := hid (by omega)
  have HLc : Hid (zc.length ≤ 3000) := hid (by omega)
  have HLd : Hid (zd.length ≤ 3000) := hid (by omega)
  obtain ⟨L, hL⟩ : ∃ L, (sto za).length = L := ⟨_, rfl⟩
  have HA := hid (fun w (h : Rd .u8 w a za) => str_any a za w h)
  have HAL := hid (fun w (h : Rd .u8 w a za) => (str_any a za w h).mono fun _ _ h => h.at hL)
  have HB := hid (fun w (h : Rd .u8 w b zb) => str_any b zb w h)
  have HC := hid (fun w (h : Rd .u8 w c zc) => str_any c zc w h)
  have HD := hid (fun w (h : Rd .u8 w d zd) => str_any d zd w h)
  have HT : Hid (TkR (sto za ++ zd) za (L : Int) true) := hid (by rw [← hL]; exact tkr_sto (by omega))
  have HAw := hid cawake_any
  have wa := wfs_of h.a
  have wb := wfs_of h.b
  have wc := wfs_of h.c
  have wd := wfs_of h.d
  have HWa := hid wa
  have HWb := hid wb
  have HWc := hid wc
  have HWd := hid wd
  have q0 := strOfNums_eq (xs := sto za ++ sto zb) (ys := sto zc ++ sto zd) (fun z hz => (List.mem_append.1 hz).elim (sto_wf (by omega) wa z) (sto_wf (by omega) wb z)) (fun z hz => (List.mem_append.1 hz).elim (sto_wf (by omega) wc z) (sto_wf (by omega) wd z))
  have q1 := strOfNums_eq wa wc
  have q2 := strOfNums_eq wb wd
  rw [decide_eq_false (fun e => e2 (sto_two.1 e).2)] at q0
  rw [decide_eq_true e1] at q1
  rw [decide_eq_false e2] at q2
  clear e1 e2
  have HLT : Hid ((sto za ++ zd).length ≤ 65536) := hid (by rw [List.length_append]; have := sto_le4 (z := za) (by omega); omega)
  have HWT : Hid (∀ z ∈ sto za ++ zd, (Lit.int .u8 z).wf = true) := hid (fun z hz => (List.mem_append.1 hz).elim (sto_wf (by omega) wa z) (wd z))
  obtain ⟨pa, ca, rfl, _⟩ := h.a
  obtain ⟨pb, cb, rfl, _⟩ := h.b
  obtain ⟨pc, cc, rfl, _⟩ := h.c
  obtain ⟨qd, cd, rfl, _⟩ := h.d
  obtain ⟨la, ea⟩ : ∃ l, za.length = l := ⟨_, rfl⟩
  obtain ⟨lb, eb⟩ : ∃ l, zb.length = l := ⟨_, rfl⟩
  obtain ⟨lc, ec⟩ : ∃ l, zc.length = l := ⟨_, rfl⟩
  obtain ⟨ld, ed⟩ : ∃ l, zd.length = l := ⟨_, rfl⟩
  rw [ea] at HA HAL HF hle ⊢
  rw [eb] at HB HF hle ⊢
  rw [ec] at HC HF hle ⊢
  rw [ed] at HD HF hle ⊢
  obtain ⟨s1, e1⟩ : ∃ s, la + lb = s := ⟨_, rfl⟩
  obtain ⟨s2, e2⟩ : ∃ s, s1 + lc = s := ⟨_, rfl⟩
  obtain ⟨s3, e3⟩ : ∃ s, s2 + ld = s := ⟨_, rfl⟩
  have f1 : (la : Int) + (lb : Int) = (s1 : Int) := by omega
  have f2 : (s1 : Int) + (lc : Int) = (s2 : Int) := by omega
  have f3 : (s2 : Int) + (ld : Int) = (s3 : Int) := by omega
  have g1 : IntKind.i64.wrap (s1 : Int) = s1 := by rw [IntKind.wrap_i64]; omega
  have g2 : IntKind.i64.wrap (s2 : Int) = s2 := by rw [IntKind.wrap_i64]; omega
  have g3 : IntKind.i64.wrap (s3 : Int) = s3 := by rw [IntKind.wrap_i64]; omega
  have g4 : ¬ (3000 : Int) < (s3 : Int) := by omega
  have HE0 : Hid (Own .u8 W.heap.size 5 (W.alloc (.cells #[] 5)) (.slice (some ⟨W.heap.size, 0, none⟩) 0 0) []) := hid (own_empty W (Nat.le_refl _))
  have HW0 : Hid (Below W.heap.size W (W.alloc (.cells #[] 5))) := hid ((Below.refl _ _).alloc (Nat.le_refl _) _)
  clear h hle hL wa wb wc wd ea eb ec ed e1 e2 e3
  go_enter Try.func4, Try.ntmps4
  go_wp2_with (first
    | (go_at_call 14; (with_reducible refine (HA.out (W.alloc (.cells #[] 5)) (HF.out.self HW0.out).a).mono ?_); rintro e w1 ⟨v1, rfl, ho1, hl1⟩; have HO1 := hid ho1; have HW1 := hid (HW0.out.trans (hl1.mono HW0.out.size)); have HE1 := hid (own_self HE0.out hl1); clear ho1 hl1)
    | (at_builtin; refine wpList_append_rd rfl (.tmp 27) (.tmp 29) 22 rfl .u8 W.heap.size 5 Try.underlying22 infob (by decide) _ _ rfl HE1.out _ _ rfl (sto_rd HO1.out HLa.out HWa.out) (lim2 (Nat.zero_le _) (Nat.le_trans (sto_le4 HLa.out) (by decide))) HW1.out.size W.heap.size W HW1.out (Nat.le_refl _) ?_; intro v2 w2 hown hlow _; have HW2 := hid hlow; have HY2 : Hid (Own .u8 W.heap.size 5 w2 v2 (sto za)) := hid (by simpa using hown); clear hown hlow)
    | (go_at_call 14; (with_reducible refine (HB.out w2 (HF.out.self HW2.out).b).mono ?_); rintro e w3 ⟨v3, rfl, ho3, hl3⟩; have HO3 := hid ho3; have HW3 := hid (HW2.out.trans (hl3.mono HW2.out.size)); have HY3 := hid (own_self HY2.out hl3); clear ho3 hl3)
    | (at_builtin; refine wpList_append_rd rfl (.tmp 30) (.tmp 32) 22 rfl .u8 W.heap.size 5 Try.underlying22 infob (by decide) _ _ rfl HY3.out _ _ rfl (sto_rd HO3.out HLb.out HWb.out) (lim2 (Nat.le_trans (sto_le4 HLa.out) (by decide)) (Nat.le_trans (sto_le4 HLb.out) (by decide))) HW3.out.size W.heap.size W HW3.out (Nat.le_refl _) ?_; intro v4 w4 hown hlow _; have HW4 := hid hlow; have HX4 := hid hown; have HG4 := hid hlow; have HE4e : Hid (Own .u8 w4.heap.size 5 (w4.alloc (.cells #[] 5)) (.slice (some ⟨w4.heap.size, 0, none⟩) 0 0) []) := hid (own_empty w4 (Nat.le_refl _)); have HB4 : Hid (Below w4.heap.size w4 (w4.alloc (.cells #[] 5))) := hid ((Below.refl _ _).alloc (Nat.le_refl _) _); have HG4a := hid (HG4.out.trans (HB4.out.mono HG4.out.size)); clear hown hlow)
    | (go_at_call 14; (with_reducible refine (HC.out (w4.alloc (.cells #[] 5)) (HF.out.self HG4a.out).c).mono ?_); rintro e w5 ⟨v5, rfl, ho5, hl5⟩; have HO5 := hid ho5; have HW5 := hid (HB4.out.trans (hl5.mono HB4.out.size)); have HE5 := hid (own_self HE4e.out hl5); clear ho5 hl5)
    | (at_builtin; refine wpList_append_rd rfl (.tmp 34) (.tmp 36) 22 rfl .u8 w4.heap.size 5 Try.underlying22 infob (by decide) _ _ rfl HE5.out _ _ rfl (sto_rd HO5.out HLc.out HWc.out) (lim2 (Nat.zero_le _) (Nat.le_trans (sto_le4 HLc.out) (by decide))) HW5.out.size w4.heap.size w4 HW5.out (Nat.le_refl _) ?_; intro v6 w6 hown hlow _; have HW6 := hid hlow; have HY6 : Hid (Own .u8 w4.heap.size 5 w6 v6 (sto zc)) := hid (by simpa using hown); have HG6 := hid (HG4.out.trans (hlow.mono HG4.out.size)); clear hown hlow)
    | (go_at_call 14; (with_reducible refine (HD.out w6 (HF.out.self HG6.out).d).mono ?_); rintro e w7 ⟨v7, rfl, ho7, hl7⟩; have HO7 := hid ho7; have HW7 := hid (HW6.out.trans (hl7.mono HW6.out.size)); have HY7 := hid (own_self HY6.out hl7); clear ho7 hl7)
    | (at_builtin; refine wpList_append_rd rfl (.tmp 37) (.tmp 39) 22 rfl .u8 w4.heap.size 5 Try.underlying22 infob (by decide) _ _ rfl HY7.out _ _ rfl (sto_rd HO7.out HLd.out HWd.out) (lim2 (Nat.le_trans (sto_le4 HLc.out) (by decide)) (Nat.le_trans (sto_le4 HLd.out) (by decide))) HW7.out.size w4.heap.size w4 HW7.out (Nat.le_refl _) ?_; intro v8 w8 hown hlow _; have HW8 := hid hlow; have HX8 := hid (own_self HX4.out hlow); have HY8 := hid hown; have HG8 := hid (HG4.out.trans (hlow.mono HG4.out.size)); have HE8e : Hid (Own .u8 w8.heap.size 5 (w8.alloc (.cells #[] 5)) (.slice (some ⟨w8.heap.size, 0, none⟩) 0 0) []) := hid (own_empty w8 (Nat.le_refl _)); have HB8 : Hid (Below w8.heap.size w8 (w8.alloc (.cells #[] 5))) := hid ((Below.refl _ _).alloc (Nat.le_refl _) _); have HG8a := hid (HG8.out.trans (HB8.out.mono HG8.out.size)); clear hown hlow)
    | (go_at_call 14; (with_reducible refine (HA.out (w8.alloc (.cells #[] 5)) (HF.out.self HG8a.out).a).mono ?_); rintro e w9 ⟨v9, rfl, ho9, hl9⟩; have HO9 := hid ho9; have HW9 := hid (HB8.out.trans (hl9.mono HB8.out.size)); have HE9 := hid (own_self HE8e.out hl9); clear ho9 hl9)
    | (at_builtin; refine wpList_append_rd rfl (.tmp 42) (.tmp 44) 22 rfl .u8 w8.heap.size 5 Try.underlying22 infob (by decide) _ _ rfl HE9.out _ _ rfl (sto_rd HO9.out HLa.out HWa.out) (lim2 (Nat.zero_le _) (Nat.le_trans (sto_le4 HLa.out) (by decide))) HW9.out.size w8.heap.size w8 HW9.out (Nat.le_refl _) ?_; intro v10 w10 hown hlow _; have HW10 := hid hlow; have HY10 : Hid (Own .u8 w8.heap.size 5 w10 v10 (sto za)) := hid (by simpa using hown); have HG10 := hid (HG8.out.trans (hlow.mono HG8.out.size)); clear hown hlow)
    | (at_builtin; refine wpList_append_rd rfl (.tmp 45) (.tmp 46) 22 rfl .u8 w8.heap.size 5 Try.underlying22 infob (by decide) _ _ rfl HY10.out _ _ rfl (HF.out.self HG10.out).d (lim2 (Nat.le_trans (sto_le4 HLa.out) (by decide)) (Nat.le_trans HLd.out (by decide))) HW10.out.size w8.heap.size w8 HW10.out (Nat.le_refl _) ?_; intro v11 w11 hown hlow _; have HW11 := hid hlow; have HG11 := hid (HG8.out.trans (hlow.mono HG8.out.size)); have HX11 := hid (own_self HX8.out hlow); have HYY11 := hid (own_self HY8.out hlow); have HT11 := hid (take_i v11 _ za (L : Int) true HT.out w11 (rdc_own hown HLT.out HWT.out)); clear hown hlow)
    | (go_at_call 8; (with_reducible refine (HT11.out).mono ?_); rintro e w12 ⟨v12, rfl, hr, hl⟩; have HG12 := hid (HG11.out.trans (hl.mono HG11.out.size)); have HX12 := hid (own_self HX11.out hl); have HY12 := hid (own_self HYY11.out hl); have k1 := run_conv_rw (P := Try.prog) hr Try.underlying22 Try.underlying5 9 Try.underlying9; have k2 := run_conv_rd (P := Try.prog) (HF.out.self HG12.out).a Try.underlying22 Try.underlying5 9 Try.underlying9; clear hr hl)
    | (go_at_call 14; (with_reducible refine (HAL.out w12 (HF.out.self HG12.out).a).mono ?_); rintro e w13 ⟨p13, c13, rfl, ho, hl⟩; have HG13 := hid (HG12.out.trans (hl.mono HG12.out.size)); have k3 := run_conv_rw (P := Try.prog) (Rw.of_own (own_self HX12.out hl)) Try.underlying22 Try.underlying5 9 Try.underlying9; have k4 := run_conv_rw (P := Try.prog) (Rw.of_own (own_self HY12.out hl)) Try.underlying22 Try.underlying5 9 Try.underlying9; have k5 := run_conv_rd (P := Try.prog) (HF.out.self HG13.out).a Try.underlying22 Try.underlying5 9 Try.underlying9; have k6 := run_conv_rd (P := Try.prog) (HF.out.self HG13.out).b Try.underlying22 Try.underlying5 9 Try.underlying9; have k7 := run_conv_rd (P := Try.prog) (HF.out.self HG13.out).c Try.underlying22 Try.underlying5 9 Try.underlying9; have k8 := run_conv_rd (P := Try.prog) (HF.out.self HG13.out).d Try.underlying22 Try.underlying5 9 Try.underlying9; clear ho hl k1 k2)
    | (go_at_call 16; (with_reducible refine (HAw.out _).mono ?_); rintro e w14 ⟨rfl, hl⟩; have HG14 := hid (HG13.out.trans (hl.mono HG13.out.size)); clear hl))
  go_ret
  exact ⟨rfl, HG14.out⟩

set_option maxRecDepth 100000 in
set_option maxHeartbeats 6400000 in
theorem cback_n (a b c d : Value) (za zb zc zd : List Int) (W : World) (h : Fo W a b c d za zb zc zd) (e1 : ¬ za = zc) :
    Calls Try.prog 4 #[a, b, c, d] W fun e w' => e = .returned (.bool true) ∧ Below W.heap.size W w' := by
  have HF := hid h
  have hle := h.le
  have HLa : Hid (za.length ≤ 3000) := hid (by omega)
  have HLb : Hid (zb.length ≤ 3000) := hid (by omega)
  have HLc : Hid (zc.length ≤ 3000) := hid (by omega)
  have HLd : Hid (zd.length ≤ 3000) := hid (by omega)
  obtain ⟨L, hL⟩ : ∃ L, (sto za).length = L := ⟨_, rfl⟩
  have HA := hid (fun w (h : Rd .u8 w a za) => str_any a za w h)
  have HAL := hid (fun w (h : Rd .u8 w a za) => (str_any a za w h).mono fun _ _ h => h.at hL)
  have HB := hid (fun w (h : Rd .u8 w b zb) => str_any b zb w h)
  have HC := hid (fun w (h : Rd .u8 w c zc) => str_any c zc w h)
  have HD := hid (fun w (h : Rd .u8 w d zd) => str_any d zd w h)
  have HT : Hid (TkR (sto za ++ zd) za (L : Int) true) := hid (by rw [← hL]; exact tkr_sto (by omega))
  have HAw := hid cawake_any
  have wa := wfs_of h.a
  have wb := wfs_of h.b
  have wc := wfs_of h.c
  have wd := wfs_of h.d
  have HWa := hid wa
  have HWb := hid wb
  have HWc := hid wc
  have HWd := hid wd
  have q0 := strOfNums_eq (xs := sto za ++ sto zb) (ys := sto zc ++ sto zd) (fun z hz => (List.mem_append.1 hz).elim (sto_wf (by omega) wa z) (sto_wf (by omega) wb z)) (fun z hz => (List.mem_append.1 hz).elim (sto_wf (by omega) wc z) (sto_wf (by omega) wd z))
  have q1 := strOfNums_eq wa wc
  have q2 := strOfNums_eq wb wd
  rw [decide_eq_false (fun e => e1 (sto_two.1 e).1)] at q0
  rw [decide_eq_false e1] at q1
  clear q2 e1
  have HLT : Hid ((sto za ++ zd).length ≤ 65536) := hid (by rw [List.length_append]; have := sto_le4 (z := za) (by omega); omega)
  have HWT : Hid (∀ z ∈ sto za ++ zd, (Lit.int .u8 z).wf = true) := hid (fun z hz => (List.mem_append.1 hz).elim (sto_wf (by omega) wa z) (wd z))
  obtain ⟨pa, ca, rfl, _⟩ := h.a
  obtain ⟨pb, cb, rfl, _⟩ := h.b
  obtain ⟨pc, cc, rfl, _⟩ := h.c
  obtain ⟨qd, cd, rfl, _⟩ := h.d
  obtain ⟨la, ea⟩ : ∃ l, za.length = l := ⟨_, rfl⟩
  obtain ⟨lb, eb⟩ : ∃ l, zb.length = l := ⟨_, rfl⟩
  obtain ⟨lc, ec⟩ : ∃ l, zc.length = l := ⟨_, rfl⟩
  obtain ⟨ld, ed⟩ : ∃ l, zd.length = l := ⟨_, rfl⟩
  rw [ea] at HA HAL HF hle ⊢
  rw [eb] at HB HF hle ⊢
  rw [ec] at HC HF hle ⊢
  rw [ed] at HD HF hle ⊢
  obtain ⟨s1, e1⟩ : ∃ s, la + lb = s := ⟨_, rfl⟩
  obtain ⟨s2, e2⟩ : ∃ s, s1 + lc = s := ⟨_, rfl⟩
  obtain ⟨s3, e3⟩ : ∃ s, s2 + ld = s := ⟨_, rfl⟩
  have f1 : (la : Int) + (lb : Int) = (s1 : Int) := by omega
  have f2 : (s1 : Int) + (lc : Int) = (s2 : Int) := by omega
  have f3 : (s2 : Int) + (ld : Int) = (s3 : Int) := by omega
  have g1 : IntKind.i64.wrap (s1 : Int) = s1 := by rw [IntKind.wrap_i64]; omega
  have g2 : IntKind.i64.wrap (s2 : Int) = s2 := by rw [IntKind.wrap_i64]; omega
  have g3 : IntKind.i64.wrap (s3 : Int) = s3 := by rw [IntKind.wrap_i64]; omega
  have g4 : ¬ (3000 : Int) < (s3 : Int) := by omega
  have HE0 : Hid (Own .u8 W.heap.size 5 (W.alloc (.cells #[] 5)) (.slice (some ⟨W.heap.size, 0, none⟩) 0 0) []) := hid (own_empty W (Nat.le_refl _))
  have HW0 : Hid (Below W.heap.size W (W.alloc (.cells #[] 5))) := hid ((Below.refl _ _).alloc (Nat.le_refl _) _)
  clear h hle hL wa wb wc wd ea eb ec ed e1 e2 e3
  go_enter Try.func4, Try.ntmps4
  go_wp2_with (first
    | (go_at_call 14; (with_reducible refine (HA.out (W.alloc (.cells #[] 5)) (HF.out.self HW0.out).a).mono ?_); rintro e w1 ⟨v1, rfl, ho1, hl1⟩; have HO1 := hid ho1; have HW1 := hid (HW0.out.trans (hl1.mono HW0.out.size)); have HE1 := hid (own_self HE0.out hl1); clear ho1 hl1)
    | (at_builtin; refine wpList_append_rd rfl (.tmp 27) (.tmp 29) 22 rfl .u8 W.heap.size 5 Try.underlying22 infob (by decide) _ _ rfl HE1.out _ _ rfl (sto_rd HO1.out HLa.out HWa.out) (lim2 (Nat.zero_le _) (Nat.le_trans (sto_le4 HLa.out) (by decide))) HW1.out.size W.heap.size W HW1.out (Nat.le_refl _) ?_; intro v2 w2 hown hlow _; have HW2 := hid hlow; have HY2 : Hid (Own .u8 W.heap.size 5 w2 v2 (sto za)) := hid (by simpa using hown); clear hown hlow)
    | (go_at_call 14; (with_reducible refine (HB.out w2 (HF.out.self HW2.out).b).mono ?_); rintro e w3 ⟨v3, rfl, ho3, hl3⟩; have HO3 := hid ho3; have HW3 := hid (HW2.out.trans (hl3.mono HW2.out.size)); have HY3 := hid (own_self HY2.out hl3); clear ho3 hl3)
    | (at_builtin; refine wpList_append_rd rfl (.tmp 30) (.tmp 32) 22 rfl .u8 W.heap.size 5 Try.underlying22 infob (by decide) _ _ rfl HY3.out _ _ rfl (sto_rd HO3.out HLb.out HWb.out) (lim2 (Nat.le_trans (sto_le4 HLa.out) (by decide)) (Nat.le_trans (sto_le4 HLb.out) (by decide))) HW3.out.size W.heap.size W HW3.out (Nat.le_refl _) ?_; intro v4 w4 hown hlow _; have HW4 := hid hlow; have HX4 := hid hown; have HG4 := hid hlow; have HE4e : Hid (Own .u8 w4.heap.size 5 (w4.alloc (.cells #[] 5)) (.slice (some ⟨w4.heap.size, 0, none⟩) 0 0) []) := hid (own_empty w4 (Nat.le_refl _)); have HB4 : Hid (Below w4.heap.size w4 (w4.alloc (.cells #[] 5))) := hid ((Below.refl _ _).alloc (Nat.le_refl _) _); have HG4a := hid (HG4.out.trans (HB4.out.mono HG4.out.size)); clear hown hlow)
    | (go_at_call 14; (with_reducible refine (HC.out (w4.alloc (.cells #[] 5)) (HF.out.self HG4a.out).c).mono ?_); rintro e w5 ⟨v5, rfl, ho5, hl5⟩; have HO5 := hid ho5; have HW5 := hid (HB4.out.trans (hl5.mono HB4.out.size)); have HE5 := hid (own_self HE4e.out hl5); clear ho5 hl5)
    | (at_builtin; refine wpList_append_rd rfl (.tmp 34) (.tmp 36) 22 rfl .u8 w4.heap.size 5 Try.underlying22 infob (by decide) _ _ rfl HE5.out _ _ rfl (sto_rd HO5.out HLc.out HWc.out) (lim2 (Nat.zero_le _) (Nat.le_trans (sto_le4 HLc.out) (by decide))) HW5.out.size w4.heap.size w4 HW5.out (Nat.le_refl _) ?_; intro v6 w6 hown hlow _; have HW6 := hid hlow; have HY6 : Hid (Own .u8 w4.heap.size 5 w6 v6 (sto zc)) := hid (by simpa using hown); have HG6 := hid (HG4.out.trans (hlow.mono HG4.out.size)); clear hown hlow)
    | (go_at_call 14; (with_reducible refine (HD.out w6 (HF.out.self HG6.out).d).mono ?_); rintro e w7 ⟨v7, rfl, ho7, hl7⟩; have HO7 := hid ho7; have HW7 := hid (HW6.out.trans (hl7.mono HW6.out.size)); have HY7 := hid (own_self HY6.out hl7); clear ho7 hl7)
    | (at_builtin; refine wpList_append_rd rfl (.tmp 37) (.tmp 39) 22 rfl .u8 w4.heap.size 5 Try.underlying22 infob (by decide) _ _ rfl HY7.out _ _ rfl (sto_rd HO7.out HLd.out HWd.out) (lim2 (Nat.le_trans (sto_le4 HLc.out) (by decide)) (Nat.le_trans (sto_le4 HLd.out) (by decide))) HW7.out.size w4.heap.size w4 HW7.out (Nat.le_refl _) ?_; intro v8 w8 hown hlow _; have HW8 := hid hlow; have HX8 := hid (own_self HX4.out hlow); have HY8 := hid hown; have HG8 := hid (HG4.out.trans (hlow.mono HG4.out.size)); have HE8e : Hid (Own .u8 w8.heap.size 5 (w8.alloc (.cells #[] 5)) (.slice (some ⟨w8.heap.size, 0, none⟩) 0 0) []) := hid (own_empty w8 (Nat.le_refl _)); have HB8 : Hid (Below w8.heap.size w8 (w8.alloc (.cells #[] 5))) := hid ((Below.refl _ _).alloc (Nat.le_refl _) _); have HG8a := hid (HG8.out.trans (HB8.out.mono HG8.out.size)); clear hown hlow)
    | (go_at_call 14; (with_reducible refine (HA.out (w8.alloc (.cells #[] 5)) (HF.out.self HG8a.out).a).mono ?_); rintro e w9 ⟨v9, rfl, ho9, hl9⟩; have HO9 := hid ho9; have HW9 := hid (HB8.out.trans (hl9.mono HB8.out.size)); have HE9 := hid (own_self HE8e.out hl9); clear ho9 hl9)
    | (at_builtin; refine wpList_append_rd rfl (.tmp 42) (.tmp 44) 22 rfl .u8 w8.heap.size 5 Try.underlying22 infob (by decide) _ _ rfl HE9.out _ _ rfl (sto_rd HO9.out HLa.out HWa.out) (lim2 (Nat.zero_le _) (Nat.le_trans (sto_le4 HLa.out) (by decide))) HW9.out.size w8.heap.size w8 HW9.out (Nat.le_refl _) ?_; intro v10 w10 hown hlow _; have HW10 := hid hlow; have HY10 : Hid (Own .u8 w8.heap.size 5 w10 v10 (sto za)) := hid (by simpa using hown); have HG10 := hid (HG8.out.trans (hlow.mono HG8.out.size)); clear hown hlow)
    | (at_builtin; refine wpList_append_rd rfl (.tmp 45) (.tmp 46) 22 rfl .u8 w8.heap.size 5 Try.underlying22 infob (by decide) _ _ rfl HY10.out _ _ rfl (HF.out.self HG10.out).d (lim2 (Nat.le_trans (sto_le4 HLa.out) (by decide)) (Nat.le_trans HLd.out (by decide))) HW10.out.size w8.heap.size w8 HW10.out (Nat.le_refl _) ?_; intro v11 w11 hown hlow _; have HW11 := hid hlow; have HG11 := hid (HG8.out.trans (hlow.mono HG8.out.size)); have HX11 := hid (own_self HX8.out hlow); have HYY11 := hid (own_self HY8.out hlow); have HT11 := hid (take_i v11 _ za (L : Int) true HT.out w11 (rdc_own hown HLT.out HWT.out)); clear hown hlow)
    | (go_at_call 8; (with_reducible refine (HT11.out).mono ?_); rintro e w12 ⟨v12, rfl, hr, hl⟩; have HG12 := hid (HG11.out.trans (hl.mono HG11.out.size)); have HX12 := hid (own_self HX11.out hl); have HY12 := hid (own_self HYY11.out hl); have k1 := run_conv_rw (P := Try.prog) hr Try.underlying22 Try.underlying5 9 Try.underlying9; have k2 := run_conv_rd (P := Try.prog) (HF.out.self HG12.out).a Try.underlying22 Try.underlying5 9 Try.underlying9; clear hr hl)
    | (go_at_call 14; (with_reducible refine (HAL.out w12 (HF.out.self HG12.out).a).mono ?_); rintro e w13 ⟨p13, c13, rfl, ho, hl⟩; have HG13 := hid (HG12.out.trans (hl.mono HG12.out.size)); have k3 := run_conv_rw (P := Try.prog) (Rw.of_own (own_self HX12.out hl)) Try.underlying22 Try.underlying5 9 Try.underlying9; have k4 := run_conv_rw (P := Try.prog) (Rw.of_own (own_self HY12.out hl)) Try.underlying22 Try.underlying5 9 Try.underlying9; have k5 := run_conv_rd (P := Try.prog) (HF.out.self HG13.out).a Try.underlying22 Try.underlying5 9 Try.underlying9; have k6 := run_conv_rd (P := Try.prog) (HF.out.self HG13.out).b Try.underlying22 Try.underlying5 9 Try.underlying9; have k7 := run_conv_rd (P := Try.prog) (HF.out.self HG13.out).c Try.underlying22 Try.underlying5 9 Try.underlying9; have k8 := run_conv_rd (P := Try.prog) (HF.out.self HG13.out).d Try.underlying22 Try.underlying5 9 Try.underlying9; clear ho hl k1 k2)
    | (go_at_call 16; (with_reducible refine (HAw.out _).mono ?_); rintro e w14 ⟨rfl, hl⟩; have HG14 := hid (HG13.out.trans (hl.mono HG13.out.size)); clear hl))
  go_ret
  exact ⟨rfl, HG14.out⟩
end Go.Proofs.Ytkeojphhgebhdaa
