import Derived.Test.YthcjgjhoifnpjaaProg
import Derived.Test.YthcjgjhoifnpjaaKma
import Derived.Test.YthcjgjhoifnpjaaSqr
/- Kmac: Head, Sum, Says, by the program. -/
namespace Go.Proofs.Ythcjgjhoifnpjaa
open Go.RowKit
set_option maxRecDepth 100000

theorem kd_rate {b : Int} {q : Nat} (h : (b = 128 ∧ q = 21) ∨ (b = 256 ∧ q = 17)) : raN b = ((8 * q : Nat) : Int) ∧ anyL b = true ∧ (1 ≤ q ∧ q ≤ 24) := by
  rcases h with ⟨rfl, rfl⟩ | ⟨rfl, rfl⟩ <;> refine ⟨by decide, by decide, by decide, by decide⟩
theorem kd_at {b n : Int} (h : chE b n = 0) : (∃ q : Nat, (b = 128 ∧ q = 21) ∨ (b = 256 ∧ q = 17)) ∧ ∃ m : Nat, n = (m : Int) ∧ m ≤ 65536 := by
  unfold chE at h
  by_cases h3 : (b ≠ 128 ∧ b ≠ 256) ∨ n < 0 ∨ 65536 < n
  · rw [if_pos h3] at h; exact absurd h (by decide)
  · refine ⟨?_, n.toNat, by omega, by omega⟩
    by_cases h1 : b = 128
    · exact ⟨21, .inl ⟨h1, rfl⟩⟩
    · exact ⟨17, .inr ⟨by omega, rfl⟩⟩
/-- A row of its own, as one that is read. -/
theorem own_rdc {B : Nat} {w : World} {v : Value} {zs : List Int} (h : Own .u8 B 5 w v zs) (hl : zs.length ≤ 1000000) (hz : ∀ z ∈ zs, (Lit.int .u8 z).wf = true) : RdC w v zs :=
  ⟨h.rd (by show _ * 1 ≤ _; omega) hz, fun a n c e => by subst e; exact own_cap h⟩
theorem kd_str (u : Value) (zs : List Int) (w : World) (h : Rd .u8 w u zs) (hl : zs.length ≤ 5000) :
    Calls Try.prog 15 #[u] w fun e w' => ∃ p L c, e = .returned (.slice p L c) ∧ RdC w' (.slice p L c) (sto zs) ∧ Below w.heap.size w w' := by
  refine (cstr_any u zs w h).mono ?_
  rintro e w' ⟨v, rfl, ho, hb⟩
  obtain ⟨p, c, rfl, _⟩ := ho.slice
  exact ⟨p, _, c, rfl, own_rdc ho (by have := sto_le5 hl; omega) (sto_wf5 hl (wfs_of h)), hb⟩
theorem kd_pad (v : Value) (zs : List Int) (q : Nat) (w : World) (h : Rd .u8 w v zs) (hq : 1 ≤ q ∧ q ≤ 24) :
    Calls Try.prog 14 #[v, .int .i64 ((8 * q : Nat) : Int)] w fun e w' => ∃ p L c, e = .returned (.tuple #[.slice p L c, .int .i64 0]) ∧ Own .u8 w.heap.size 5 w' (.slice p L c) (cpd zs (8 * q)) ∧ Below w.heap.size w w' := by
  refine (cpad_good v zs (8 * q) w h (by omega) (by omega)).mono ?_
  rintro e w' ⟨hb, ⟨m, u, e1, h1, h2, rfl, ho⟩ | ⟨h1, _⟩⟩
  · obtain rfl : m = 8 * q := by omega
    obtain ⟨p, c, rfl, _⟩ := ho.slice
    exact ⟨p, _, c, rfl, ho, hb⟩
  · omega
theorem khead_ok (b : Int) (q : Nat) (xk : Value) (zk : List Int) (w : World) (hbq : (b = 128 ∧ q = 21) ∨ (b = 256 ∧ q = 17)) (h : RdC w xk zk) (hl : zk.length ≤ 1000) :
    Calls Try.prog 7 #[.int .i64 b, xk] w fun e w' => ∃ p L c, e = .returned (.tuple #[.slice p L c, .int .i64 0]) ∧ Own .u8 w.heap.size 5 w' (.slice p L c) (cpd (sto zk) (8 * q)) ∧ Below w.heap.size w w' := by
  obtain ⟨hr, _, hq⟩ := kd_rate hbq
  have HR := hid (fun w => srate_any b w)
  rw [hr] at HR
  have HS := hid (kd_str xk zk w h.rd (by omega))
  have HP := hid (fun v w (h : Rd .u8 w v (sto zk)) => kd_pad v (sto zk) q w h hq)
  obtain ⟨p, L, cp, rfl⟩ := h.lit
  clear h hl hr hq
  obtain ⟨X, hX⟩ : ∃ X, cpd (sto zk) (8 * q) = X := ⟨_, rfl⟩
  rw [hX] at HP ⊢
  obtain ⟨Y, hY⟩ : ∃ Y, sto zk = Y := ⟨_, rfl⟩
  rw [hY] at HS HP
  clear hX hY
  obtain ⟨R, hR⟩ : ∃ R, 8 * q = R := ⟨_, rfl⟩
  rw [hR] at HR HP
  clear hR
  rcases hbq with ⟨rfl, _⟩ | ⟨rfl, _⟩
  all_goals
    go_enter Try.func7, Try.ntmps7
    go_wp2_with (first
      | (go_at_call 15; (with_reducible refine (HS.out).mono ?_); rintro e w1 ⟨p1, L1, c1, rfl, h1, b1⟩; have HX1 := hid h1; have HB1 := hid b1; clear h1 b1)
      | (go_at_call 16; (with_reducible refine (HR.out _).mono ?_); rintro e w2 ⟨rfl, rfl⟩)
      | (go_at_call 14; (with_reducible refine (HP.out _ _ HX1.out.rd).mono ?_); rintro e w3 ⟨p3, L3, c3, rfl, h3, b3⟩; have HO3 := hid (own_base h3 HB1.out.size); have HB3 := hid (HB1.out.trans (b3.mono HB1.out.size)); clear h3 b3))
    go_ret2
    exact ⟨_, _, _, rfl, HO3.out, HB3.out⟩
theorem khead_no (b : Int) (xk : Value) (w : World) (zk : List Int) (h : RdC w xk zk) (h1 : ¬ b = 128) (h2 : ¬ b = 256) :
    Calls Try.prog 7 #[.int .i64 b, xk] w fun e w' => e = .returned (.tuple #[.slice none 0 0, .int .i64 1]) ∧ w' = w := by
  obtain ⟨p, L, cp, rfl⟩ := h.lit
  have g1 : (b != 128) = true := by simpa using h1
  have g2 : (b != 256) = true := by simpa using h2
  clear h h1 h2
  go_enter Try.func7, Try.ntmps7
  go_wp2
  go_ret2
  exact ⟨rfl, rfl⟩
theorem khead_i (b : Int) (xk : Value) (zk : List Int) (w : World) (h : RdC w xk zk) (hl : zk.length ≤ 1000) :
    Calls Try.prog 7 #[.int .i64 b, xk] w fun e w' => OwE w (hdL b zk) (chE b 0) e w' := by
  by_cases h1 : chE b 0 = 0
  · obtain ⟨⟨q, hq⟩, _⟩ := kd_at h1
    rw [hdL, if_pos h1, h1, (kd_rate hq).1, Int.toNat_natCast]
    exact (khead_ok b q xk zk w hq h hl).mono fun e w' ⟨p, L, c, h1, h2, h3⟩ => ⟨_, h1, h2, h3⟩
  · have h2 : ¬ b = 128 := fun h => h1 (by subst h; rfl)
    have h3 : ¬ b = 256 := fun h => h1 (by subst h; rfl)
    rw [hdL, if_neg h1, chE_no h1]
    exact (khead_no b xk w zk h h2 h3).mono (by rintro e w' ⟨rfl, rfl⟩; exact ⟨_, rfl, own_nil _ _ _ _, Below.refl _ _⟩)
theorem ksL_len {b n : Int} (zk zm zc : List Int) (f : Bool) : (ksL b n zk zm zc f).length ≤ 65536 := by
  unfold ksL
  split
  · rename_i h
    obtain ⟨⟨q, hq⟩, m, rfl, hm⟩ := kd_at h
    rw [(kd_rate hq).1, Int.toNat_natCast, kmL_len _ _ _ _ (kd_rate hq).2.2.1, Int.toNat_natCast]
    exact hm
  · exact Nat.zero_le _
/-- What stands behind a message. -/
theorem kend_any (n : Nat) (f : Bool) (w : World) (hn : n ≤ 65536) :
    Calls Try.prog 18 #[.int .i64 (n : Int), .bool f] w fun e w' => ∃ p L c, e = .returned (.slice p L c) ∧ RdC w' (.slice p L c) (rig (if f then 0 else 8 * n)) ∧ Below w.heap.size w w' := by
  have H0 : Hid (Calls Try.prog 31 #[.int .i64 0] w fun e w' => CatP w (rig 0) e w') := hid (cright_any 0 w (by omega))
  have H8 := hid (cright_any (8 * n) w (by omega))
  obtain ⟨n8, hn8⟩ : ∃ n8, 8 * n = n8 := ⟨_, rfl⟩
  rw [hn8] at H8 ⊢
  have e1 : (8 : Int) * (n : Int) = (n8 : Int) := by omega
  have e2 : IntKind.i64.wrap (n8 : Int) = (n8 : Int) := by rw [IntKind.wrap_i64]; omega
  have HL0 := hid (rig_le (n := 0) (by omega))
  have HW0 := hid (rig_wf5 (n := 0) (by omega))
  have HL8 := hid (rig_le (n := n8) (by omega))
  have HW8 := hid (rig_wf5 (n := n8) (by omega))
  clear hn8 hn
  cases f
  · simp only [Bool.false_eq_true, if_false]
    generalize rig n8 = R at *
    go_enter Try.func18, Try.ntmps18
    go_wp2_with (first
      | (go_at_call 31; (with_reducible refine (H8.out).mono ?_); rintro e w1 ⟨u, rfl, ho, hl⟩; obtain ⟨p, c, rfl, _⟩ := ho.slice; have HO := hid (own_rdc ho (by have := HL8.out; omega) HW8.out); have HB := hid hl; clear ho hl))
    go_ret
    exact ⟨_, _, _, rfl, HO.out, HB.out⟩
  · simp only [if_true]
    generalize rig 0 = R at *
    go_enter Try.func18, Try.ntmps18
    go_wp2_with (first
      | (go_at_call 31; (with_reducible refine (H0.out).mono ?_); rintro e w1 ⟨u, rfl, ho, hl⟩; obtain ⟨p, c, rfl, _⟩ := ho.slice; have HO := hid (own_rdc ho (by have := HL0.out; omega) HW0.out); have HB := hid hl; clear ho hl))
    go_ret
    exact ⟨_, _, _, rfl, HO.out, HB.out⟩
/-- The hash of parts that stand behind one another. -/
theorem khashed_own (b : Int) (q n c m cap : Nat) (xc : Value) (zc : List Int) (us : Nat → Value) (zs : Nat → List Int) (w : World) (hbq : (b = 128 ∧ q = 21) ∨ (b = 256 ∧ q = 17)) (hc : RdC w xc zc) (hlc : zc.length ≤ 1000) (hm : m ≤ 100)
    (hcs : ∀ i, i < m → w.cell? ⟨c, 0 + i, none⟩ = some (us i)) (hr : ∀ i, i < m → Rd .u8 w (us i) (zs i)) (hlz : (ccat zs m).length ≤ 5000) (hn : n ≤ 65536) :
    Calls Try.prog 17 #[.int .i64 b, xc, .int .i64 (n : Int), .slice (some ⟨c, 0, none⟩) m cap] w fun e w' => OwF w n (namL kmW zc (ccat zs m) (8 * q) n) e w' := by
  obtain ⟨hrt, hany, hq⟩ := kd_rate hbq
  have kcv := km_conv w
  have hb0 : Below w.heap.size w (w.alloc (.cells kmC 5 (4, 5))) := (Below.refl _ _).alloc (Nat.le_refl _) _
  have HB0 := hid hb0
  have HKM : Hid (RdC (w.alloc (.cells kmC 5 (4, 5))) (.slice (some ⟨w.heap.size, 0, none⟩) 4 4) kmW) := hid ⟨km_new w, fun a n c e => by injection e with e1 e2 e3; subst e2 e3; exact ⟨Nat.le_refl _, by decide⟩⟩
  have HCC := hid (cconcat_any c 0 m cap us zs (w.alloc (.cells kmC 5 (4, 5))) (by omega) (fun i hi => ccell_self (hcs i hi) hb0) (fun i hi => (hr i hi).self hb0) (by omega))
  have HBy : Hid (∀ z ∈ ccat zs m, (Lit.int .u8 z).wf = true) := hid (fun z hz => WalkArith.wf_u8 (ccat_bytes (fun i hi => rd_bytes (hr i hi)) z hz))
  have HL := hid hlz
  obtain ⟨pc, Lc, cc, rfl⟩ := hc.lit
  have HNa := hid (fun (u xn : Value) (w : World) (h1 : RdC w xn kmW) (h2 : RdC w (.slice pc Lc cc) zc) (h3 : RdC w u (ccat zs m)) => named_own b q n xn (.slice pc Lc cc) u kmW zc _ w hany hrt hq h1 h2 h3 (by decide) (by omega) hlz hn)
  have HXc := hid (hc.self hb0)
  generalize namL kmW zc (ccat zs m) (8 * q) n = NM at *
  generalize ccat zs m = Z at *
  clear hbq hc hlc hm hcs hr hlz hn hrt hany hq hb0
  go_enter Try.func17, Try.ntmps17
  go_wp2_with (first
    | (go_at_call 30; (with_reducible refine (HCC.out).mono ?_); rintro e w2 ⟨u, rfl, ho, hl⟩; obtain ⟨p2, c2, rfl, _⟩ := ho.slice; have HO2 := hid (own_rdc ho (by have := HL.out; omega) HBy.out); have HK2 := hid (HKM.out.self hl); have HC2 := hid (HXc.out.self hl); have HB2 := hid (HB0.out.trans (hl.mono HB0.out.size)); clear ho hl)
    | (go_at_call 29; (with_reducible refine (HNa.out _ _ w2 HK2.out HC2.out HO2.out).mono ?_); rintro e w3 h3; have HO := hid (h3.later HB2.out); obtain ⟨g, rfl, _⟩ := h3))
  go_ret2
  obtain ⟨g2, e1, h1, h2⟩ := HO.out
  simp at e1
  subst e1
  exact ⟨_, rfl, h1, h2⟩
/-- Likewise, of three parts that were just laid in a row. -/
theorem khashed3 (b : Int) (q n : Nat) (xc u0 u1 u2 : Value) (zc z0 z1 z2 : List Int) (w : World) (hbq : (b = 128 ∧ q = 21) ∨ (b = 256 ∧ q = 17)) (hc : RdC w xc zc) (hlc : zc.length ≤ 1000) (r0 : Rd .u8 w u0 z0) (r1 : Rd .u8 w u1 z1) (r2 : Rd .u8 w u2 z2) (hlz : z0.length + z1.length + z2.length ≤ 5000) (hn : n ≤ 65536) :
    Calls Try.prog 17 #[.int .i64 b, xc, .int .i64 (n : Int), .slice (some ⟨w.heap.size, 0, none⟩) 3 3] (w.alloc (.cells #[u0, u1, u2] 22)) fun e w' => OwF w n (namL kmW zc (z0 ++ z1 ++ z2) (8 * q) n) e w' := by
  have hb0 : Below w.heap.size w (w.alloc (.cells #[u0, u1, u2] 22)) := (Below.refl _ _).alloc (Nat.le_refl _) _
  have hcl : ∀ j, (w.alloc (.cells #[u0, u1, u2] 22)).cell? ⟨w.heap.size, j, none⟩ = (#[u0, u1, u2] : Array Value)[j]? := cell_made w _ _
  have h := khashed_own b q n w.heap.size 3 3 xc zc (fun i => if i = 0 then u0 else if i = 1 then u1 else u2) (fun i => if i = 0 then z0 else if i = 1 then z1 else z2) _ hbq (hc.self hb0) hlc (by decide) (fun i hi => by
    rcases (by omega : i = 0 ∨ i = 1 ∨ i = 2) with rfl | rfl | rfl
    · exact hcl _
    · exact hcl _
    · exact hcl _) (fun i hi => by
    rcases (by omega : i = 0 ∨ i = 1 ∨ i = 2) with rfl | rfl | rfl
    · exact r0.self hb0
    · exact r1.self hb0
    · exact r2.self hb0) (by simpa [ccat] using by omega) hn
  simp only [ccat, List.nil_append] at h
  exact h.mono fun e w' hw => hw.later hb0
theorem rdc_lit {w : World} {v : Value} {zs : List Int} (h : RdC w v zs) : Rd .u8 w v zs := h.rd
theorem ksum_ok (b : Int) (q n : Nat) (xk xm xc : Value) (zk zm zc : List Int) (f : Bool) (w : World) (hbq : (b = 128 ∧ q = 21) ∨ (b = 256 ∧ q = 17)) (hk : RdC w xk zk) (hm : RdC w xm zm) (hc : RdC w xc zc) (hlk : zk.length ≤ 1000) (hlm : zm.length ≤ 1000) (hlc : zc.length ≤ 1000) (hn : n ≤ 65536) :
    Calls Try.prog 8 #[.int .i64 b, xk, xm, xc, .int .i64 (n : Int), .bool f] w fun e w' => OwF w n (kmL zk zm zc (8 * q) n (if f then 0 else 8 * n)) e w' := by
  have HHd := hid (khead_ok b q xk zk w hbq hk hlk)
  have HEn := hid (fun w => kend_any n f w hn)
  have hq := (kd_rate hbq).2.2
  have hsl := sto_le5 (z := zk) (by omega)
  have hpl := cpd_le (zs := sto zk) (n := 8 * q) (by omega) (by omega)
  have hs2 := sto_len zk
  have hs3 := lef_le (n := 8 * zk.length) (by omega)
  have hx : (cpd (sto zk) (8 * q)).length ≤ 3000 := by omega
  have HPw := hid (cpd_wf (zs := sto zk) (n := 8 * q) (by omega) (sto_wf5 (by omega) (wfs_of hk.rd)))
  have HXl := hid hx
  have HRl : Hid ((rig (if f then 0 else 8 * n)).length ≤ 9) := hid (rig_le (by split <;> omega))
  have HL := hid hlm
  have HM := hid hm
  have HC := hid hc
  have HS := hid (fun (u0 u2 : Value) (w : World) (h0 : Rd .u8 w u0 (cpd (sto zk) (8 * q))) (h1 : Rd .u8 w xm zm) (h2 : Rd .u8 w u2 (rig (if f then 0 else 8 * n))) (h : RdC w xc zc) => khashed3 b q n xc u0 xm u2 zc _ zm _ w hbq h hlc h0 h1 h2 (by have := HXl.out; have := HRl.out; omega) hn)
  have hE : kmL zk zm zc (8 * q) n (if f then 0 else 8 * n) = namL kmW zc (cpd (sto zk) (8 * q) ++ zm ++ rig (if f then 0 else 8 * n)) (8 * q) n := rfl
  rw [hE]
  obtain ⟨pk, Lk, ck, rfl⟩ := hk.lit
  obtain ⟨pm, Lm, cm, rfl⟩ := hm.lit
  obtain ⟨pc, Lc, cc, rfl⟩ := hc.lit
  have g1 : ¬ (n : Int) < 0 := by omega
  have g2 : ¬ (65536 : Int) < (n : Int) := by omega
  obtain ⟨NM, hNM⟩ : ∃ NM, namL kmW zc (cpd (sto zk) (8 * q) ++ zm ++ rig (if f then 0 else 8 * n)) (8 * q) n = NM := ⟨_, rfl⟩
  rw [hNM] at HS ⊢
  clear hNM hE hsl hpl hs2 hs3 hx hq hbq hk hm hc hlk hlm hlc hn
  generalize rig (if f then 0 else 8 * n) = RG at *
  generalize cpd (sto zk) (8 * q) = KH at *
  go_enter Try.func8, Try.ntmps8
  go_wp2_with (first
    | (go_at_call 7; (with_reducible refine (HHd.out).mono ?_); rintro e w1 ⟨p1, L1, c1, rfl, ho, hl⟩; have HO1 := hid (ho.rd (by have := HXl.out; show _ * 1 ≤ _; omega) HPw.out); have HB1 := hid hl; clear ho hl)
    | (go_at_call 18; (with_reducible refine (HEn.out w1).mono ?_); rintro e w2 ⟨p2, L2, c2, rfl, ho, hl⟩; have HO2 := hid ho.rd; have HK2 := hid (HO1.out.self hl); have HB2 := hid (HB1.out.trans (hl.mono HB1.out.size)); have HS2 := hid (HS.out _ _ w2 HK2.out (HM.out.rd.self HB2.out) HO2.out (HC.out.self HB2.out)); clear ho hl)
    | (go_at_call 17; (with_reducible refine (HS2.out).mono ?_); rintro e w3 h3; have HO := hid (h3.later HB2.out); obtain ⟨g, rfl, _⟩ := h3))
  go_ret2
  obtain ⟨g2, e1, h1, h2⟩ := HO.out
  simp at e1
  subst e1
  exact ⟨_, rfl, h1, h2⟩
theorem ksum_range (b n : Int) (xk xm xc : Value) (f : Bool) (w : World) (hn : n < 0 ∨ 65536 < n) :
    Calls Try.prog 8 #[.int .i64 b, xk, xm, xc, .int .i64 n, .bool f] w fun e w' => e = .returned (.tuple #[.slice none 0 0, .int .i64 1]) ∧ w' = w := by
  rcases hn with h | h
  · go_enter Try.func8, Try.ntmps8
    go_wp2
    go_ret2
    exact ⟨rfl, rfl⟩
  · have h2 : ¬ n < 0 := by omega
    go_enter Try.func8, Try.ntmps8
    go_wp2
    go_ret2
    exact ⟨rfl, rfl⟩
theorem ksum_bits (b n : Int) (xk xm xc : Value) (zk zm zc : List Int) (f : Bool) (w : World) (hk : RdC w xk zk) (hm : RdC w xm zm) (hc : RdC w xc zc) (hn : ¬ n < 0) (hn2 : ¬ 65536 < n) (h1 : ¬ b = 128) (h2 : ¬ b = 256) :
    Calls Try.prog 8 #[.int .i64 b, xk, xm, xc, .int .i64 n, .bool f] w fun e w' => e = .returned (.tuple #[.slice none 0 0, .int .i64 1]) ∧ w' = w := by
  have HH := hid (khead_no b xk w zk hk h1 h2)
  obtain ⟨pk, Lk, ck, rfl⟩ := hk.lit
  obtain ⟨pm, Lm, cm, rfl⟩ := hm.lit
  obtain ⟨pc, Lc, cc, rfl⟩ := hc.lit
  clear hk hm hc h1 h2
  go_enter Try.func8, Try.ntmps8
  go_wp2_with (first
    | (go_at_call 7; (with_reducible refine (HH.out).mono ?_); rintro e w1 ⟨rfl, rfl⟩))
  go_ret2
  exact ⟨rfl, rfl⟩
theorem ksum_o (b n : Int) (xk xm xc : Value) (zk zm zc : List Int) (f : Bool) (w : World) (hk : RdC w xk zk) (hm : RdC w xm zm) (hc : RdC w xc zc) (hlk : zk.length ≤ 1000) (hlm : zm.length ≤ 1000) (hlc : zc.length ≤ 1000) :
    Calls Try.prog 8 #[.int .i64 b, xk, xm, xc, .int .i64 n, .bool f] w fun e w' => OwE w (ksL b n zk zm zc f) (chE b n) e w' := by
  by_cases h1 : chE b n = 0
  · obtain ⟨⟨q, hq⟩, m, rfl, hm2⟩ := kd_at h1
    rw [ksL, if_pos h1, h1, (kd_rate hq).1, Int.toNat_natCast, Int.toNat_natCast]
    refine (ksum_ok b q m xk xm xc zk zm zc f w hq hk hm hc hlk hlm hlc hm2).mono ?_
    rintro e w' ⟨g, rfl, ho, hl⟩
    exact ⟨_, rfl, ho, hl⟩
  · rw [ksL, if_neg h1, chE_no h1]
    have key : Calls Try.prog 8 #[.int .i64 b, xk, xm, xc, .int .i64 n, .bool f] w fun e w' => e = .returned (.tuple #[.slice none 0 0, .int .i64 1]) ∧ w' = w := by
      by_cases hn : n < 0 ∨ 65536 < n
      · exact ksum_range b n xk xm xc f w hn
      · refine ksum_bits b n xk xm xc zk zm zc f w hk hm hc (by omega) (by omega) ?_ ?_
        · rintro rfl; exact h1 (by unfold chE; rw [if_neg (by omega)])
        · rintro rfl; exact h1 (by unfold chE; rw [if_neg (by omega)])
    exact key.mono (by rintro e w' ⟨rfl, rfl⟩; exact ⟨_, rfl, own_nil _ _ _ _, Below.refl _ _⟩)
theorem ksays_i (b : Int) (xk xm xc xt : Value) (zk zm zc zt : List Int) (w : World) (hk : RdC w xk zk) (hm : RdC w xm zm) (hc : RdC w xc zc) (ht : RdC w xt zt) (hlk : zk.length ≤ 1000) (hlm : zm.length ≤ 1000) (hlc : zc.length ≤ 1000) (hlt : zt.length ≤ 1000) :
    Calls Try.prog 13 #[.int .i64 b, xk, xm, xc, xt] w fun e w' => e = .returned (.bool (sayB b zk zm zc zt)) ∧ Below w.heap.size w w' := by
  have HS := hid (ksum_o b (zt.length : Int) xk xm xc zk zm zc false w hk hm hc hlk hlm hlc)
  have hE : chE b (zt.length : Int) = chE b 0 := by
    unfold chE
    by_cases h3 : b ≠ 128 ∧ b ≠ 256
    · rw [if_pos (.inl h3), if_pos (.inl h3)]
    · rw [if_neg (by omega), if_neg (by omega)]
  rw [hE] at HS
  have hy : Bs (ksL b (zt.length : Int) zk zm zc false) := bs_of fun z hz => WalkArith.wf_u8 (ksL_bytes b (zt.length : Int) zk zm zc false z hz)
  have hyl : (ksL b (zt.length : Int) zk zm zc false).length ≤ 65536 := ksL_len _ _ _ _
  have hyt := bs_of (wfs_of ht.rd)
  rw [sayB]
  obtain ⟨pk, Lk, ck, rfl⟩ := hk.lit
  obtain ⟨pm, Lm, cm, rfl⟩ := hm.lit
  obtain ⟨pc, Lc, cc, rfl⟩ := hc.lit
  obtain ⟨pt, ct, rfl, _⟩ := ht.rd
  have HT := hid ht
  obtain ⟨T, hT⟩ : ∃ T, zt.length = T := ⟨_, rfl⟩
  rw [hT] at HS HT hy hyl ⊢
  obtain ⟨S, hS⟩ : ∃ S, ksL b (T : Int) zk zm zc false = S := ⟨_, rfl⟩
  rw [hS] at HS hy hyl ⊢
  obtain ⟨E, hE2⟩ : ∃ E, chE b 0 = E := ⟨_, rfl⟩
  rw [hE2] at HS ⊢
  have HY := hid (And.intro hy (And.intro hyt hyl))
  by_cases h0 : T = 0
  · have hd : decide (E = 0 ∧ 0 < T ∧ S = zt) = false := decide_eq_false (fun h => by omega)
    rw [hd]
    have g0 : ((T : Int) == 0) = true := by rw [h0]; rfl
    subst h0
    clear hk hm hc ht hlk hlm hlc hlt hE hy hyt hyl hT hS hE2 hd HS
    go_enter Try.func13, Try.ntmps13
    go_wp2
    go_ret
    exact ⟨rfl, Below.refl _ _⟩
  · have g0 : ¬ (T : Int) = 0 := by omega
    by_cases h1 : E = 0
    · subst h1
      have hd : decide ((0 : Int) = 0 ∧ 0 < T ∧ S = zt) = decide (S = zt) := decide_eq_decide.2 ⟨fun h => h.2.2, fun h => ⟨rfl, by omega, h⟩⟩
      rw [hd]
      clear hk hm hc ht hlk hlm hlc hlt hE hy hyt hyl hT hS hE2 hd h0
      go_enter Try.func13, Try.ntmps13
      go_wp2_with (first
        | (go_at_call 8; (with_reducible refine (HS.out).mono ?_); rintro e w2 ⟨u, rfl, ho, hl⟩; obtain ⟨p2, c2, rfl, _⟩ := ho.slice; have HO := hid ho; have HL := hid hl; clear ho hl)
        | (go_at_call 25; ((with_reducible refine (same_any _ _ _ _ w2 (own_rdc HO.out (by have := HY.out.2.2; omega) (wf_of_bs HY.out.1)).rd (HT.out.self HL.out).rd).mono ?_); rintro e w3 ⟨rfl, hl⟩; have HB := hid (HL.out.trans (hl.mono HL.out.size)); clear hl)))
      go_ret
      exact ⟨by rw [same_math HY.out.1 HY.out.2.1]; rfl, HB.out⟩
    · have hd : decide (E = 0 ∧ 0 < T ∧ S = zt) = false := decide_eq_false (fun h => h1 h.1)
      rw [hd]
      have g1 : (E == 0) = false := by simpa using h1
      clear hk hm hc ht hlk hlm hlc hlt hE hy hyt hyl hT hS hE2 hd h0
      go_enter Try.func13, Try.ntmps13
      go_wp2_with (first
        | (go_at_call 8; (with_reducible refine (HS.out).mono ?_); rintro e w2 ⟨u, rfl, ho, hl⟩; obtain ⟨p2, c2, rfl, _⟩ := ho.slice; have HL := hid hl; clear ho hl))
      go_ret
      exact ⟨rfl, HL.out⟩
end Go.Proofs.Ythcjgjhoifnpjaa
