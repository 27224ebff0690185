import Derived.Test.YtfjgelialaccdaaProg
import Derived.Test.YtfjgelialaccdaaSpk
/- SpongeGrows. -/
namespace Go.Proofs.Ytfjgelialaccdaa
open Go.RowKit

theorem sumL_len (zs : List Int) {q n : Nat} (mark : Int) (hq : 1 ≤ q) : (sumL zs (8 * q) mark n).length = n := by
  rw [sumL, Nat.mul_div_cancel_left q (by decide : 0 < 8)]
  exact told_len (by omega)
theorem sumL_more (zs : List Int) {q n m : Nat} (mark : Int) (hq : 1 ≤ q) (h : n ≤ m) : (sumL zs (8 * q) mark m).take n = sumL zs (8 * q) mark n := by
  rw [sumL, sumL, Nat.mul_div_cancel_left q (by decide : 0 < 8)]
  exact told_more (by omega) h
theorem rdc_pre {w : World} {p : Option Addr} {T cap n : Nat} {xs : List Int} (h : RdC w (.slice p T cap) xs) (hn : n ≤ T) : Rd .u8 w (.slice p n cap) (xs.take n) := by
  obtain ⟨a, c, e, h2, h3, hc⟩ := h.rd
  injection e with e1 e2 e3
  subst e1; subst e3
  have hl2 : (xs.take n).length = n := by rw [List.length_take]; omega
  refine ⟨p, cap, by rw [hl2], by rw [hl2]; exact Nat.le_trans (Nat.mul_le_mul_right _ (by omega)) h2, fun z hz => h3 z (List.mem_of_mem_take hz), fun h0 => ?_⟩
  rw [hl2] at h0 ⊢
  obtain ⟨b, off, e, hb, hc⟩ := hc (by omega)
  refine ⟨b, off, e, hb, fun j hj => ?_⟩
  rw [hc j (by omega), nth_of (show j < xs.length by omega), nth_of (show j < (xs.take n).length by omega)]
  simp
theorem rdc_len {w : World} {u : Value} {zs : List Int} {n : Nat} (h : RdC w u zs) (hn : zs.length = n) : ∃ p c, u = .slice p n c ∧ n ≤ c := by
  obtain ⟨p, c, e, h2, _⟩ := h.open
  rw [hn] at e h2
  exact ⟨p, c, e, h2⟩
theorem rd_len {w : World} {u : Value} {zs : List Int} {n : Nat} (h : Rd .u8 w u zs) (hn : zs.length = n) : ∃ p c, u = .slice p n c := by
  obtain ⟨p, c, e, _⟩ := h
  rw [hn] at e
  exact ⟨p, c, e⟩
theorem own_part_len {B : Nat} {w : World} {v : Value} {xs : List Int} {n : Nat} (h : Own .u8 B 5 w v xs) (hn : xs.length = n) (hp : 0 < n) :
    ∃ g cap, v = .slice (some ⟨g, 0, none⟩) n cap ∧ B ≤ g ∧ n ≤ cap ∧ (∀ j, j < n → w.cell? ⟨g, j, none⟩ = some (.int .u8 (nth xs j))) ∧ (∀ o, w.frozen? ⟨g, o, none⟩ = false) ∧ (∀ j z, j < n → Own .u8 B 5 (w.setCell ⟨g, j, none⟩ (.int .u8 z)) v (xs.set j z)) := by
  subst hn
  obtain ⟨g, cap, e, hb, _, hc, hf, hs⟩ := h.part hp
  obtain ⟨p', c', e', hcap, _⟩ := h.slice
  rw [e] at e'
  injection e' with _ _ e3
  subst e3
  exact ⟨g, cap, e, hb, hcap, hc, hf, hs⟩
theorem fl_back {zs : List Int} {rate t : Nat} {mark : Int} (hz : ∀ z ∈ zs, 0 ≤ z ∧ z ≤ 255) (hm : 0 ≤ mark ∧ mark ≤ 255) (ht : (fl0 zs rate mark).length = t + 1) :
    top (nth (flL zs rate mark) t) = nth (fl0 zs rate mark) t ∧ (flL zs rate mark).set t (nth (fl0 zs rate mark) t) = fl0 zs rate mark := by
  have hb := (top_nat (fl0_bytes (rate := rate) hz hm (nth (fl0 zs rate mark) t) (by rw [nth_of (by omega)]; exact List.getElem_mem _))).2.2
  have e : flL zs rate mark = (fl0 zs rate mark).set t (top (nth (fl0 zs rate mark) t)) := by unfold flL; rw [ht, Nat.add_sub_cancel]
  have e2 : nth (flL zs rate mark) t = top (nth (fl0 zs rate mark) t) := by
    rw [e, nth_of (by rw [List.length_set]; omega)]
    simp
  refine ⟨by rw [e2, hb], ?_⟩
  rw [e, List.set_set, nth_of (by omega)]
  exact List.set_getElem_self _
theorem fl0_nth {zs : List Int} {rate : Nat} {mark : Int} : (∀ j, 0 < j → j ≤ cmis (zs.length + 1) rate → nth (fl0 zs rate mark) (zs.length + j) = 0) ∧ nth (fl0 zs rate mark) zs.length = mark ∧ (fl0 zs rate mark).take zs.length = zs := by
  have hl := fl0_len zs rate mark
  refine ⟨fun j h0 hj => ?_, ?_, ?_⟩
  · rw [nth_of (by omega)]
    unfold fl0
    rw [List.getElem_append_right (by simp; omega)]
    simp
  · rw [nth_of (by omega)]
    simp [fl0]
  · unfold fl0
    rw [List.append_assoc, List.take_left' rfl]
theorem rad_q {q : Nat} (h : 1 ≤ q ∧ q ≤ 24) : rad ((8 * q : Nat) : Int) = true := decide_eq_true ⟨by omega, by omega, by omega⟩

set_option maxRecDepth 100000 in
set_option maxHeartbeats 6400000 in
theorem sgrows_sz (v : Value) (zs0 : List Int) (r8 : Nat) (mark : Int) (f : Nat → Nat) (w : World) (h : RdC w v zs0) (hr8 : r8 < 256) (hm : 0 ≤ mark ∧ mark ≤ 255) (hf : ∀ j, j < 2 → f j < 256) (hL : zs0.length ≤ 600) (hk : mark = 0) :
    Calls Try.prog 5 #[v, .int .u8 (r8 : Int), .int .u8 mark, .agg (ba 2 f)] w fun e w' => e = .returned (.bool true) ∧ Below w.heap.size w w' := by
  obtain ⟨r, hr⟩ : ∃ r, r8 % 24 = r := ⟨_, rfl⟩
  have hrl : r < 24 := by omega
  obtain ⟨q, hq⟩ : ∃ q, q = 1 + r := ⟨_, rfl⟩
  have hq2 : 1 ≤ q ∧ q ≤ 24 := by omega
  obtain ⟨rm, hrm⟩ : ∃ x, 8 * r = x := ⟨_, rfl⟩
  have e1 : (r8 : Int).tmod 24 = (r : Int) := by rw [← hr]; rfl
  have e2 : (r8 : Int) % 24 = (r : Int) := by omega
  have e3 : (8 : Int) * (r : Int) = (rm : Int) := by omega
  have e4 : IntKind.i64.wrap (rm : Int) = (rm : Int) := by rw [IntKind.wrap_i64]; omega
  obtain ⟨n0, en0⟩ : ∃ n, f 0 = n := ⟨_, rfl⟩
  obtain ⟨n1, en1⟩ : ∃ n, f 1 = n := ⟨_, rfl⟩
  have hn0 : n0 < 256 := by rw [← en0]; exact hf 0 (by decide)
  have hn1 : n1 < 256 := by rw [← en1]; exact hf 1 (by decide)
  obtain ⟨s, hs⟩ : ∃ s, n0 + n1 = s := ⟨_, rfl⟩
  have e5 : (n0 : Int) + (n1 : Int) = (s : Int) := by omega
  have e6 : IntKind.i64.wrap (s : Int) = (s : Int) := by rw [IntKind.wrap_i64]; omega
  obtain ⟨a, cap0, hv, hcap, hmax, h47, hcs⟩ := h.open
  subst hv
  unfold maxLen at hmax
  obtain ⟨zs, hzs⟩ : ∃ zs, zs0 = zs := ⟨_, rfl⟩
  subst hzs
  have hR0 : Rd .u8 w (.slice a zs0.length cap0) zs0 := h.rd
  have hkv : CapV (.slice a zs0.length cap0) := h.cap
  obtain ⟨L, hzL⟩ : ∃ L, zs0.length = L := ⟨_, rfl⟩
  rw [hzL] at hR0 hcap hL hcs hkv ⊢
  have g0 : ¬ (600 : Int) < (L : Int) := by omega
  have HL6 : Hid (L ≤ 600) := hid hL
  have HR := hid hR0
  have HZb := hid (rd_bytes hR0)
  have HS1 := hid (fun w (h : Rd .u8 w (.slice a L cap0) zs0) => ssum_c _ zs0 ((8 * q : Nat) : Int) mark (n0 : Int) w ⟨h, hkv⟩ (by have := HL6.out; omega) hm)
  have HS2 := hid (fun w (h : Rd .u8 w (.slice a L cap0) zs0) => ssum_c _ zs0 ((8 * q : Nat) : Int) mark (s : Int) w ⟨h, hkv⟩ (by have := HL6.out; omega) hm)
  have HFi := hid (fun w (h : Rd .u8 w (.slice a L cap0) zs0) => sfill_i _ zs0 ((8 * q : Nat) : Int) mark w h (by have := HL6.out; omega) hm)
  have hK : ∀ m : Nat, m ≤ 65536 → suK ((8 * q : Nat) : Int) (m : Int) = true := fun m hm => by unfold suK; rw [rad_q hq2]; simp; omega
  rw [suL, suE, hK n0 (by omega), if_pos rfl, if_pos rfl, Int.toNat_natCast, Int.toNat_natCast] at HS1
  rw [suL, suE, hK s (by omega), if_pos rfl, if_pos rfl, Int.toNat_natCast, Int.toNat_natCast] at HS2
  rw [fiL, fiE, rad_q hq2, if_pos rfl, if_pos rfl, Int.toNat_natCast] at HFi
  have HAl := hid (sumL_len zs0 (q := q) (n := n0) mark hq2.1)
  have HBl := hid (sumL_len zs0 (q := q) (n := s) mark hq2.1)
  have HAB := hid (sumL_more zs0 (q := q) (n := n0) (m := s) mark hq2.1 (by omega))
  have HFl := hid (flL_len zs0 (8 * q) mark)
  have HFm := hid (mis_lt (n := zs0.length + 1) (w := 8 * q) (by omega))
  have HFd := hid (flL_mod zs0 (rate := 8 * q) mark (by omega))
  have HFb := hid (flL_bytes (rate := 8 * q) HZb.out hm)
  rw [hzL] at HFl HFm
  generalize cmis (L + 1) (8 * q) = k at *
  generalize sumL zs0 (8 * q) mark n0 = A at *
  generalize sumL zs0 (8 * q) mark s = B at *
  obtain ⟨R, hR⟩ : ∃ R, 8 * q = R := ⟨_, rfl⟩
  rw [hR] at HS1 HS2 HFi HFl HFm HFd HFb
  have e7 : (8 : Int) + (rm : Int) = (R : Int) := by omega
  have e8 : IntKind.i64.wrap (R : Int) = (R : Int) := by rw [IntKind.wrap_i64]; omega
  obtain ⟨FL, eFL⟩ : ∃ x, flL zs0 R mark = x := ⟨_, rfl⟩
  rw [eFL] at HFi HFl HFd HFb
  have HRl : Hid (8 ≤ R ∧ R ≤ 192) := hid (by omega)
  obtain ⟨LN, eLN⟩ : ∃ x, FL.length = x := ⟨_, rfl⟩
  have hLN : LN = L + 1 + k := by rw [← eLN]; exact HFl.out
  have HLN := hid (And.intro eLN hLN)
  have hkR := HFm.out
  rw [eLN] at HFd
  have x1 : ¬ (LN : Int) ≤ (L : Int) := by omega
  have x2 : (LN : Int).tmod (R : Int) = 0 := by
    have : (LN : Int).tmod (R : Int) = ((LN % R : Nat) : Int) := rfl
    rw [this, HFd.out]; rfl
  have x3 : (LN : Int) % (R : Int) = 0 := by
    have : (LN : Int) % (R : Int) = ((LN % R : Nat) : Int) := rfl
    rw [this, HFd.out]; rfl
  obtain ⟨d, ed⟩ : ∃ d, LN - L = d := ⟨_, rfl⟩
  have x4 : (LN : Int) - (L : Int) = (d : Int) := by omega
  have x5 : IntKind.i64.wrap (d : Int) = (d : Int) := by rw [IntKind.wrap_i64]; have := HRl.out; have := HL6.out; omega
  have x6 : ¬ (R : Int) < (d : Int) := by omega
  have x7 : ¬ (R : Int) = 0 := by omega
  have x8 : ¬ (s : Int) < (n0 : Int) := by omega
  have hAt : At (w.alloc (.cells (ba 2 f) 41)) w.heap.size 2 41 f := At.new w 2 41 f
  have HAt := hid hAt
  have HW0 : Hid (Below w.heap.size w (w.alloc (.cells (ba 2 f) 41))) := hid ((Below.refl _ _).alloc (Nat.le_refl _) _)
  have HCell : Hid (∀ wr, At wr w.heap.size 2 41 f → wr.cell? ⟨w.heap.size, 0, none⟩ = some (.int .u8 (n0 : Int)) ∧ wr.cell? ⟨w.heap.size, 1, none⟩ = some (.int .u8 (n1 : Int))) := hid fun wr h => ⟨by rw [← en0]; exact h.cell (by decide), by rw [← en1]; exact h.cell (by decide)⟩
  obtain ⟨c00, c01⟩ := HCell.out _ hAt
  have HNs : Hid (n0 ≤ s) := hid (by omega)
  clear hr hrl hq hq2 hrm hf hs h hcs hR0 hK hR ed hkR hAt eLN hLN en0 en1 eFL hzL
  clear hL
  subst hk
  go_enter Try.func5, Try.ntmps5
  go_wp2_with (first
    | (go_at_call 8; (with_reducible refine (HS1.out _ (HR.out.self HW0.out)).mono ?_); rintro e w1 ⟨u1, rfl, hc, hl⟩; have HX1 := hid hc; obtain ⟨p1, c1, rfl, _⟩ := rdc_len hc HAl.out; have HA1 := hid (HAt.out.self hl); obtain ⟨c10, c11⟩ := HCell.out _ HA1.out; have HW1 := hid (HW0.out.trans (hl.mono HW0.out.size)); clear hl hc)
    | (go_at_call 8; (with_reducible refine (HS2.out w1 (HR.out.self HW1.out)).mono ?_); rintro e w2 ⟨u2, rfl, hc, hl⟩; have HY2 := hid hc; have HX2 := hid (HX1.out.self hl); obtain ⟨p2, c2, rfl, hc2⟩ := rdc_len hc HBl.out; have z1 : (n0 : Int) ≤ (c2 : Int) := (by have := HNs.out; omega); have HA2 := hid (HA1.out.self hl); obtain ⟨c20, c21⟩ := HCell.out _ HA2.out; have HW2 := hid (HW1.out.trans (hl.mono HW1.out.size)); clear hl hc)
    | (go_at_call 7; (with_reducible refine (HFi.out w2 (HR.out.self HW2.out)).mono ?_); rintro e w3 ⟨u3, rfl, hc, hl⟩; have HZ3 := hid hc; have HX3 := hid (HX2.out.self hl).rd; have HY3 := hid (HY2.out.self hl); obtain ⟨p3, c3, rfl⟩ := rd_len hc HLN.out.1; have HA3 := hid (HA2.out.self hl); obtain ⟨c30, c31⟩ := HCell.out _ HA3.out; have HW3 := hid (HW2.out.trans (hl.mono HW2.out.size)); have HSm := hid (same_ns _ _ _ _ w3 (rdc_pre HY3.out HNs.out) HX3.out HAB.out); clear hl hc)
    | (go_at_call 12; (with_reducible refine (HSm.out).mono ?_); rintro e w3 ⟨rfl, rfl⟩)
    | (go_at_call 6; (with_reducible refine (sawake_any _).mono ?_); rintro e w9 ⟨rfl, hl9⟩; have HW9 := hid (HW3.out.trans (hl9.mono HW3.out.size)); clear hl9))
  go_ret
  exact ⟨rfl, HW9.out⟩

set_option maxRecDepth 100000 in
set_option maxHeartbeats 6400000 in
theorem sgrows_sb (v : Value) (zs0 : List Int) (r8 : Nat) (mark : Int) (f : Nat → Nat) (w : World) (h : RdC w v zs0) (hr8 : r8 < 256) (hm : 0 ≤ mark ∧ mark ≤ 255) (hf : ∀ j, j < 2 → f j < 256) (hL : zs0.length ≤ 600) (hk : 128 ≤ mark) :
    Calls Try.prog 5 #[v, .int .u8 (r8 : Int), .int .u8 mark, .agg (ba 2 f)] w fun e w' => e = .returned (.bool true) ∧ Below w.heap.size w w' := by
  obtain ⟨r, hr⟩ : ∃ r, r8 % 24 = r := ⟨_, rfl⟩
  have hrl : r < 24 := by omega
  obtain ⟨q, hq⟩ : ∃ q, q = 1 + r := ⟨_, rfl⟩
  have hq2 : 1 ≤ q ∧ q ≤ 24 := by omega
  obtain ⟨rm, hrm⟩ : ∃ x, 8 * r = x := ⟨_, rfl⟩
  have e1 : (r8 : Int).tmod 24 = (r : Int) := by rw [← hr]; rfl
  have e2 : (r8 : Int) % 24 = (r : Int) := by omega
  have e3 : (8 : Int) * (r : Int) = (rm : Int) := by omega
  have e4 : IntKind.i64.wrap (rm : Int) = (rm : Int) := by rw [IntKind.wrap_i64]; omega
  obtain ⟨n0, en0⟩ : ∃ n, f 0 = n := ⟨_, rfl⟩
  obtain ⟨n1, en1⟩ : ∃ n, f 1 = n := ⟨_, rfl⟩
  have hn0 : n0 < 256 := by rw [← en0]; exact hf 0 (by decide)
  have hn1 : n1 < 256 := by rw [← en1]; exact hf 1 (by decide)
  obtain ⟨s, hs⟩ : ∃ s, n0 + n1 = s := ⟨_, rfl⟩
  have e5 : (n0 : Int) + (n1 : Int) = (s : Int) := by omega
  have e6 : IntKind.i64.wrap (s : Int) = (s : Int) := by rw [IntKind.wrap_i64]; omega
  obtain ⟨a, cap0, hv, hcap, hmax, h47, hcs⟩ := h.open
  subst hv
  unfold maxLen at hmax
  obtain ⟨zs, hzs⟩ : ∃ zs, zs0 = zs := ⟨_, rfl⟩
  subst hzs
  have hR0 : Rd .u8 w (.slice a zs0.length cap0) zs0 := h.rd
  have hkv : CapV (.slice a zs0.length cap0) := h.cap
  obtain ⟨L, hzL⟩ : ∃ L, zs0.length = L := ⟨_, rfl⟩
  rw [hzL] at hR0 hcap hL hcs hkv ⊢
  have g0 : ¬ (600 : Int) < (L : Int) := by omega
  have HL6 : Hid (L ≤ 600) := hid hL
  have HR := hid hR0
  have HZb := hid (rd_bytes hR0)
  have HS1 := hid (fun w (h : Rd .u8 w (.slice a L cap0) zs0) => ssum_c _ zs0 ((8 * q : Nat) : Int) mark (n0 : Int) w ⟨h, hkv⟩ (by have := HL6.out; omega) hm)
  have HS2 := hid (fun w (h : Rd .u8 w (.slice a L cap0) zs0) => ssum_c _ zs0 ((8 * q : Nat) : Int) mark (s : Int) w ⟨h, hkv⟩ (by have := HL6.out; omega) hm)
  have HFi := hid (fun w (h : Rd .u8 w (.slice a L cap0) zs0) => sfill_i _ zs0 ((8 * q : Nat) : Int) mark w h (by have := HL6.out; omega) hm)
  have hK : ∀ m : Nat, m ≤ 65536 → suK ((8 * q : Nat) : Int) (m : Int) = true := fun m hm => by unfold suK; rw [rad_q hq2]; simp; omega
  rw [suL, suE, hK n0 (by omega), if_pos rfl, if_pos rfl, Int.toNat_natCast, Int.toNat_natCast] at HS1
  rw [suL, suE, hK s (by omega), if_pos rfl, if_pos rfl, Int.toNat_natCast, Int.toNat_natCast] at HS2
  rw [fiL, fiE, rad_q hq2, if_pos rfl, if_pos rfl, Int.toNat_natCast] at HFi
  have HAl := hid (sumL_len zs0 (q := q) (n := n0) mark hq2.1)
  have HBl := hid (sumL_len zs0 (q := q) (n := s) mark hq2.1)
  have HAB := hid (sumL_more zs0 (q := q) (n := n0) (m := s) mark hq2.1 (by omega))
  have HFl := hid (flL_len zs0 (8 * q) mark)
  have HFm := hid (mis_lt (n := zs0.length + 1) (w := 8 * q) (by omega))
  have HFd := hid (flL_mod zs0 (rate := 8 * q) mark (by omega))
  have HFb := hid (flL_bytes (rate := 8 * q) HZb.out hm)
  rw [hzL] at HFl HFm
  generalize cmis (L + 1) (8 * q) = k at *
  generalize sumL zs0 (8 * q) mark n0 = A at *
  generalize sumL zs0 (8 * q) mark s = B at *
  obtain ⟨R, hR⟩ : ∃ R, 8 * q = R := ⟨_, rfl⟩
  rw [hR] at HS1 HS2 HFi HFl HFm HFd HFb
  have e7 : (8 : Int) + (rm : Int) = (R : Int) := by omega
  have e8 : IntKind.i64.wrap (R : Int) = (R : Int) := by rw [IntKind.wrap_i64]; omega
  obtain ⟨FL, eFL⟩ : ∃ x, flL zs0 R mark = x := ⟨_, rfl⟩
  rw [eFL] at HFi HFl HFd HFb
  have HRl : Hid (8 ≤ R ∧ R ≤ 192) := hid (by omega)
  obtain ⟨LN, eLN⟩ : ∃ x, FL.length = x := ⟨_, rfl⟩
  have hLN : LN = L + 1 + k := by rw [← eLN]; exact HFl.out
  have HLN := hid (And.intro eLN hLN)
  have hkR := HFm.out
  rw [eLN] at HFd
  have x1 : ¬ (LN : Int) ≤ (L : Int) := by omega
  have x2 : (LN : Int).tmod (R : Int) = 0 := by
    have : (LN : Int).tmod (R : Int) = ((LN % R : Nat) : Int) := rfl
    rw [this, HFd.out]; rfl
  have x3 : (LN : Int) % (R : Int) = 0 := by
    have : (LN : Int) % (R : Int) = ((LN % R : Nat) : Int) := rfl
    rw [this, HFd.out]; rfl
  obtain ⟨d, ed⟩ : ∃ d, LN - L = d := ⟨_, rfl⟩
  have x4 : (LN : Int) - (L : Int) = (d : Int) := by omega
  have x5 : IntKind.i64.wrap (d : Int) = (d : Int) := by rw [IntKind.wrap_i64]; have := HRl.out; have := HL6.out; omega
  have x6 : ¬ (R : Int) < (d : Int) := by omega
  have x7 : ¬ (R : Int) = 0 := by omega
  have x8 : ¬ (s : Int) < (n0 : Int) := by omega
  have hAt : At (w.alloc (.cells (ba 2 f) 41)) w.heap.size 2 41 f := At.new w 2 41 f
  have HAt := hid hAt
  have HW0 : Hid (Below w.heap.size w (w.alloc (.cells (ba 2 f) 41))) := hid ((Below.refl _ _).alloc (Nat.le_refl _) _)
  have HCell : Hid (∀ wr, At wr w.heap.size 2 41 f → wr.cell? ⟨w.heap.size, 0, none⟩ = some (.int .u8 (n0 : Int)) ∧ wr.cell? ⟨w.heap.size, 1, none⟩ = some (.int .u8 (n1 : Int))) := hid fun wr h => ⟨by rw [← en0]; exact h.cell (by decide), by rw [← en1]; exact h.cell (by decide)⟩
  obtain ⟨c00, c01⟩ := HCell.out _ hAt
  have HNs : Hid (n0 ≤ s) := hid (by omega)
  clear hr hrl hq hq2 hrm hf hs h hcs hR0 hK hR ed hkR hAt eLN hLN en0 en1 eFL hzL
  clear hL
  have y1 : (mark == 0) = false := by simp; omega
  have y2 : (128 : Int) ≤ mark := hk
  go_enter Try.func5, Try.ntmps5
  go_wp2_with (first
    | (go_at_call 8; (with_reducible refine (HS1.out _ (HR.out.self HW0.out)).mono ?_); rintro e w1 ⟨u1, rfl, hc, hl⟩; have HX1 := hid hc; obtain ⟨p1, c1, rfl, _⟩ := rdc_len hc HAl.out; have HA1 := hid (HAt.out.self hl); obtain ⟨c10, c11⟩ := HCell.out _ HA1.out; have HW1 := hid (HW0.out.trans (hl.mono HW0.out.size)); clear hl hc)
    | (go_at_call 8; (with_reducible refine (HS2.out w1 (HR.out.self HW1.out)).mono ?_); rintro e w2 ⟨u2, rfl, hc, hl⟩; have HY2 := hid hc; have HX2 := hid (HX1.out.self hl); obtain ⟨p2, c2, rfl, hc2⟩ := rdc_len hc HBl.out; have z1 : (n0 : Int) ≤ (c2 : Int) := (by have := HNs.out; omega); have HA2 := hid (HA1.out.self hl); obtain ⟨c20, c21⟩ := HCell.out _ HA2.out; have HW2 := hid (HW1.out.trans (hl.mono HW1.out.size)); clear hl hc)
    | (go_at_call 7; (with_reducible refine (HFi.out w2 (HR.out.self HW2.out)).mono ?_); rintro e w3 ⟨u3, rfl, hc, hl⟩; have HZ3 := hid hc; have HX3 := hid (HX2.out.self hl).rd; have HY3 := hid (HY2.out.self hl); obtain ⟨p3, c3, rfl⟩ := rd_len hc HLN.out.1; have HA3 := hid (HA2.out.self hl); obtain ⟨c30, c31⟩ := HCell.out _ HA3.out; have HW3 := hid (HW2.out.trans (hl.mono HW2.out.size)); have HSm := hid (same_ns _ _ _ _ w3 (rdc_pre HY3.out HNs.out) HX3.out HAB.out); clear hl hc)
    | (go_at_call 12; (with_reducible refine (HSm.out).mono ?_); rintro e w3 ⟨rfl, rfl⟩)
    | (go_at_call 6; (with_reducible refine (sawake_any _).mono ?_); rintro e w9 ⟨rfl, hl9⟩; have HW9 := hid (HW3.out.trans (hl9.mono HW3.out.size)); clear hl9))
  go_ret
  exact ⟨rfl, HW9.out⟩

set_option maxRecDepth 100000 in
set_option maxHeartbeats 6400000 in
theorem sgrows_lz (v : Value) (zs0 : List Int) (r8 : Nat) (mark : Int) (f : Nat → Nat) (w : World) (h : RdC w v zs0) (hr8 : r8 < 256) (hm : 0 ≤ mark ∧ mark ≤ 255) (hf : ∀ j, j < 2 → f j < 256) (hL : 600 < zs0.length) (hk : mark = 0) :
    Calls Try.prog 5 #[v, .int .u8 (r8 : Int), .int .u8 mark, .agg (ba 2 f)] w fun e w' => e = .returned (.bool true) ∧ Below w.heap.size w w' := by
  obtain ⟨r, hr⟩ : ∃ r, r8 % 24 = r := ⟨_, rfl⟩
  have hrl : r < 24 := by omega
  obtain ⟨q, hq⟩ : ∃ q, q = 1 + r := ⟨_, rfl⟩
  have hq2 : 1 ≤ q ∧ q ≤ 24 := by omega
  obtain ⟨rm, hrm⟩ : ∃ x, 8 * r = x := ⟨_, rfl⟩
  have e1 : (r8 : Int).tmod 24 = (r : Int) := by rw [← hr]; rfl
  have e2 : (r8 : Int) % 24 = (r : Int) := by omega
  have e3 : (8 : Int) * (r : Int) = (rm : Int) := by omega
  have e4 : IntKind.i64.wrap (rm : Int) = (rm : Int) := by rw [IntKind.wrap_i64]; omega
  obtain ⟨n0, en0⟩ : ∃ n, f 0 = n := ⟨_, rfl⟩
  obtain ⟨n1, en1⟩ : ∃ n, f 1 = n := ⟨_, rfl⟩
  have hn0 : n0 < 256 := by rw [← en0]; exact hf 0 (by decide)
  have hn1 : n1 < 256 := by rw [← en1]; exact hf 1 (by decide)
  obtain ⟨s, hs⟩ : ∃ s, n0 + n1 = s := ⟨_, rfl⟩
  have e5 : (n0 : Int) + (n1 : Int) = (s : Int) := by omega
  have e6 : IntKind.i64.wrap (s : Int) = (s : Int) := by rw [IntKind.wrap_i64]; omega
  obtain ⟨a, cap0, hv, hcap, hmax, h47, hcs⟩ := h.open
  subst hv
  unfold maxLen at hmax
  obtain ⟨zs, hzs⟩ : ∃ zs, zs0.take 600 = zs := ⟨_, rfl⟩
  have hkv : CapV (.slice a 600 cap0) := fun a' n' c' e => by
    injection e with e1 e2 e3
    subst e2 e3
    exact ⟨by omega, by unfold maxLen; exact hmax⟩
  have hzl : zs.length = 600 := by rw [← hzs, List.length_take]; omega
  have hR0 : Rd .u8 w (.slice a 600 cap0) zs := by rw [← hzs]; exact rdc_pre h (by omega)
  obtain ⟨L0, eL0⟩ : ∃ L, zs0.length = L := ⟨_, rfl⟩
  rw [eL0] at hcap hL ⊢
  have g0 : (600 : Int) < (L0 : Int) := by omega
  have g00 : (600 : Int) ≤ (cap0 : Int) := by omega
  obtain ⟨L, eL⟩ : ∃ L : Nat, L = 600 := ⟨_, rfl⟩
  have hzL : zs.length = L := by rw [hzl, eL]
  have hL6 : L ≤ 600 := by omega
  have HL6 : Hid (L ≤ 600) := hid hL6
  have HR := hid hR0
  have HZb := hid (rd_bytes hR0)
  have HS1 := hid (fun w (h : Rd .u8 w (.slice a 600 cap0) zs) => ssum_c _ zs ((8 * q : Nat) : Int) mark (n0 : Int) w ⟨h, hkv⟩ (by have := HL6.out; omega) hm)
  have HS2 := hid (fun w (h : Rd .u8 w (.slice a 600 cap0) zs) => ssum_c _ zs ((8 * q : Nat) : Int) mark (s : Int) w ⟨h, hkv⟩ (by have := HL6.out; omega) hm)
  have HFi := hid (fun w (h : Rd .u8 w (.slice a 600 cap0) zs) => sfill_i _ zs ((8 * q : Nat) : Int) mark w h (by have := HL6.out; omega) hm)
  have hK : ∀ m : Nat, m ≤ 65536 → suK ((8 * q : Nat) : Int) (m : Int) = true := fun m hm => by unfold suK; rw [rad_q hq2]; simp; omega
  rw [suL, suE, hK n0 (by omega), if_pos rfl, if_pos rfl, Int.toNat_natCast, Int.toNat_natCast] at HS1
  rw [suL, suE, hK s (by omega), if_pos rfl, if_pos rfl, Int.toNat_natCast, Int.toNat_natCast] at HS2
  rw [fiL, fiE, rad_q hq2, if_pos rfl, if_pos rfl, Int.toNat_natCast] at HFi
  have HAl := hid (sumL_len zs (q := q) (n := n0) mark hq2.1)
  have HBl := hid (sumL_len zs (q := q) (n := s) mark hq2.1)
  have HAB := hid (sumL_more zs (q := q) (n := n0) (m := s) mark hq2.1 (by omega))
  have HFl := hid (flL_len zs (8 * q) mark)
  have HFm := hid (mis_lt (n := zs.length + 1) (w := 8 * q) (by omega))
  have HFd := hid (flL_mod zs (rate := 8 * q) mark (by omega))
  have HFb := hid (flL_bytes (rate := 8 * q) HZb.out hm)
  rw [hzL] at HFl HFm
  generalize cmis (L + 1) (8 * q) = k at *
  generalize sumL zs (8 * q) mark n0 = A at *
  generalize sumL zs (8 * q) mark s = B at *
  obtain ⟨R, hR⟩ : ∃ R, 8 * q = R := ⟨_, rfl⟩
  rw [hR] at HS1 HS2 HFi HFl HFm HFd HFb
  have e7 : (8 : Int) + (rm : Int) = (R : Int) := by omega
  have e8 : IntKind.i64.wrap (R : Int) = (R : Int) := by rw [IntKind.wrap_i64]; omega
  obtain ⟨FL, eFL⟩ : ∃ x, flL zs R mark = x := ⟨_, rfl⟩
  rw [eFL] at HFi HFl HFd HFb
  have HRl : Hid (8 ≤ R ∧ R ≤ 192) := hid (by omega)
  obtain ⟨LN, eLN⟩ : ∃ x, FL.length = x := ⟨_, rfl⟩
  have hLN : LN = L + 1 + k := by rw [← eLN]; exact HFl.out
  have HLN := hid (And.intro eLN hLN)
  have hkR := HFm.out
  rw [eLN] at HFd
  have x1 : ¬ (LN : Int) ≤ (L : Int) := by omega
  have x2 : (LN : Int).tmod (R : Int) = 0 := by
    have : (LN : Int).tmod (R : Int) = ((LN % R : Nat) : Int) := rfl
    rw [this, HFd.out]; rfl
  have x3 : (LN : Int) % (R : Int) = 0 := by
    have : (LN : Int) % (R : Int) = ((LN % R : Nat) : Int) := rfl
    rw [this, HFd.out]; rfl
  obtain ⟨d, ed⟩ : ∃ d, LN - L = d := ⟨_, rfl⟩
  have x4 : (LN : Int) - (L : Int) = (d : Int) := by omega
  have x5 : IntKind.i64.wrap (d : Int) = (d : Int) := by rw [IntKind.wrap_i64]; have := HRl.out; have := HL6.out; omega
  have x6 : ¬ (R : Int) < (d : Int) := by omega
  have x7 : ¬ (R : Int) = 0 := by omega
  have x8 : ¬ (s : Int) < (n0 : Int) := by omega
  have hAt : At (w.alloc (.cells (ba 2 f) 41)) w.heap.size 2 41 f := At.new w 2 41 f
  have HAt := hid hAt
  have HW0 : Hid (Below w.heap.size w (w.alloc (.cells (ba 2 f) 41))) := hid ((Below.refl _ _).alloc (Nat.le_refl _) _)
  have HCell : Hid (∀ wr, At wr w.heap.size 2 41 f → wr.cell? ⟨w.heap.size, 0, none⟩ = some (.int .u8 (n0 : Int)) ∧ wr.cell? ⟨w.heap.size, 1, none⟩ = some (.int .u8 (n1 : Int))) := hid fun wr h => ⟨by rw [← en0]; exact h.cell (by decide), by rw [← en1]; exact h.cell (by decide)⟩
  obtain ⟨c00, c01⟩ := HCell.out _ hAt
  have HNs : Hid (n0 ≤ s) := hid (by omega)
  clear hr hrl hq hq2 hrm hf hs h hcs hR0 hK hR ed hkR hAt eLN hLN en0 en1 eFL hzL
  clear hzs hzl eL0 hL
  subst eL
  subst hk
  go_enter Try.func5, Try.ntmps5
  go_wp2_with (first
    | (go_at_call 8; (with_reducible refine (HS1.out _ (HR.out.self HW0.out)).mono ?_); rintro e w1 ⟨u1, rfl, hc, hl⟩; have HX1 := hid hc; obtain ⟨p1, c1, rfl, _⟩ := rdc_len hc HAl.out; have HA1 := hid (HAt.out.self hl); obtain ⟨c10, c11⟩ := HCell.out _ HA1.out; have HW1 := hid (HW0.out.trans (hl.mono HW0.out.size)); clear hl hc)
    | (go_at_call 8; (with_reducible refine (HS2.out w1 (HR.out.self HW1.out)).mono ?_); rintro e w2 ⟨u2, rfl, hc, hl⟩; have HY2 := hid hc; have HX2 := hid (HX1.out.self hl); obtain ⟨p2, c2, rfl, hc2⟩ := rdc_len hc HBl.out; have z1 : (n0 : Int) ≤ (c2 : Int) := (by have := HNs.out; omega); have HA2 := hid (HA1.out.self hl); obtain ⟨c20, c21⟩ := HCell.out _ HA2.out; have HW2 := hid (HW1.out.trans (hl.mono HW1.out.size)); clear hl hc)
    | (go_at_call 7; (with_reducible refine (HFi.out w2 (HR.out.self HW2.out)).mono ?_); rintro e w3 ⟨u3, rfl, hc, hl⟩; have HZ3 := hid hc; have HX3 := hid (HX2.out.self hl).rd; have HY3 := hid (HY2.out.self hl); obtain ⟨p3, c3, rfl⟩ := rd_len hc HLN.out.1; have HA3 := hid (HA2.out.self hl); obtain ⟨c30, c31⟩ := HCell.out _ HA3.out; have HW3 := hid (HW2.out.trans (hl.mono HW2.out.size)); have HSm := hid (same_ns _ _ _ _ w3 (rdc_pre HY3.out HNs.out) HX3.out HAB.out); clear hl hc)
    | (go_at_call 12; (with_reducible refine (HSm.out).mono ?_); rintro e w3 ⟨rfl, rfl⟩)
    | (go_at_call 6; (with_reducible refine (sawake_any _).mono ?_); rintro e w9 ⟨rfl, hl9⟩; have HW9 := hid (HW3.out.trans (hl9.mono HW3.out.size)); clear hl9))
  go_ret
  exact ⟨rfl, HW9.out⟩

set_option maxRecDepth 100000 in
set_option maxHeartbeats 6400000 in
theorem sgrows_lb (v : Value) (zs0 : List Int) (r8 : Nat) (mark : Int) (f : Nat → Nat) (w : World) (h : RdC w v zs0) (hr8 : r8 < 256) (hm : 0 ≤ mark ∧ mark ≤ 255) (hf : ∀ j, j < 2 → f j < 256) (hL : 600 < zs0.length) (hk : 128 ≤ mark) :
    Calls Try.prog 5 #[v, .int .u8 (r8 : Int), .int .u8 mark, .agg (ba 2 f)] w fun e w' => e = .returned (.bool true) ∧ Below w.heap.size w w' := by
  obtain ⟨r, hr⟩ : ∃ r, r8 % 24 = r := ⟨_, rfl⟩
  have hrl : r < 24 := by omega
  obtain ⟨q, hq⟩ : ∃ q, q = 1 + r := ⟨_, rfl⟩
  have hq2 : 1 ≤ q ∧ q ≤ 24 := by omega
  obtain ⟨rm, hrm⟩ : ∃ x, 8 * r = x := ⟨_, rfl⟩
  have e1 : (r8 : Int).tmod 24 = (r : Int) := by rw [← hr]; rfl
  have e2 : (r8 : Int) % 24 = (r : Int) := by omega
  have e3 : (8 : Int) * (r : Int) = (rm : Int) := by omega
  have e4 : IntKind.i64.wrap (rm : Int) = (rm : Int) := by rw [IntKind.wrap_i64]; omega
  obtain ⟨n0, en0⟩ : ∃ n, f 0 = n := ⟨_, rfl⟩
  obtain ⟨n1, en1⟩ : ∃ n, f 1 = n := ⟨_, rfl⟩
  have hn0 : n0 < 256 := by rw [← en0]; exact hf 0 (by decide)
  have hn1 : n1 < 256 := by rw [← en1]; exact hf 1 (by decide)
  obtain ⟨s, hs⟩ : ∃ s, n0 + n1 = s := ⟨_, rfl⟩
  have e5 : (n0 : Int) + (n1 : Int) = (s : Int) := by omega
  have e6 : IntKind.i64.wrap (s : Int) = (s : Int) := by rw [IntKind.wrap_i64]; omega
  obtain ⟨a, cap0, hv, hcap, hmax, h47, hcs⟩ := h.open
  subst hv
  unfold maxLen at hmax
  obtain ⟨zs, hzs⟩ : ∃ zs, zs0.take 600 = zs := ⟨_, rfl⟩
  have hkv : CapV (.slice a 600 cap0) := fun a' n' c' e => by
    injection e with e1 e2 e3
    subst e2 e3
    exact ⟨by omega, by unfold maxLen; exact hmax⟩
  have hzl : zs.length = 600 := by rw [← hzs, List.length_take]; omega
  have hR0 : Rd .u8 w (.slice a 600 cap0) zs := by rw [← hzs]; exact rdc_pre h (by omega)
  obtain ⟨L0, eL0⟩ : ∃ L, zs0.length = L := ⟨_, rfl⟩
  rw [eL0] at hcap hL ⊢
  have g0 : (600 : Int) < (L0 : Int) := by omega
  have g00 : (600 : Int) ≤ (cap0 : Int) := by omega
  obtain ⟨L, eL⟩ : ∃ L : Nat, L = 600 := ⟨_, rfl⟩
  have hzL : zs.length = L := by rw [hzl, eL]
  have hL6 : L ≤ 600 := by omega
  have HL6 : Hid (L ≤ 600) := hid hL6
  have HR := hid hR0
  have HZb := hid (rd_bytes hR0)
  have HS1 := hid (fun w (h : Rd .u8 w (.slice a 600 cap0) zs) => ssum_c _ zs ((8 * q : Nat) : Int) mark (n0 : Int) w ⟨h, hkv⟩ (by have := HL6.out; omega) hm)
  have HS2 := hid (fun w (h : Rd .u8 w (.slice a 600 cap0) zs) => ssum_c _ zs ((8 * q : Nat) : Int) mark (s : Int) w ⟨h, hkv⟩ (by have := HL6.out; omega) hm)
  have HFi := hid (fun w (h : Rd .u8 w (.slice a 600 cap0) zs) => sfill_i _ zs ((8 * q : Nat) : Int) mark w h (by have := HL6.out; omega) hm)
  have hK : ∀ m : Nat, m ≤ 65536 → suK ((8 * q : Nat) : Int) (m : Int) = true := fun m hm => by unfold suK; rw [rad_q hq2]; simp; omega
  rw [suL, suE, hK n0 (by omega), if_pos rfl, if_pos rfl, Int.toNat_natCast, Int.toNat_natCast] at HS1
  rw [suL, suE, hK s (by omega), if_pos rfl, if_pos rfl, Int.toNat_natCast, Int.toNat_natCast] at HS2
  rw [fiL, fiE, rad_q hq2, if_pos rfl, if_pos rfl, Int.toNat_natCast] at HFi
  have HAl := hid (sumL_len zs (q := q) (n := n0) mark hq2.1)
  have HBl := hid (sumL_len zs (q := q) (n := s) mark hq2.1)
  have HAB := hid (sumL_more zs (q := q) (n := n0) (m := s) mark hq2.1 (by omega))
  have HFl := hid (flL_len zs (8 * q) mark)
  have HFm := hid (mis_lt (n := zs.length + 1) (w := 8 * q) (by omega))
  have HFd := hid (flL_mod zs (rate := 8 * q) mark (by omega))
  have HFb := hid (flL_bytes (rate := 8 * q) HZb.out hm)
  rw [hzL] at HFl HFm
  generalize cmis (L + 1) (8 * q) = k at *
  generalize sumL zs (8 * q) mark n0 = A at *
  generalize sumL zs (8 * q) mark s = B at *
  obtain ⟨R, hR⟩ : ∃ R, 8 * q = R := ⟨_, rfl⟩
  rw [hR] at HS1 HS2 HFi HFl HFm HFd HFb
  have e7 : (8 : Int) + (rm : Int) = (R : Int) := by omega
  have e8 : IntKind.i64.wrap (R : Int) = (R : Int) := by rw [IntKind.wrap_i64]; omega
  obtain ⟨FL, eFL⟩ : ∃ x, flL zs R mark = x := ⟨_, rfl⟩
  rw [eFL] at HFi HFl HFd HFb
  have HRl : Hid (8 ≤ R ∧ R ≤ 192) := hid (by omega)
  obtain ⟨LN, eLN⟩ : ∃ x, FL.length = x := ⟨_, rfl⟩
  have hLN : LN = L + 1 + k := by rw [← eLN]; exact HFl.out
  have HLN := hid (And.intro eLN hLN)
  have hkR := HFm.out
  rw [eLN] at HFd
  have x1 : ¬ (LN : Int) ≤ (L : Int) := by omega
  have x2 : (LN : Int).tmod (R : Int) = 0 := by
    have : (LN : Int).tmod (R : Int) = ((LN % R : Nat) : Int) := rfl
    rw [this, HFd.out]; rfl
  have x3 : (LN : Int) % (R : Int) = 0 := by
    have : (LN : Int) % (R : Int) = ((LN % R : Nat) : Int) := rfl
    rw [this, HFd.out]; rfl
  obtain ⟨d, ed⟩ : ∃ d, LN - L = d := ⟨_, rfl⟩
  have x4 : (LN : Int) - (L : Int) = (d : Int) := by omega
  have x5 : IntKind.i64.wrap (d : Int) = (d : Int) := by rw [IntKind.wrap_i64]; have := HRl.out; have := HL6.out; omega
  have x6 : ¬ (R : Int) < (d : Int) := by omega
  have x7 : ¬ (R : Int) = 0 := by omega
  have x8 : ¬ (s : Int) < (n0 : Int) := by omega
  have hAt : At (w.alloc (.cells (ba 2 f) 41)) w.heap.size 2 41 f := At.new w 2 41 f
  have HAt := hid hAt
  have HW0 : Hid (Below w.heap.size w (w.alloc (.cells (ba 2 f) 41))) := hid ((Below.refl _ _).alloc (Nat.le_refl _) _)
  have HCell : Hid (∀ wr, At wr w.heap.size 2 41 f → wr.cell? ⟨w.heap.size, 0, none⟩ = some (.int .u8 (n0 : Int)) ∧ wr.cell? ⟨w.heap.size, 1, none⟩ = some (.int .u8 (n1 : Int))) := hid fun wr h => ⟨by rw [← en0]; exact h.cell (by decide), by rw [← en1]; exact h.cell (by decide)⟩
  obtain ⟨c00, c01⟩ := HCell.out _ hAt
  have HNs : Hid (n0 ≤ s) := hid (by omega)
  clear hr hrl hq hq2 hrm hf hs h hcs hR0 hK hR ed hkR hAt eLN hLN en0 en1 eFL hzL
  clear hzs hzl eL0 hL
  subst eL
  have y1 : (mark == 0) = false := by simp; omega
  have y2 : (128 : Int) ≤ mark := hk
  go_enter Try.func5, Try.ntmps5
  go_wp2_with (first
    | (go_at_call 8; (with_reducible refine (HS1.out _ (HR.out.self HW0.out)).mono ?_); rintro e w1 ⟨u1, rfl, hc, hl⟩; have HX1 := hid hc; obtain ⟨p1, c1, rfl, _⟩ := rdc_len hc HAl.out; have HA1 := hid (HAt.out.self hl); obtain ⟨c10, c11⟩ := HCell.out _ HA1.out; have HW1 := hid (HW0.out.trans (hl.mono HW0.out.size)); clear hl hc)
    | (go_at_call 8; (with_reducible refine (HS2.out w1 (HR.out.self HW1.out)).mono ?_); rintro e w2 ⟨u2, rfl, hc, hl⟩; have HY2 := hid hc; have HX2 := hid (HX1.out.self hl); obtain ⟨p2, c2, rfl, hc2⟩ := rdc_len hc HBl.out; have z1 : (n0 : Int) ≤ (c2 : Int) := (by have := HNs.out; omega); have HA2 := hid (HA1.out.self hl); obtain ⟨c20, c21⟩ := HCell.out _ HA2.out; have HW2 := hid (HW1.out.trans (hl.mono HW1.out.size)); clear hl hc)
    | (go_at_call 7; (with_reducible refine (HFi.out w2 (HR.out.self HW2.out)).mono ?_); rintro e w3 ⟨u3, rfl, hc, hl⟩; have HZ3 := hid hc; have HX3 := hid (HX2.out.self hl).rd; have HY3 := hid (HY2.out.self hl); obtain ⟨p3, c3, rfl⟩ := rd_len hc HLN.out.1; have HA3 := hid (HA2.out.self hl); obtain ⟨c30, c31⟩ := HCell.out _ HA3.out; have HW3 := hid (HW2.out.trans (hl.mono HW2.out.size)); have HSm := hid (same_ns _ _ _ _ w3 (rdc_pre HY3.out HNs.out) HX3.out HAB.out); clear hl hc)
    | (go_at_call 12; (with_reducible refine (HSm.out).mono ?_); rintro e w3 ⟨rfl, rfl⟩)
    | (go_at_call 6; (with_reducible refine (sawake_any _).mono ?_); rintro e w9 ⟨rfl, hl9⟩; have HW9 := hid (HW3.out.trans (hl9.mono HW3.out.size)); clear hl9))
  go_ret
  exact ⟨rfl, HW9.out⟩

set_option maxRecDepth 100000 in
set_option maxHeartbeats 6400000 in
theorem sgrows_so (v : Value) (zs0 : List Int) (r8 : Nat) (mark : Int) (f : Nat → Nat) (w : World) (h : RdC w v zs0) (hr8 : r8 < 256) (hm : 0 ≤ mark ∧ mark ≤ 255) (hf : ∀ j, j < 2 → f j < 256) (hL : zs0.length ≤ 600) (hk : 0 < mark ∧ mark < 128) :
    Calls Try.prog 5 #[v, .int .u8 (r8 : Int), .int .u8 mark, .agg (ba 2 f)] w fun e w' => e = .returned (.bool true) ∧ Below w.heap.size w w' := by
  obtain ⟨r, hr⟩ : ∃ r, r8 % 24 = r := ⟨_, rfl⟩
  have hrl : r < 24 := by omega
  obtain ⟨q, hq⟩ : ∃ q, q = 1 + r := ⟨_, rfl⟩
  have hq2 : 1 ≤ q ∧ q ≤ 24 := by omega
  obtain ⟨rm, hrm⟩ : ∃ x, 8 * r = x := ⟨_, rfl⟩
  have e1 : (r8 : Int).tmod 24 = (r : Int) := by rw [← hr]; rfl
  have e2 : (r8 : Int) % 24 = (r : Int) := by omega
  have e3 : (8 : Int) * (r : Int) = (rm : Int) := by omega
  have e4 : IntKind.i64.wrap (rm : Int) = (rm : Int) := by rw [IntKind.wrap_i64]; omega
  obtain ⟨n0, en0⟩ : ∃ n, f 0 = n := ⟨_, rfl⟩
  obtain ⟨n1, en1⟩ : ∃ n, f 1 = n := ⟨_, rfl⟩
  have hn0 : n0 < 256 := by rw [← en0]; exact hf 0 (by decide)
  have hn1 : n1 < 256 := by rw [← en1]; exact hf 1 (by decide)
  obtain ⟨s, hs⟩ : ∃ s, n0 + n1 = s := ⟨_, rfl⟩
  have e5 : (n0 : Int) + (n1 : Int) = (s : Int) := by omega
  have e6 : IntKind.i64.wrap (s : Int) = (s : Int) := by rw [IntKind.wrap_i64]; omega
  obtain ⟨a, cap0, hv, hcap, hmax, h47, hcs⟩ := h.open
  subst hv
  unfold maxLen at hmax
  obtain ⟨zs, hzs⟩ : ∃ zs, zs0 = zs := ⟨_, rfl⟩
  subst hzs
  have hR0 : Rd .u8 w (.slice a zs0.length cap0) zs0 := h.rd
  have hkv : CapV (.slice a zs0.length cap0) := h.cap
  obtain ⟨L, hzL⟩ : ∃ L, zs0.length = L := ⟨_, rfl⟩
  rw [hzL] at hR0 hcap hL hcs hkv ⊢
  have g0 : ¬ (600 : Int) < (L : Int) := by omega
  have HL6 : Hid (L ≤ 600) := hid hL
  have HR := hid hR0
  have HZb := hid (rd_bytes hR0)
  have HS1 := hid (fun w (h : Rd .u8 w (.slice a L cap0) zs0) => ssum_c _ zs0 ((8 * q : Nat) : Int) mark (n0 : Int) w ⟨h, hkv⟩ (by have := HL6.out; omega) hm)
  have HS2 := hid (fun w (h : Rd .u8 w (.slice a L cap0) zs0) => ssum_c _ zs0 ((8 * q : Nat) : Int) mark (s : Int) w ⟨h, hkv⟩ (by have := HL6.out; omega) hm)
  have HFi := hid (fun w (h : Rd .u8 w (.slice a L cap0) zs0) => sfill_i _ zs0 ((8 * q : Nat) : Int) mark w h (by have := HL6.out; omega) hm)
  have hK : ∀ m : Nat, m ≤ 65536 → suK ((8 * q : Nat) : Int) (m : Int) = true := fun m hm => by unfold suK; rw [rad_q hq2]; simp; omega
  rw [suL, suE, hK n0 (by omega), if_pos rfl, if_pos rfl, Int.toNat_natCast, Int.toNat_natCast] at HS1
  rw [suL, suE, hK s (by omega), if_pos rfl, if_pos rfl, Int.toNat_natCast, Int.toNat_natCast] at HS2
  rw [fiL, fiE, rad_q hq2, if_pos rfl, if_pos rfl, Int.toNat_natCast] at HFi
  have HAl := hid (sumL_len zs0 (q := q) (n := n0) mark hq2.1)
  have HBl := hid (sumL_len zs0 (q := q) (n := s) mark hq2.1)
  have HAB := hid (sumL_more zs0 (q := q) (n := n0) (m := s) mark hq2.1 (by omega))
  have HFl := hid (flL_len zs0 (8 * q) mark)
  have HFm := hid (mis_lt (n := zs0.length + 1) (w := 8 * q) (by omega))
  have HFd := hid (flL_mod zs0 (rate := 8 * q) mark (by omega))
  have HFb := hid (flL_bytes (rate := 8 * q) HZb.out hm)
  have HN0 := hid (fl0_nth (zs := zs0) (rate := 8 * q) (mark := mark))
  have HB0 := hid (fun t ht => fl_back (zs := zs0) (rate := 8 * q) (t := t) HZb.out hm ht)
  have H0l := hid (fl0_len zs0 (8 * q) mark)
  rw [hzL] at HN0 H0l
  rw [hzL] at HFl HFm
  generalize cmis (L + 1) (8 * q) = k at *
  generalize sumL zs0 (8 * q) mark n0 = A at *
  generalize sumL zs0 (8 * q) mark s = B at *
  obtain ⟨R, hR⟩ : ∃ R, 8 * q = R := ⟨_, rfl⟩
  rw [hR] at HS1 HS2 HFi HFl HFm HFd HFb HN0 HB0 H0l
  have e7 : (8 : Int) + (rm : Int) = (R : Int) := by omega
  have e8 : IntKind.i64.wrap (R : Int) = (R : Int) := by rw [IntKind.wrap_i64]; omega
  obtain ⟨FL, eFL⟩ : ∃ x, flL zs0 R mark = x := ⟨_, rfl⟩
  rw [eFL] at HFi HFl HFd HFb HB0
  obtain ⟨F0, eF0⟩ : ∃ x, fl0 zs0 R mark = x := ⟨_, rfl⟩
  rw [eF0] at HN0 HB0 H0l
  have HRl : Hid (8 ≤ R ∧ R ≤ 192) := hid (by omega)
  obtain ⟨LN, eLN⟩ : ∃ x, FL.length = x := ⟨_, rfl⟩
  have hLN : LN = L + 1 + k := by rw [← eLN]; exact HFl.out
  have HLN := hid (And.intro eLN hLN)
  have hkR := HFm.out
  have HkR := hid hkR
  rw [eLN] at HFd
  have x1 : ¬ (LN : Int) ≤ (L : Int) := by omega
  have x2 : (LN : Int).tmod (R : Int) = 0 := by
    have : (LN : Int).tmod (R : Int) = ((LN % R : Nat) : Int) := rfl
    rw [this, HFd.out]; rfl
  have x3 : (LN : Int) % (R : Int) = 0 := by
    have : (LN : Int) % (R : Int) = ((LN % R : Nat) : Int) := rfl
    rw [this, HFd.out]; rfl
  obtain ⟨d, ed⟩ : ∃ d, LN - L = d := ⟨_, rfl⟩
  have x4 : (LN : Int) - (L : Int) = (d : Int) := by omega
  have x5 : IntKind.i64.wrap (d : Int) = (d : Int) := by rw [IntKind.wrap_i64]; have := HRl.out; have := HL6.out; omega
  have x6 : ¬ (R : Int) < (d : Int) := by omega
  have x7 : ¬ (R : Int) = 0 := by omega
  have x8 : ¬ (s : Int) < (n0 : Int) := by omega
  have hAt : At (w.alloc (.cells (ba 2 f) 41)) w.heap.size 2 41 f := At.new w 2 41 f
  have HAt := hid hAt
  have HW0 : Hid (Below w.heap.size w (w.alloc (.cells (ba 2 f) 41))) := hid ((Below.refl _ _).alloc (Nat.le_refl _) _)
  have HCell : Hid (∀ wr, At wr w.heap.size 2 41 f → wr.cell? ⟨w.heap.size, 0, none⟩ = some (.int .u8 (n0 : Int)) ∧ wr.cell? ⟨w.heap.size, 1, none⟩ = some (.int .u8 (n1 : Int))) := hid fun wr h => ⟨by rw [← en0]; exact h.cell (by decide), by rw [← en1]; exact h.cell (by decide)⟩
  obtain ⟨c00, c01⟩ := HCell.out _ hAt
  have HNs : Hid (n0 ≤ s) := hid (by omega)
  clear hr hrl hq hq2 hrm hf hs h hcs hR0 hK hR ed hkR hAt eLN hLN en0 en1 eFL hzL
  clear hL
  have y1 : (mark == 0) = false := by simp; omega
  have y2 : ¬ (128 : Int) ≤ mark := by omega
  have HMk := hid hk
  clear hk
  obtain ⟨t, et⟩ : ∃ t, LN = t + 1 := ⟨L + k, by have := HLN.out; omega⟩
  have HT : Hid (0 < LN ∧ t < LN ∧ t = L + k) := hid (by have := HLN.out; omega)
  obtain ⟨zt, ezt⟩ : ∃ x, nth FL t = x := ⟨_, rfl⟩
  obtain ⟨z0, ez0⟩ : ∃ x, nth F0 t = x := ⟨_, rfl⟩
  have HBk := hid (HB0.out t (by have := H0l.out; have := HT.out; omega))
  rw [ez0, ezt] at HBk
  have HZt : Hid (nth FL t = zt ∧ FL.set t z0 = F0) := hid ⟨ezt, HBk.out.2⟩
  have xz : bits .xor .u8 zt 128 = z0 := HBk.out.1
  have u1 : (LN : Int) - 1 = (t : Int) := by omega
  have u2 : (t : Int) < (LN : Int) := by omega
  have u3 : (0 : Int) ≤ (t : Int) := by omega
  have u4 : IntKind.i64.wrap (t : Int) = (t : Int) := by rw [IntKind.wrap_i64]; have := HLN.out; have := HRl.out; have := HL6.out; omega
  have HLim : Hid ((([] : List Int).length + FL.length) * (IntKind.u8.bits / 8) ≤ 140737488355328) := hid (by rw [HLN.out.1]; have := HLN.out; have := HRl.out; have := HL6.out; have := HkR.out; show (0 + _) * 1 ≤ _; omega)
  clear ezt ez0 et
  go_enter Try.func5, Try.ntmps5
  go_wp2_with (first
    | (go_at_call 8; (with_reducible refine (HS1.out _ (HR.out.self HW0.out)).mono ?_); rintro e w1 ⟨u1, rfl, hc, hl⟩; have HX1 := hid hc; obtain ⟨p1, c1, rfl, _⟩ := rdc_len hc HAl.out; have HA1 := hid (HAt.out.self hl); obtain ⟨c10, c11⟩ := HCell.out _ HA1.out; have HW1 := hid (HW0.out.trans (hl.mono HW0.out.size)); clear hl hc)
    | (go_at_call 8; (with_reducible refine (HS2.out w1 (HR.out.self HW1.out)).mono ?_); rintro e w2 ⟨u2, rfl, hc, hl⟩; have HY2 := hid hc; have HX2 := hid (HX1.out.self hl); obtain ⟨p2, c2, rfl, hc2⟩ := rdc_len hc HBl.out; have z1 : (n0 : Int) ≤ (c2 : Int) := (by have := HNs.out; omega); have HA2 := hid (HA1.out.self hl); obtain ⟨c20, c21⟩ := HCell.out _ HA2.out; have HW2 := hid (HW1.out.trans (hl.mono HW1.out.size)); clear hl hc)
    | (go_at_call 7; (with_reducible refine (HFi.out w2 (HR.out.self HW2.out)).mono ?_); rintro e w3 ⟨u3, rfl, hc, hl⟩; have HZ3 := hid hc; have HX3 := hid (HX2.out.self hl).rd; have HY3 := hid (HY2.out.self hl); obtain ⟨p3, c3, rfl⟩ := rd_len hc HLN.out.1; have HA3 := hid (HA2.out.self hl); obtain ⟨c30, c31⟩ := HCell.out _ HA3.out; have HW3 := hid (HW2.out.trans (hl.mono HW2.out.size)); have HSm := hid (same_ns _ _ _ _ w3 (rdc_pre HY3.out HNs.out) HX3.out HAB.out); have HE3 : Hid (Own .u8 w.heap.size 5 (w3.alloc (.cells #[] 5)) (.slice (some ⟨w3.heap.size, 0, none⟩) 0 0) []) := hid (own_base (own_empty w3 (Nat.le_refl _)) HW3.out.size); have HZ3b : Hid (Rd .u8 (w3.alloc (.cells #[] 5)) (.slice p3 LN c3) FL) := hid (HZ3.out.self ((Below.refl _ _).alloc (Nat.le_refl _) _)); have HW3b : Hid (Below w.heap.size w (w3.alloc (.cells #[] 5))) := hid (HW3.out.alloc HW3.out.size _); clear hl hc)
    | (go_at_call 12; (with_reducible refine (HSm.out).mono ?_); rintro e w3 ⟨rfl, rfl⟩)
    | (at_builtin; refine wpList_append_rd rfl (.tmp 123) (.tmp 124) 22 rfl .u8 w.heap.size 5 Try.underlying22 cinfob (by decide) _ _ rfl HE3.out _ _ rfl HZ3b.out HLim.out HW3b.out.size w.heap.size w HW3b.out (Nat.le_refl _) ?_; intro v8 w8 hown hlow _; obtain ⟨g, cg, rfl, hgb, hgc, hc, hff, hst⟩ := own_part_len hown HLN.out.1 HT.out.1; have c8 := hc t HT.out.2.1; rw [List.nil_append, HZt.out.1] at c8; have f8 := hff t; have HO9 := hid (hst t z0 HT.out.2.1); rw [List.nil_append, HZt.out.2] at HO9; have HW9 := hid (hlow.setCell (p := ⟨g, t, none⟩) hgb (.int .u8 z0)); have HGC : Hid (LN ≤ cg) := hid hgc; clear hown hlow hgb hgc hc hff hst))
  generalize w8.setCell ⟨g, t, none⟩ (.int .u8 z0) = w9 at *
  have HC9 : Hid (∀ i, i < LN → w9.cell? ⟨g, i, none⟩ = some (.int .u8 (nth F0 i))) := hid (by
    obtain ⟨g', cg', e, _, _, hc, _, _⟩ := own_part_len HO9.out (n := LN) (by have := H0l.out; have := HLN.out; omega) HT.out.1
    injection e with e1 e2 e3
    injection e1 with e1
    injection e1 with e1 e4 e5
    subst e1
    exact hc)
  have HSame := hid (same_ns (.slice (some ⟨g, 0, none⟩) L cg) (.slice a L cap0) zs0 zs0 w9 (by
    have := rd_pre HO9.out (n := L) (by have := HLN.out; omega) (by have := HLN.out; have := HRl.out; have := HL6.out; have := HkR.out; omega) (by
      have e0 := HBk.out.2
      intro z hz
      rw [← e0] at hz
      rcases List.mem_or_eq_of_mem_set hz with h | h
      · exact HFb.out z h
      · subst h
        rw [← xz]
        have hb := HFb.out zt (by rw [← HZt.out.1, nth_of (by rw [HLN.out.1]; exact HT.out.2.1)]; exact List.getElem_mem _)
        exact ⟨(top_nat hb).1, (top_nat hb).2.1⟩)
    rwa [HN0.out.2.2] at this) (HR.out.self HW9.out) rfl)
  clear c8 f8 xz c00 c01 c10 c11 c20 c21 c30 c31
  go_loop [17] (fun i => ∃ j : Nat, j ≤ k ∧ i = .int .i64 ((L + j : Nat) : Int)) (fun i => (intOf i).toNat)
  case atStart => exact ⟨k, Nat.le_refl _, by rw [HT.out.2.2]⟩
  case round =>
    obtain ⟨j, hj, rfl⟩ := hrel
    obtain ⟨p, hp⟩ : ∃ p, L + j = p := ⟨_, rfl⟩
    rw [hp]
    have hcp := HC9.out p (by have := HLN.out; omega)
    have p0 : (0 : Int) ≤ (p : Int) := by omega
    have p1 : (p : Int) < (LN : Int) := by have := HLN.out; omega
    have p2 : (p : Int) ≤ (cg : Int) := by have := HGC.out; omega
    by_cases hj0 : 0 < j
    · have hz := HN0.out.1 j hj0 hj
      rw [hp] at hz
      rw [hz] at hcp
      have p3 : (0 : Int) < (p : Int) := by omega
      obtain ⟨p', hp'⟩ : ∃ p', p = p' + 1 := ⟨p - 1, by omega⟩
      have p4 : (p : Int) - 1 = (p' : Int) := by omega
      have p5 : IntKind.i64.wrap (p' : Int) = (p' : Int) := by rw [IntKind.wrap_i64]; have := HLN.out; have := HRl.out; have := HL6.out; have := HkR.out; omega
      have HP := hid (And.intro hp hp')
      have HJ := hid (And.intro hj hj0)
      clear hz hp hp' hj hj0
      go_wp2
      go_round
      case rel => exact ⟨j - 1, by have := HJ.out; omega, by have := HP.out; have := HJ.out; rw [show p' = L + (j - 1) by omega]⟩
      case measure => have := HP.out; simp [intOf]; omega
    · have hpL : p = L := by omega
      have hz := HN0.out.2.1
      rw [← hpL] at hz
      rw [hz] at hcp
      clear hz hp hj hj0
      subst hpL
      by_cases hp0 : 0 < p
      · have p3 : (0 : Int) < (p : Int) := by omega
        clear hp0
        go_wp2_with (first
          | (go_at_call 12; (with_reducible refine (HSame.out).mono ?_); rintro e w9 ⟨rfl, rfl⟩)
          | (go_at_call 6; (with_reducible refine (sawake_any _).mono ?_); rintro e w10 ⟨rfl, hl9⟩; have HW10 := hid (HW9.out.trans (hl9.mono HW9.out.size)); clear hl9))
        go_ret
        exact ⟨rfl, HW10.out⟩
      · have p3 : ¬ (0 : Int) < (p : Int) := by omega
        clear hp0
        go_wp2_with (first
          | (go_at_call 12; (with_reducible refine (HSame.out).mono ?_); rintro e w9 ⟨rfl, rfl⟩)
          | (go_at_call 6; (with_reducible refine (sawake_any _).mono ?_); rintro e w10 ⟨rfl, hl9⟩; have HW10 := hid (HW9.out.trans (hl9.mono HW9.out.size)); clear hl9))
        go_ret
        exact ⟨rfl, HW10.out⟩

set_option maxRecDepth 100000 in
set_option maxHeartbeats 6400000 in
theorem sgrows_lo (v : Value) (zs0 : List Int) (r8 : Nat) (mark : Int) (f : Nat → Nat) (w : World) (h : RdC w v zs0) (hr8 : r8 < 256) (hm : 0 ≤ mark ∧ mark ≤ 255) (hf : ∀ j, j < 2 → f j < 256) (hL : 600 < zs0.length) (hk : 0 < mark ∧ mark < 128) :
    Calls Try.prog 5 #[v, .int .u8 (r8 : Int), .int .u8 mark, .agg (ba 2 f)] w fun e w' => e = .returned (.bool true) ∧ Below w.heap.size w w' := by
  obtain ⟨r, hr⟩ : ∃ r, r8 % 24 = r := ⟨_, rfl⟩
  have hrl : r < 24 := by omega
  obtain ⟨q, hq⟩ : ∃ q, q = 1 + r := ⟨_, rfl⟩
  have hq2 : 1 ≤ q ∧ q ≤ 24 := by omega
  obtain ⟨rm, hrm⟩ : ∃ x, 8 * r = x := ⟨_, rfl⟩
  have e1 : (r8 : Int).tmod 24 = (r : Int) := by rw [← hr]; rfl
  have e2 : (r8 : Int) % 24 = (r : Int) := by omega
  have e3 : (8 : Int) * (r : Int) = (rm : Int) := by omega
  have e4 : IntKind.i64.wrap (rm : Int) = (rm : Int) := by rw [IntKind.wrap_i64]; omega
  obtain ⟨n0, en0⟩ : ∃ n, f 0 = n := ⟨_, rfl⟩
  obtain ⟨n1, en1⟩ : ∃ n, f 1 = n := ⟨_, rfl⟩
  have hn0 : n0 < 256 := by rw [← en0]; exact hf 0 (by decide)
  have hn1 : n1 < 256 := by rw [← en1]; exact hf 1 (by decide)
  obtain ⟨s, hs⟩ : ∃ s, n0 + n1 = s := ⟨_, rfl⟩
  have e5 : (n0 : Int) + (n1 : Int) = (s : Int) := by omega
  have e6 : IntKind.i64.wrap (s : Int) = (s : Int) := by rw [IntKind.wrap_i64]; omega
  obtain ⟨a, cap0, hv, hcap, hmax, h47, hcs⟩ := h.open
  subst hv
  unfold maxLen at hmax
  obtain ⟨zs, hzs⟩ : ∃ zs, zs0.take 600 = zs := ⟨_, rfl⟩
  have hkv : CapV (.slice a 600 cap0) := fun a' n' c' e => by
    injection e with e1 e2 e3
    subst e2 e3
    exact ⟨by omega, by unfold maxLen; exact hmax⟩
  have hzl : zs.length = 600 := by rw [← hzs, List.length_take]; omega
  have hR0 : Rd .u8 w (.slice a 600 cap0) zs := by rw [← hzs]; exact rdc_pre h (by omega)
  obtain ⟨L0, eL0⟩ : ∃ L, zs0.length = L := ⟨_, rfl⟩
  rw [eL0] at hcap hL ⊢
  have g0 : (600 : Int) < (L0 : Int) := by omega
  have g00 : (600 : Int) ≤ (cap0 : Int) := by omega
  obtain ⟨L, eL⟩ : ∃ L : Nat, L = 600 := ⟨_, rfl⟩
  have hzL : zs.length = L := by rw [hzl, eL]
  have hL6 : L ≤ 600 := by omega
  have HL6 : Hid (L ≤ 600) := hid hL6
  have HR := hid hR0
  have HZb := hid (rd_bytes hR0)
  have HS1 := hid (fun w (h : Rd .u8 w (.slice a 600 cap0) zs) => ssum_c _ zs ((8 * q : Nat) : Int) mark (n0 : Int) w ⟨h, hkv⟩ (by have := HL6.out; omega) hm)
  have HS2 := hid (fun w (h : Rd .u8 w (.slice a 600 cap0) zs) => ssum_c _ zs ((8 * q : Nat) : Int) mark (s : Int) w ⟨h, hkv⟩ (by have := HL6.out; omega) hm)
  have HFi := hid (fun w (h : Rd .u8 w (.slice a 600 cap0) zs) => sfill_i _ zs ((8 * q : Nat) : Int) mark w h (by have := HL6.out; omega) hm)
  have hK : ∀ m : Nat, m ≤ 65536 → suK ((8 * q : Nat) : Int) (m : Int) = true := fun m hm => by unfold suK; rw [rad_q hq2]; simp; omega
  rw [suL, suE, hK n0 (by omega), if_pos rfl, if_pos rfl, Int.toNat_natCast, Int.toNat_natCast] at HS1
  rw [suL, suE, hK s (by omega), if_pos rfl, if_pos rfl, Int.toNat_natCast, Int.toNat_natCast] at HS2
  rw [fiL, fiE, rad_q hq2, if_pos rfl, if_pos rfl, Int.toNat_natCast] at HFi
  have HAl := hid (sumL_len zs (q := q) (n := n0) mark hq2.1)
  have HBl := hid (sumL_len zs (q := q) (n := s) mark hq2.1)
  have HAB := hid (sumL_more zs (q := q) (n := n0) (m := s) mark hq2.1 (by omega))
  have HFl := hid (flL_len zs (8 * q) mark)
  have HFm := hid (mis_lt (n := zs.length + 1) (w := 8 * q) (by omega))
  have HFd := hid (flL_mod zs (rate := 8 * q) mark (by omega))
  have HFb := hid (flL_bytes (rate := 8 * q) HZb.out hm)
  have HN0 := hid (fl0_nth (zs := zs) (rate := 8 * q) (mark := mark))
  have HB0 := hid (fun t ht => fl_back (zs := zs) (rate := 8 * q) (t := t) HZb.out hm ht)
  have H0l := hid (fl0_len zs (8 * q) mark)
  rw [hzL] at HN0 H0l
  rw [hzL] at HFl HFm
  generalize cmis (L + 1) (8 * q) = k at *
  generalize sumL zs (8 * q) mark n0 = A at *
  generalize sumL zs (8 * q) mark s = B at *
  obtain ⟨R, hR⟩ : ∃ R, 8 * q = R := ⟨_, rfl⟩
  rw [hR] at HS1 HS2 HFi HFl HFm HFd HFb HN0 HB0 H0l
  have e7 : (8 : Int) + (rm : Int) = (R : Int) := by omega
  have e8 : IntKind.i64.wrap (R : Int) = (R : Int) := by rw [IntKind.wrap_i64]; omega
  obtain ⟨FL, eFL⟩ : ∃ x, flL zs R mark = x := ⟨_, rfl⟩
  rw [eFL] at HFi HFl HFd HFb HB0
  obtain ⟨F0, eF0⟩ : ∃ x, fl0 zs R mark = x := ⟨_, rfl⟩
  rw [eF0] at HN0 HB0 H0l
  have HRl : Hid (8 ≤ R ∧ R ≤ 192) := hid (by omega)
  obtain ⟨LN, eLN⟩ : ∃ x, FL.length = x := ⟨_, rfl⟩
  have hLN : LN = L + 1 + k := by rw [← eLN]; exact HFl.out
  have HLN := hid (And.intro eLN hLN)
  have hkR := HFm.out
  have HkR := hid hkR
  rw [eLN] at HFd
  have x1 : ¬ (LN : Int) ≤ (L : Int) := by omega
  have x2 : (LN : Int).tmod (R : Int) = 0 := by
    have : (LN : Int).tmod (R : Int) = ((LN % R : Nat) : Int) := rfl
    rw [this, HFd.out]; rfl
  have x3 : (LN : Int) % (R : Int) = 0 := by
    have : (LN : Int) % (R : Int) = ((LN % R : Nat) : Int) := rfl
    rw [this, HFd.out]; rfl
  obtain ⟨d, ed⟩ : ∃ d, LN - L = d := ⟨_, rfl⟩
  have x4 : (LN : Int) - (L : Int) = (d : Int) := by omega
  have x5 : IntKind.i64.wrap (d : Int) = (d : Int) := by rw [IntKind.wrap_i64]; have := HRl.out; have := HL6.out; omega
  have x6 : ¬ (R : Int) < (d : Int) := by omega
  have x7 : ¬ (R : Int) = 0 := by omega
  have x8 : ¬ (s : Int) < (n0 : Int) := by omega
  have hAt : At (w.alloc (.cells (ba 2 f) 41)) w.heap.size 2 41 f := At.new w 2 41 f
  have HAt := hid hAt
  have HW0 : Hid (Below w.heap.size w (w.alloc (.cells (ba 2 f) 41))) := hid ((Below.refl _ _).alloc (Nat.le_refl _) _)
  have HCell : Hid (∀ wr, At wr w.heap.size 2 41 f → wr.cell? ⟨w.heap.size, 0, none⟩ = some (.int .u8 (n0 : Int)) ∧ wr.cell? ⟨w.heap.size, 1, none⟩ = some (.int .u8 (n1 : Int))) := hid fun wr h => ⟨by rw [← en0]; exact h.cell (by decide), by rw [← en1]; exact h.cell (by decide)⟩
  obtain ⟨c00, c01⟩ := HCell.out _ hAt
  have HNs : Hid (n0 ≤ s) := hid (by omega)
  clear hr hrl hq hq2 hrm hf hs h hcs hR0 hK hR ed hkR hAt eLN hLN en0 en1 eFL hzL
  clear hzs hzl eL0 hL
  subst eL
  have y1 : (mark == 0) = false := by simp; omega
  have y2 : ¬ (128 : Int) ≤ mark := by omega
  have HMk := hid hk
  clear hk
  obtain ⟨t, et⟩ : ∃ t, LN = t + 1 := ⟨600 + k, by have := HLN.out; omega⟩
  have HT : Hid (0 < LN ∧ t < LN ∧ t = 600 + k) := hid (by have := HLN.out; omega)
  obtain ⟨zt, ezt⟩ : ∃ x, nth FL t = x := ⟨_, rfl⟩
  obtain ⟨z0, ez0⟩ : ∃ x, nth F0 t = x := ⟨_, rfl⟩
  have HBk := hid (HB0.out t (by have := H0l.out; have := HT.out; omega))
  rw [ez0, ezt] at HBk
  have HZt : Hid (nth FL t = zt ∧ FL.set t z0 = F0) := hid ⟨ezt, HBk.out.2⟩
  have xz : bits .xor .u8 zt 128 = z0 := HBk.out.1
  have u1 : (LN : Int) - 1 = (t : Int) := by omega
  have u2 : (t : Int) < (LN : Int) := by omega
  have u3 : (0 : Int) ≤ (t : Int) := by omega
  have u4 : IntKind.i64.wrap (t : Int) = (t : Int) := by rw [IntKind.wrap_i64]; have := HLN.out; have := HRl.out; have := HL6.out; omega
  have HLim : Hid ((([] : List Int).length + FL.length) * (IntKind.u8.bits / 8) ≤ 140737488355328) := hid (by rw [HLN.out.1]; have := HLN.out; have := HRl.out; have := HL6.out; have := HkR.out; show (0 + _) * 1 ≤ _; omega)
  clear ezt ez0 et
  go_enter Try.func5, Try.ntmps5
  go_wp2_with (first
    | (go_at_call 8; (with_reducible refine (HS1.out _ (HR.out.self HW0.out)).mono ?_); rintro e w1 ⟨u1, rfl, hc, hl⟩; have HX1 := hid hc; obtain ⟨p1, c1, rfl, _⟩ := rdc_len hc HAl.out; have HA1 := hid (HAt.out.self hl); obtain ⟨c10, c11⟩ := HCell.out _ HA1.out; have HW1 := hid (HW0.out.trans (hl.mono HW0.out.size)); clear hl hc)
    | (go_at_call 8; (with_reducible refine (HS2.out w1 (HR.out.self HW1.out)).mono ?_); rintro e w2 ⟨u2, rfl, hc, hl⟩; have HY2 := hid hc; have HX2 := hid (HX1.out.self hl); obtain ⟨p2, c2, rfl, hc2⟩ := rdc_len hc HBl.out; have z1 : (n0 : Int) ≤ (c2 : Int) := (by have := HNs.out; omega); have HA2 := hid (HA1.out.self hl); obtain ⟨c20, c21⟩ := HCell.out _ HA2.out; have HW2 := hid (HW1.out.trans (hl.mono HW1.out.size)); clear hl hc)
    | (go_at_call 7; (with_reducible refine (HFi.out w2 (HR.out.self HW2.out)).mono ?_); rintro e w3 ⟨u3, rfl, hc, hl⟩; have HZ3 := hid hc; have HX3 := hid (HX2.out.self hl).rd; have HY3 := hid (HY2.out.self hl); obtain ⟨p3, c3, rfl⟩ := rd_len hc HLN.out.1; have HA3 := hid (HA2.out.self hl); obtain ⟨c30, c31⟩ := HCell.out _ HA3.out; have HW3 := hid (HW2.out.trans (hl.mono HW2.out.size)); have HSm := hid (same_ns _ _ _ _ w3 (rdc_pre HY3.out HNs.out) HX3.out HAB.out); have HE3 : Hid (Own .u8 w.heap.size 5 (w3.alloc (.cells #[] 5)) (.slice (some ⟨w3.heap.size, 0, none⟩) 0 0) []) := hid (own_base (own_empty w3 (Nat.le_refl _)) HW3.out.size); have HZ3b : Hid (Rd .u8 (w3.alloc (.cells #[] 5)) (.slice p3 LN c3) FL) := hid (HZ3.out.self ((Below.refl _ _).alloc (Nat.le_refl _) _)); have HW3b : Hid (Below w.heap.size w (w3.alloc (.cells #[] 5))) := hid (HW3.out.alloc HW3.out.size _); clear hl hc)
    | (go_at_call 12; (with_reducible refine (HSm.out).mono ?_); rintro e w3 ⟨rfl, rfl⟩)
    | (at_builtin; refine wpList_append_rd rfl (.tmp 123) (.tmp 124) 22 rfl .u8 w.heap.size 5 Try.underlying22 cinfob (by decide) _ _ rfl HE3.out _ _ rfl HZ3b.out HLim.out HW3b.out.size w.heap.size w HW3b.out (Nat.le_refl _) ?_; intro v8 w8 hown hlow _; obtain ⟨g, cg, rfl, hgb, hgc, hc, hff, hst⟩ := own_part_len hown HLN.out.1 HT.out.1; have c8 := hc t HT.out.2.1; rw [List.nil_append, HZt.out.1] at c8; have f8 := hff t; have HO9 := hid (hst t z0 HT.out.2.1); rw [List.nil_append, HZt.out.2] at HO9; have HW9 := hid (hlow.setCell (p := ⟨g, t, none⟩) hgb (.int .u8 z0)); have HGC : Hid (LN ≤ cg) := hid hgc; clear hown hlow hgb hgc hc hff hst))
  generalize w8.setCell ⟨g, t, none⟩ (.int .u8 z0) = w9 at *
  have HC9 : Hid (∀ i, i < LN → w9.cell? ⟨g, i, none⟩ = some (.int .u8 (nth F0 i))) := hid (by
    obtain ⟨g', cg', e, _, _, hc, _, _⟩ := own_part_len HO9.out (n := LN) (by have := H0l.out; have := HLN.out; omega) HT.out.1
    injection e with e1 e2 e3
    injection e1 with e1
    injection e1 with e1 e4 e5
    subst e1
    exact hc)
  have HSame := hid (same_ns (.slice (some ⟨g, 0, none⟩) 600 cg) (.slice a 600 cap0) zs zs w9 (by
    have := rd_pre HO9.out (n := 600) (by have := HLN.out; omega) (by have := HLN.out; have := HRl.out; have := HL6.out; have := HkR.out; omega) (by
      have e0 := HBk.out.2
      intro z hz
      rw [← e0] at hz
      rcases List.mem_or_eq_of_mem_set hz with h | h
      · exact HFb.out z h
      · subst h
        rw [← xz]
        have hb := HFb.out zt (by rw [← HZt.out.1, nth_of (by rw [HLN.out.1]; exact HT.out.2.1)]; exact List.getElem_mem _)
        exact ⟨(top_nat hb).1, (top_nat hb).2.1⟩)
    rwa [HN0.out.2.2] at this) (HR.out.self HW9.out) rfl)
  clear c8 f8 xz c00 c01 c10 c11 c20 c21 c30 c31
  go_loop [17] (fun i => ∃ j : Nat, j ≤ k ∧ i = .int .i64 ((600 + j : Nat) : Int)) (fun i => (intOf i).toNat)
  case atStart => exact ⟨k, Nat.le_refl _, by rw [HT.out.2.2]⟩
  case round =>
    obtain ⟨j, hj, rfl⟩ := hrel
    obtain ⟨p, hp⟩ : ∃ p, 600 + j = p := ⟨_, rfl⟩
    rw [hp]
    have hcp := HC9.out p (by have := HLN.out; omega)
    have p0 : (0 : Int) ≤ (p : Int) := by omega
    have p1 : (p : Int) < (LN : Int) := by have := HLN.out; omega
    have p2 : (p : Int) ≤ (cg : Int) := by have := HGC.out; omega
    by_cases hj0 : 0 < j
    · have hz := HN0.out.1 j hj0 hj
      rw [hp] at hz
      rw [hz] at hcp
      have p3 : (0 : Int) < (p : Int) := by omega
      obtain ⟨p', hp'⟩ : ∃ p', p = p' + 1 := ⟨p - 1, by omega⟩
      have p4 : (p : Int) - 1 = (p' : Int) := by omega
      have p5 : IntKind.i64.wrap (p' : Int) = (p' : Int) := by rw [IntKind.wrap_i64]; have := HLN.out; have := HRl.out; have := HL6.out; have := HkR.out; omega
      have HP := hid (And.intro hp hp')
      have HJ := hid (And.intro hj hj0)
      clear hz hp hp' hj hj0
      go_wp2
      go_round
      case rel => exact ⟨j - 1, by have := HJ.out; omega, by have := HP.out; have := HJ.out; rw [show p' = 600 + (j - 1) by omega]⟩
      case measure => have := HP.out; simp [intOf]; omega
    · have hpL : p = 600 := by omega
      have hz := HN0.out.2.1
      rw [← hpL] at hz
      rw [hz] at hcp
      clear hz hp hj hj0
      subst hpL
      go_wp2_with (first
        | (go_at_call 12; (with_reducible refine (HSame.out).mono ?_); rintro e w9 ⟨rfl, rfl⟩)
        | (go_at_call 6; (with_reducible refine (sawake_any _).mono ?_); rintro e w10 ⟨rfl, hl9⟩; have HW10 := hid (HW9.out.trans (hl9.mono HW9.out.size)); clear hl9))
      go_ret
      exact ⟨rfl, HW10.out⟩
theorem sgrows_core (v : Value) (zs : List Int) (r8 : Nat) (mark : Int) (f : Nat → Nat) (w : World) (h : RdC w v zs) (hr8 : r8 < 256) (hm : 0 ≤ mark ∧ mark ≤ 255) (hf : ∀ j, j < 2 → f j < 256) :
    Calls Try.prog 5 #[v, .int .u8 (r8 : Int), .int .u8 mark, .agg (ba 2 f)] w fun e w' => e = .returned (.bool true) ∧ Below w.heap.size w w' := by
  by_cases hl : zs.length ≤ 600
  · by_cases h0 : mark = 0
    · exact sgrows_sz v zs r8 mark f w h hr8 hm hf hl h0
    by_cases h1 : 128 ≤ mark
    · exact sgrows_sb v zs r8 mark f w h hr8 hm hf hl h1
    · exact sgrows_so v zs r8 mark f w h hr8 hm hf hl (by omega)
  · by_cases h0 : mark = 0
    · exact sgrows_lz v zs r8 mark f w h hr8 hm hf (by omega) h0
    by_cases h1 : 128 ≤ mark
    · exact sgrows_lb v zs r8 mark f w h hr8 hm hf (by omega) h1
    · exact sgrows_lo v zs r8 mark f w h hr8 hm hf (by omega) (by omega)
end Go.Proofs.Ytfjgelialaccdaa
