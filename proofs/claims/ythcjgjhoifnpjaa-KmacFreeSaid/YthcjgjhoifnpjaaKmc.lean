import Derived.Test.YthcjgjhoifnpjaaProg
import Derived.Test.YthcjgjhoifnpjaaKmb
import Derived.OrdersHeld
import Derived.Deep.RegionHeld3
/- Kmac: KmacFree, over the calls' contracts. -/
namespace Go.Proofs.Ythcjgjhoifnpjaa
open Go.RowKit
set_option maxRecDepth 100000

theorem kdc_own {B : Nat} {w : World} {v : Value} {zs : List Int} (h : Own .u8 B 5 w v zs) (hl : zs.length ≤ 100000) (hz : ∀ z ∈ zs, 0 ≤ z ∧ z ≤ 255) : RdC w v zs :=
  ⟨h.rd (by show _ * 1 ≤ _; omega) (fun z h => WalkArith.wf_u8 (hz z h)), fun a n c e => by subst e; exact own_cap h⟩
theorem flip_bit {z : Int} (h : 0 ≤ z ∧ z ≤ 255) : 0 ≤ bits .xor .u8 z 1 ∧ bits .xor .u8 z 1 ≤ 255 ∧ bits .xor .u8 z 1 ≠ z := by
  obtain ⟨n, rfl⟩ := Int.eq_ofNat_of_zero_le h.1
  have : ∀ n : Nat, n < 256 → 0 ≤ bits .xor .u8 (n : Int) 1 ∧ bits .xor .u8 (n : Int) 1 ≤ 255 ∧ bits .xor .u8 (n : Int) 1 ≠ (n : Int) := by decide +kernel
  exact this n (by omega)
/-- What the law asks of its number. -/
theorem free_num (n : Nat) (_ : n < 256) : ∃ (r q : Nat) (B : Int), n % 2 = r ∧ r ≤ 1 ∧ B = 128 * (1 + (r : Int)) ∧ raN B = ((8 * q : Nat) : Int) ∧ (1 ≤ q ∧ q < 25) ∧ ∀ m : Nat, m ≤ 65536 → chE B (m : Int) = 0 := by
  rcases (by omega : n % 2 = 0 ∨ n % 2 = 1) with h | h
  · exact ⟨0, 21, 128, h, by decide, rfl, by decide, by decide, fun m hm => if_neg (by omega)⟩
  · exact ⟨1, 17, 256, h, by decide, rfl, by decide, by decide, fun m hm => if_neg (by omega)⟩
theorem kfree_g (b0 n0 : Int) (a0 a1 a2 : Option Addr) (L0 L1 L2 c0 c1 c2 n mo : Nat) (at_ : Int) (f : Bool) (z0 z1 z2 : List Int) (w : World) (_ : RdC w (.slice a0 L0 c0) z0) (_ : RdC w (.slice a1 L1 c1) z1) (_ : RdC w (.slice a2 L2 c2) z2) (l0 : z0.length = L0) (l1 : z1.length = L1) (l2 : z2.length = L2) (hn : n < 256) (hmo : mo < 256) (hg : 400 < L0 ∨ 500 < L1 ∨ 300 < L2) :
    Calls Try.prog 4 #[.agg #[.int .i64 b0, .int .i64 n0, .slice a0 L0 c0, .slice a1 L1 c1, .slice a2 L2 c2, .bool f], .int .u8 (n : Int), .int .u8 (mo : Int), .int .i64 at_] w fun e w' => e = .returned (.bool true) ∧ Below w.heap.size w w' := by
  obtain ⟨r, q, B, hr, hr1, hB, hq, hq2, hch⟩ := free_num n hn
  have e1 : (n : Int).tmod 2 = (r : Int) := by rw [← hr]; rfl
  have e2 : (n : Int) % 2 = (r : Int) := by omega
  have e3 : (128 : Int) * (1 + (r : Int)) = B := hB.symm
  have e4 : (r : Int) ≤ 1 := by omega
  have hnI : (n : Int) ≤ 255 := by omega
  have hmI : (mo : Int) ≤ 255 := by omega
  have hgr : grB L0 L1 L2 (n : Int) = true := decide_eq_true (by omega)
  have HG := hid (fun w => kgreat_any B (n : Int) a0 a1 a2 L0 L1 L2 c0 c1 c2 f w)
  rw [hgr] at HG
  have HX0 := hid (Xb.start w B (n : Int) (.slice a0 L0 c0) (.slice a1 L1 c1) (.slice a2 L2 c2) f)
  clear l0 l1 l2 hg hgr hch hq hq2 hB hr hr1
  go_enter Try.func4, Try.ntmps4
  go_wp2_with (first
    | (go_at_call 5; (with_reducible refine (HG.out _).mono ?_); rintro e w1 ⟨rfl, hl⟩; have HX1 := hid (HX0.out.self hl); clear hl)
    | (go_at_call 6; (with_reducible refine (kawake_any _).mono ?_); rintro e w9 ⟨rfl, hl9⟩; have HW9 := hid (HX1.out.low.trans (hl9.mono HX1.out.low.size)); clear hl9))
  go_ret
  exact ⟨rfl, HW9.out⟩
theorem own_up2 {B : Nat} {w w' : World} {v : Value} {zs : List Int} (h : Own .u8 B 5 w v zs) (hb : Below w.heap.size w w') : Own .u8 B 5 w' v zs := own_frame h fun j _ hj => hb.block j hj
set_option maxHeartbeats 3200000 in
theorem kfree_lo (b0 n0 : Int) (a0 a1 a2 : Option Addr) (L0 L1 L2 c0 c1 c2 n mo : Nat) (at_ : Int) (f : Bool) (z0 z1 z2 : List Int) (w : World) (r0 : RdC w (.slice a0 L0 c0) z0) (r1 : RdC w (.slice a1 L1 c1) z1) (r2 : RdC w (.slice a2 L2 c2) z2) (l0 : z0.length = L0) (l1 : z1.length = L1) (l2 : z2.length = L2) (hn : n < 256) (hmo : mo < 256) (hg : L0 ≤ 400 ∧ L1 ≤ 500 ∧ L2 ≤ 300) (ha : at_ < 0) :
    Calls Try.prog 4 #[.agg #[.int .i64 b0, .int .i64 n0, .slice a0 L0 c0, .slice a1 L1 c1, .slice a2 L2 c2, .bool f], .int .u8 (n : Int), .int .u8 (mo : Int), .int .i64 at_] w fun e w' => e = .returned (.bool true) ∧ Below w.heap.size w w' := by
  obtain ⟨r, q, B, hr, hr1, hB, hq, hq2, hch⟩ := free_num n hn
  have e1 : (n : Int).tmod 2 = (r : Int) := by rw [← hr]; rfl
  have e2 : (n : Int) % 2 = (r : Int) := by omega
  have e3 : (128 : Int) * (1 + (r : Int)) = B := hB.symm
  have e4 : (r : Int) ≤ 1 := by omega
  have hnI : (n : Int) ≤ 255 := by omega
  have hmI : (mo : Int) ≤ 255 := by omega
  have hgr : grB L0 L1 L2 (n : Int) = false := decide_eq_false (by omega)
  have HG := hid (fun w => kgreat_any B (n : Int) a0 a1 a2 L0 L1 L2 c0 c1 c2 f w)
  rw [hgr] at HG
  have HX0 := hid (Xb.start w B (n : Int) (.slice a0 L0 c0) (.slice a1 L1 c1) (.slice a2 L2 c2) f)
  have HW0 := hid (And.intro r0 (And.intro r1 r2))
  obtain ⟨s, hs⟩ : ∃ s, n + mo = s := ⟨_, rfl⟩
  have e5 : (n : Int) + (mo : Int) = (s : Int) := by omega
  have e6 : (s : Int) ≤ 600 := by omega
  have hks : ∀ (m : Nat) (fr : Bool), m ≤ 65536 → ksL B (m : Int) z0 z1 z2 fr = kmL z0 z1 z2 (8 * q) m (if fr then 0 else 8 * m) := fun m fr hm => by rw [ksL, if_pos (hch m hm), hq, Int.toNat_natCast, Int.toNat_natCast]
  have HSu : Hid (∀ (m : Nat) (fr : Bool) (w : World), m ≤ 65536 → RdC w (.slice a0 L0 c0) z0 → RdC w (.slice a1 L1 c1) z1 → RdC w (.slice a2 L2 c2) z2 → Calls Try.prog 8 #[.int .i64 B, .slice a0 L0 c0, .slice a1 L1 c1, .slice a2 L2 c2, .int .i64 (m : Int), .bool fr] w fun e w' => OwE w (kmL z0 z1 z2 (8 * q) m (if fr then 0 else 8 * m)) 0 e w') := hid fun m fr w hm h0 h1 h2 => by
    have := ksum_o B (m : Int) _ _ _ z0 z1 z2 fr w h0 h1 h2 (by omega) (by omega) (by omega)
    rwa [hks m fr hm, hch m hm] at this
  have HS1 : Hid (∀ w, RdC w (.slice a0 L0 c0) z0 → RdC w (.slice a1 L1 c1) z1 → RdC w (.slice a2 L2 c2) z2 → Calls Try.prog 8 #[.int .i64 B, .slice a0 L0 c0, .slice a1 L1 c1, .slice a2 L2 c2, .int .i64 (n : Int), .bool true] w fun e w' => OwE w (kmL z0 z1 z2 (8 * q) n 0) 0 e w') := hid fun w h0 h1 h2 => HSu.out n true w (by omega) h0 h1 h2
  have HS2 : Hid (∀ w, RdC w (.slice a0 L0 c0) z0 → RdC w (.slice a1 L1 c1) z1 → RdC w (.slice a2 L2 c2) z2 → Calls Try.prog 8 #[.int .i64 B, .slice a0 L0 c0, .slice a1 L1 c1, .slice a2 L2 c2, .int .i64 (s : Int), .bool true] w fun e w' => OwE w (kmL z0 z1 z2 (8 * q) s 0) 0 e w') := hid fun w h0 h1 h2 => HSu.out s true w (by omega) h0 h1 h2
  have HS3 : Hid (∀ w, RdC w (.slice a0 L0 c0) z0 → RdC w (.slice a1 L1 c1) z1 → RdC w (.slice a2 L2 c2) z2 → Calls Try.prog 8 #[.int .i64 B, .slice a0 L0 c0, .slice a1 L1 c1, .slice a2 L2 c2, .int .i64 (n : Int), .bool false] w fun e w' => OwE w (kmL z0 z1 z2 (8 * q) n (8 * n)) 0 e w') := hid fun w h0 h1 h2 => HSu.out n false w (by omega) h0 h1 h2
  have hmore := kmL_more z0 z1 z2 (q := q) 0 hq2.1 (show n ≤ s by omega)
  have hl1 := kmL_len z0 z1 z2 (q := q) (n := n) 0 hq2.1
  have hl2 := kmL_len z0 z1 z2 (q := q) (n := s) 0 hq2.1
  have hl3 := kmL_len z0 z1 z2 (q := q) (n := n) (8 * n) hq2.1
  have hy1 := kmL_bytes z0 z1 z2 (8 * q) n 0
  have hy2 := kmL_bytes z0 z1 z2 (8 * q) s 0
  have hy3 := kmL_bytes z0 z1 z2 (8 * q) n (8 * n)
  have HSyL : Hid (∀ (vt : Value) (zt : List Int) (w : World), zt.length = n → RdC w (.slice a0 L0 c0) z0 → RdC w (.slice a1 L1 c1) z1 → RdC w (.slice a2 L2 c2) z2 → RdC w vt zt → Calls Try.prog 13 #[.int .i64 B, .slice a0 L0 c0, .slice a1 L1 c1, .slice a2 L2 c2, vt] w fun e w' => e = .returned (.bool (decide (0 < n ∧ kmL z0 z1 z2 (8 * q) n (8 * n) = zt))) ∧ Below w.heap.size w w') := hid fun vt zt w hzt h0 h1 h2 h3 => by
    have := ksays_i B _ _ _ vt z0 z1 z2 zt w h0 h1 h2 h3 (by omega) (by omega) (by omega) (by omega)
    rw [sayB, hzt, hks n false (by omega)] at this
    have h5 : chE B 0 = 0 := hch 0 (by omega)
    simp only [h5, true_and] at this
    exact this
  obtain ⟨P, hP⟩ : ∃ P : Bool, decide (0 < n) = P := ⟨_, rfl⟩
  obtain ⟨S1, hS1⟩ : ∃ S, kmL z0 z1 z2 (8 * q) n 0 = S := ⟨_, rfl⟩
  obtain ⟨S2, hS2⟩ : ∃ S, kmL z0 z1 z2 (8 * q) s 0 = S := ⟨_, rfl⟩
  obtain ⟨S3, hS3⟩ : ∃ S, kmL z0 z1 z2 (8 * q) n (8 * n) = S := ⟨_, rfl⟩
  rw [hS1] at HS1 hmore hl1 hy1
  rw [hS2] at HS2 hmore hl2 hy2
  rw [hS3] at HS3 HSyL hl3 hy3
  have HSy : Hid (∀ w, RdC w (.slice a0 L0 c0) z0 → RdC w (.slice a1 L1 c1) z1 → RdC w (.slice a2 L2 c2) z2 → ∀ p q', RdC w (.slice p n q') S3 → Calls Try.prog 13 #[.int .i64 B, .slice a0 L0 c0, .slice a1 L1 c1, .slice a2 L2 c2, .slice p n q'] w fun e w' => e = .returned (.bool P) ∧ Below w.heap.size w w') := hid fun w h0 h1 h2 p q' h3 => by
    have := HSyL.out _ S3 w hl3 h0 h1 h2 h3
    simp only [and_true, hP] at this
    exact this
  have HF : Hid (S1.length = n ∧ S2.length = s ∧ S3.length = n ∧ S2.take n = S1 ∧ (∀ z ∈ S1, 0 ≤ z ∧ z ≤ 255) ∧ (∀ z ∈ S2, 0 ≤ z ∧ z ≤ 255) ∧ (∀ z ∈ S3, 0 ≤ z ∧ z ≤ 255) ∧ n < 256 ∧ s < 600 ∧ n ≤ s) := hid ⟨hl1, hl2, hl3, hmore, hy1, hy2, hy3, hn, by omega, by omega⟩
  have gP : decide ((0 : Int) < (n : Int)) = P := by rw [← hP]; simp

  clear r0 r1 r2 l0 l1 l2 hg hgr hch hq hq2 hB hr hr1 hs hks hmore hl1 hl2 hl3 hy1 hy2 hy3 hS1 hS2 hS3
  go_enter Try.func4, Try.ntmps4
  go_wp2_with (first
    | (go_at_call 5; (with_reducible refine (HG.out _).mono ?_); rintro e w1 ⟨rfl, hl⟩; have HX1 := hid (HX0.out.self hl); obtain ⟨k0, k1, k2, k3, k4, k5⟩ := HX1.out.cells; clear hl)
    | (go_at_call 8; ((with_reducible refine (HS1.out w1 (HW0.out.1.self HX1.out.low) (HW0.out.2.1.self HX1.out.low) (HW0.out.2.2.self HX1.out.low)).mono ?_); rintro e w2 ⟨u, rfl, ho, hl⟩; have HX2 := hid (HX1.out.self hl); obtain ⟨k0, k1, k2, k3, k4, k5⟩ := HX2.out.cells; obtain ⟨p1, q1, rfl, _⟩ := ho.slice; rw [HF.out.1] at ho ⊢; have HA2 := hid (kdc_own ho (by have := HF.out; omega) HF.out.2.2.2.2.1); clear ho hl)))
  go_at_call 8
  refine (HS2.out w2 (HW0.out.1.self HX2.out.low) (HW0.out.2.1.self HX2.out.low) (HW0.out.2.2.self HX2.out.low)).mono ?_
  rintro e w3 ⟨u, rfl, ho, hl⟩
  have HX3 := hid (HX2.out.self hl)
  obtain ⟨k0, k1, k2, k3, k4, k5⟩ := HX3.out.cells
  have HA3 := hid (HA2.out.self hl)
  obtain ⟨p2, q2, rfl, _⟩ := ho.slice
  rw [HF.out.2.1] at ho ⊢
  have HCa := (own_cap ho).1
  have HB3 : Hid (Rd .u8 w3 (.slice p2 n q2) S1) := hid (by rw [← HF.out.2.2.2.1]; exact rd_pre ho (by have := HF.out; omega) (by have := HF.out; omega) HF.out.2.2.2.2.2.1)
  have g8 : (n : Int) ≤ (q2 : Int) := by (have := HF.out; omega)
  clear ho hl HCa
  go_wp2_with (go_at_call 8; fail)
  go_at_call 8
  refine (HS3.out w3 (HW0.out.1.self HX3.out.low) (HW0.out.2.1.self HX3.out.low) (HW0.out.2.2.self HX3.out.low)).mono ?_
  rintro e w5 ⟨u, rfl, ho, hl⟩
  have HX5 := hid (HX3.out.self hl)
  obtain ⟨k0, k1, k2, k3, k4, k5⟩ := HX5.out.cells
  have HSm := hid (same_ns _ _ _ _ w5 (HB3.out.self hl) (HA3.out.self hl).rd rfl)
  obtain ⟨p3, q3, rfl, _⟩ := ho.slice
  rw [HF.out.2.2.1] at ho ⊢
  have HO5 : Hid (Own .u8 (w.heap.size + 1) 5 w5 (.slice p3 n q3) S3) := hid (own_base ho (Array.getElem?_eq_some_iff.1 HX3.out.blk).1)
  clear ho hl
  go_wp2_with (first
    | (go_at_call 10; (with_reducible refine (HSm.out).mono ?_); rintro e w5 ⟨rfl, rfl⟩))
  have HX6 : Hid (Xb w w5.drew B (n : Int) (.slice a0 L0 c0) (.slice a1 L1 c1) (.slice a2 L2 c2) f) := hid (HX5.out.self ((Below.refl _ _).drew))
  have HO6 : Hid (Own .u8 (w.heap.size + 1) 5 w5.drew (.slice p3 n q3) S3) := hid HO5.out.drew
  have HC6 := hid (kdc_own HO6.out (by have := HF.out; omega) HF.out.2.2.2.2.2.2.1)
  have HW6 : Hid (RdC w5.drew (.slice a0 L0 c0) z0 ∧ RdC w5.drew (.slice a1 L1 c1) z1 ∧ RdC w5.drew (.slice a2 L2 c2) z2) := hid ⟨HW0.out.1.self HX6.out.low, HW0.out.2.1.self HX6.out.low, HW0.out.2.2.self HX6.out.low⟩
  refine wp_region_noPanic ?_
  refine wp_region_held_drew (S := fun w' => Xb w w' B (n : Int) (.slice a0 L0 c0) (.slice a1 L1 c1) (.slice a2 L2 c2) f) (by kernel_rfl) (HX6.out) (fun h0 => ?_)
  generalize w5.drew = w6 at *
  refine wpAnyH_take (i := 0) (v := .pointer (some ⟨w.heap.size, 0, none⟩)) rfl (by kernel_rfl) (by kernel_rfl) (by kernel_rfl) (fun _ _ _ h => h) (.inl ⟨by rfl, fun w hw => by clear hw; go_simp⟩) h0 ?_
  try simp only [Act.put, lay_out]
  refine wpAnyH_take (i := 1) (v := .int .i64 B) rfl (by kernel_rfl) (by kernel_rfl) (by kernel_rfl) (fun _ _ _ h => h) (.inl ⟨by rfl, fun w' hw => by have hc0 := hw.cells.1; clear hw; go_simp⟩) h0 ?_
  try simp only [Act.put, lay_out]
  refine wpAnyH_take (i := 2) (v := .pointer (some ⟨w.heap.size, 2, none⟩)) rfl (by kernel_rfl) (by kernel_rfl) (by kernel_rfl) (fun _ _ _ h => h) (.inl ⟨by rfl, fun w hw => by clear hw; go_simp⟩) h0 ?_
  try simp only [Act.put, lay_out]
  refine wpAnyH_take (i := 3) (v := .slice a0 L0 c0) rfl (by kernel_rfl) (by kernel_rfl) (by kernel_rfl) (fun _ _ _ h => h) (.inl ⟨by rfl, fun w' hw => by have hc0 := hw.cells.2.2.1; clear hw; go_simp⟩) h0 ?_
  try simp only [Act.put, lay_out]
  refine wpAnyH_take (i := 4) (v := .pointer (some ⟨w.heap.size, 3, none⟩)) rfl (by kernel_rfl) (by kernel_rfl) (by kernel_rfl) (fun _ _ _ h => h) (.inl ⟨by rfl, fun w hw => by clear hw; go_simp⟩) h0 ?_
  try simp only [Act.put, lay_out]
  refine wpAnyH_take (i := 5) (v := .slice a1 L1 c1) rfl (by kernel_rfl) (by kernel_rfl) (by kernel_rfl) (fun _ _ _ h => h) (.inl ⟨by rfl, fun w' hw => by have hc0 := hw.cells.2.2.2.1; clear hw; go_simp⟩) h0 ?_
  try simp only [Act.put, lay_out]
  refine wpAnyH_take (i := 6) (v := .pointer (some ⟨w.heap.size, 4, none⟩)) rfl (by kernel_rfl) (by kernel_rfl) (by kernel_rfl) (fun _ _ _ h => h) (.inl ⟨by rfl, fun w hw => by clear hw; go_simp⟩) h0 ?_
  try simp only [Act.put, lay_out]
  refine wpAnyH_take (i := 7) (v := .slice a2 L2 c2) rfl (by kernel_rfl) (by kernel_rfl) (by kernel_rfl) (fun _ _ _ h => h) (.inl ⟨by rfl, fun w' hw => by have hc0 := hw.cells.2.2.2.2.1; clear hw; go_simp⟩) h0 ?_
  try simp only [Act.put, lay_out]
  refine wpAnyH_take (i := 8) (v := .slice p3 n q3) rfl (by kernel_rfl) (by kernel_rfl) (by kernel_rfl) (fun _ _ _ h => h) (.inl ⟨by rfl, fun w hw => by clear hw; go_simp⟩) h0 ?_
  try simp only [Act.put, lay_out]
  refine wpAnyH_take (i := 10) (v := .pointer (some ⟨w.heap.size, 1, none⟩)) rfl (by kernel_rfl) (by kernel_rfl) (by kernel_rfl) (fun _ _ _ h => h) (.inl ⟨by rfl, fun w hw => by clear hw; go_simp⟩) h0 ?_
  try simp only [Act.put, lay_out]
  refine wpAnyH_take (i := 11) (v := .int .i64 (n : Int)) rfl (by kernel_rfl) (by kernel_rfl) (by kernel_rfl) (fun _ _ _ h => h) (.inl ⟨by rfl, fun w' hw => by have hc0 := hw.cells.2.1; clear hw; go_simp⟩) h0 ?_
  try simp only [Act.put, lay_out]
  refine wpAnyH_take (i := 12) (v := .bool P) rfl (by kernel_rfl) (by kernel_rfl) (by kernel_rfl) (fun _ _ _ h => h) (.inl ⟨by rfl, fun w' hw => by clear hw; go_simp⟩) h0 ?_
  try simp only [Act.put, lay_out]
  refine wpAnyH_ready (rs := [9]) (by kernel_rfl) (by simp) (AllReadyH.cons rfl (fun K hK => ?_) AllReadyH.nil)
  rw [if_pos (by rfl)]
  go_simp
  go_at_call 13
  (with_reducible refine (HSy.out w6 HW6.out.1 HW6.out.2.1 HW6.out.2.2 _ _ HC6.out).mono ?_); rintro e w7 ⟨rfl, hl⟩
  have HX7 := hid (HX6.out.self hl)
  have HO7 := hid (own_up2 HO6.out hl)
  clear hl
  refine hK.out _ _ (HX7.out) (fun h1x => ?_)
  clear hK K
  try simp only [Act.put, lay_out]
  refine wpAnyH_take (i := 13) (v := .bool false) rfl (by kernel_rfl) (by kernel_rfl) (by kernel_rfl) (fun _ _ _ h => h) (.inl ⟨by rfl, fun w hw => by clear hw; go_simp⟩) h1x ?_
  try simp only [Act.put, lay_out]
  refine wpAnyH_done (by kernel_rfl) ?_ _
  refine NoPanic.normal ?_
  clear h0 h1x
  try simp only [Act.put, lay_out]
  have HLo := hid HX7.out.low
  go_wp2_with (first
    | (go_at_call 6; (with_reducible refine (kawake_any _).mono ?_); rintro e w9 ⟨rfl, hl9⟩; have HW9 := hid (HLo.out.trans (hl9.mono HLo.out.size)); clear hl9))
  go_ret
  exact ⟨rfl, HW9.out⟩
set_option maxHeartbeats 3200000 in
theorem kfree_hi (b0 n0 : Int) (a0 a1 a2 : Option Addr) (L0 L1 L2 c0 c1 c2 n mo : Nat) (at_ : Int) (f : Bool) (z0 z1 z2 : List Int) (w : World) (r0 : RdC w (.slice a0 L0 c0) z0) (r1 : RdC w (.slice a1 L1 c1) z1) (r2 : RdC w (.slice a2 L2 c2) z2) (l0 : z0.length = L0) (l1 : z1.length = L1) (l2 : z2.length = L2) (hn : n < 256) (hmo : mo < 256) (hg : L0 ≤ 400 ∧ L1 ≤ 500 ∧ L2 ≤ 300) (ha : 0 ≤ at_ ∧ (n : Int) ≤ at_) :
    Calls Try.prog 4 #[.agg #[.int .i64 b0, .int .i64 n0, .slice a0 L0 c0, .slice a1 L1 c1, .slice a2 L2 c2, .bool f], .int .u8 (n : Int), .int .u8 (mo : Int), .int .i64 at_] w fun e w' => e = .returned (.bool true) ∧ Below w.heap.size w w' := by
  obtain ⟨r, q, B, hr, hr1, hB, hq, hq2, hch⟩ := free_num n hn
  have e1 : (n : Int).tmod 2 = (r : Int) := by rw [← hr]; rfl
  have e2 : (n : Int) % 2 = (r : Int) := by omega
  have e3 : (128 : Int) * (1 + (r : Int)) = B := hB.symm
  have e4 : (r : Int) ≤ 1 := by omega
  have hnI : (n : Int) ≤ 255 := by omega
  have hmI : (mo : Int) ≤ 255 := by omega
  have hgr : grB L0 L1 L2 (n : Int) = false := decide_eq_false (by omega)
  have HG := hid (fun w => kgreat_any B (n : Int) a0 a1 a2 L0 L1 L2 c0 c1 c2 f w)
  rw [hgr] at HG
  have HX0 := hid (Xb.start w B (n : Int) (.slice a0 L0 c0) (.slice a1 L1 c1) (.slice a2 L2 c2) f)
  have HW0 := hid (And.intro r0 (And.intro r1 r2))
  obtain ⟨s, hs⟩ : ∃ s, n + mo = s := ⟨_, rfl⟩
  have e5 : (n : Int) + (mo : Int) = (s : Int) := by omega
  have e6 : (s : Int) ≤ 600 := by omega
  have hks : ∀ (m : Nat) (fr : Bool), m ≤ 65536 → ksL B (m : Int) z0 z1 z2 fr = kmL z0 z1 z2 (8 * q) m (if fr then 0 else 8 * m) := fun m fr hm => by rw [ksL, if_pos (hch m hm), hq, Int.toNat_natCast, Int.toNat_natCast]
  have HSu : Hid (∀ (m : Nat) (fr : Bool) (w : World), m ≤ 65536 → RdC w (.slice a0 L0 c0) z0 → RdC w (.slice a1 L1 c1) z1 → RdC w (.slice a2 L2 c2) z2 → Calls Try.prog 8 #[.int .i64 B, .slice a0 L0 c0, .slice a1 L1 c1, .slice a2 L2 c2, .int .i64 (m : Int), .bool fr] w fun e w' => OwE w (kmL z0 z1 z2 (8 * q) m (if fr then 0 else 8 * m)) 0 e w') := hid fun m fr w hm h0 h1 h2 => by
    have := ksum_o B (m : Int) _ _ _ z0 z1 z2 fr w h0 h1 h2 (by omega) (by omega) (by omega)
    rwa [hks m fr hm, hch m hm] at this
  have HS1 : Hid (∀ w, RdC w (.slice a0 L0 c0) z0 → RdC w (.slice a1 L1 c1) z1 → RdC w (.slice a2 L2 c2) z2 → Calls Try.prog 8 #[.int .i64 B, .slice a0 L0 c0, .slice a1 L1 c1, .slice a2 L2 c2, .int .i64 (n : Int), .bool true] w fun e w' => OwE w (kmL z0 z1 z2 (8 * q) n 0) 0 e w') := hid fun w h0 h1 h2 => HSu.out n true w (by omega) h0 h1 h2
  have HS2 : Hid (∀ w, RdC w (.slice a0 L0 c0) z0 → RdC w (.slice a1 L1 c1) z1 → RdC w (.slice a2 L2 c2) z2 → Calls Try.prog 8 #[.int .i64 B, .slice a0 L0 c0, .slice a1 L1 c1, .slice a2 L2 c2, .int .i64 (s : Int), .bool true] w fun e w' => OwE w (kmL z0 z1 z2 (8 * q) s 0) 0 e w') := hid fun w h0 h1 h2 => HSu.out s true w (by omega) h0 h1 h2
  have HS3 : Hid (∀ w, RdC w (.slice a0 L0 c0) z0 → RdC w (.slice a1 L1 c1) z1 → RdC w (.slice a2 L2 c2) z2 → Calls Try.prog 8 #[.int .i64 B, .slice a0 L0 c0, .slice a1 L1 c1, .slice a2 L2 c2, .int .i64 (n : Int), .bool false] w fun e w' => OwE w (kmL z0 z1 z2 (8 * q) n (8 * n)) 0 e w') := hid fun w h0 h1 h2 => HSu.out n false w (by omega) h0 h1 h2
  have hmore := kmL_more z0 z1 z2 (q := q) 0 hq2.1 (show n ≤ s by omega)
  have hl1 := kmL_len z0 z1 z2 (q := q) (n := n) 0 hq2.1
  have hl2 := kmL_len z0 z1 z2 (q := q) (n := s) 0 hq2.1
  have hl3 := kmL_len z0 z1 z2 (q := q) (n := n) (8 * n) hq2.1
  have hy1 := kmL_bytes z0 z1 z2 (8 * q) n 0
  have hy2 := kmL_bytes z0 z1 z2 (8 * q) s 0
  have hy3 := kmL_bytes z0 z1 z2 (8 * q) n (8 * n)
  have HSyL : Hid (∀ (vt : Value) (zt : List Int) (w : World), zt.length = n → RdC w (.slice a0 L0 c0) z0 → RdC w (.slice a1 L1 c1) z1 → RdC w (.slice a2 L2 c2) z2 → RdC w vt zt → Calls Try.prog 13 #[.int .i64 B, .slice a0 L0 c0, .slice a1 L1 c1, .slice a2 L2 c2, vt] w fun e w' => e = .returned (.bool (decide (0 < n ∧ kmL z0 z1 z2 (8 * q) n (8 * n) = zt))) ∧ Below w.heap.size w w') := hid fun vt zt w hzt h0 h1 h2 h3 => by
    have := ksays_i B _ _ _ vt z0 z1 z2 zt w h0 h1 h2 h3 (by omega) (by omega) (by omega) (by omega)
    rw [sayB, hzt, hks n false (by omega)] at this
    have h5 : chE B 0 = 0 := hch 0 (by omega)
    simp only [h5, true_and] at this
    exact this
  obtain ⟨P, hP⟩ : ∃ P : Bool, decide (0 < n) = P := ⟨_, rfl⟩
  obtain ⟨S1, hS1⟩ : ∃ S, kmL z0 z1 z2 (8 * q) n 0 = S := ⟨_, rfl⟩
  obtain ⟨S2, hS2⟩ : ∃ S, kmL z0 z1 z2 (8 * q) s 0 = S := ⟨_, rfl⟩
  obtain ⟨S3, hS3⟩ : ∃ S, kmL z0 z1 z2 (8 * q) n (8 * n) = S := ⟨_, rfl⟩
  rw [hS1] at HS1 hmore hl1 hy1
  rw [hS2] at HS2 hmore hl2 hy2
  rw [hS3] at HS3 HSyL hl3 hy3
  have HSy : Hid (∀ w, RdC w (.slice a0 L0 c0) z0 → RdC w (.slice a1 L1 c1) z1 → RdC w (.slice a2 L2 c2) z2 → ∀ p q', RdC w (.slice p n q') S3 → Calls Try.prog 13 #[.int .i64 B, .slice a0 L0 c0, .slice a1 L1 c1, .slice a2 L2 c2, .slice p n q'] w fun e w' => e = .returned (.bool P) ∧ Below w.heap.size w w') := hid fun w h0 h1 h2 p q' h3 => by
    have := HSyL.out _ S3 w hl3 h0 h1 h2 h3
    simp only [and_true, hP] at this
    exact this
  have HF : Hid (S1.length = n ∧ S2.length = s ∧ S3.length = n ∧ S2.take n = S1 ∧ (∀ z ∈ S1, 0 ≤ z ∧ z ≤ 255) ∧ (∀ z ∈ S2, 0 ≤ z ∧ z ≤ 255) ∧ (∀ z ∈ S3, 0 ≤ z ∧ z ≤ 255) ∧ n < 256 ∧ s < 600 ∧ n ≤ s) := hid ⟨hl1, hl2, hl3, hmore, hy1, hy2, hy3, hn, by omega, by omega⟩
  have gP : decide ((0 : Int) < (n : Int)) = P := by rw [← hP]; simp
  have ha1 : ¬ at_ < 0 := by omega
  have ha2 : (n : Int) ≤ at_ := ha.2

  clear r0 r1 r2 l0 l1 l2 hg hgr hch hq hq2 hB hr hr1 hs hks hmore hl1 hl2 hl3 hy1 hy2 hy3 hS1 hS2 hS3 ha
  go_enter Try.func4, Try.ntmps4
  go_wp2_with (first
    | (go_at_call 5; (with_reducible refine (HG.out _).mono ?_); rintro e w1 ⟨rfl, hl⟩; have HX1 := hid (HX0.out.self hl); obtain ⟨k0, k1, k2, k3, k4, k5⟩ := HX1.out.cells; clear hl)
    | (go_at_call 8; ((with_reducible refine (HS1.out w1 (HW0.out.1.self HX1.out.low) (HW0.out.2.1.self HX1.out.low) (HW0.out.2.2.self HX1.out.low)).mono ?_); rintro e w2 ⟨u, rfl, ho, hl⟩; have HX2 := hid (HX1.out.self hl); obtain ⟨k0, k1, k2, k3, k4, k5⟩ := HX2.out.cells; obtain ⟨p1, q1, rfl, _⟩ := ho.slice; rw [HF.out.1] at ho ⊢; have HA2 := hid (kdc_own ho (by have := HF.out; omega) HF.out.2.2.2.2.1); clear ho hl)))
  go_at_call 8
  refine (HS2.out w2 (HW0.out.1.self HX2.out.low) (HW0.out.2.1.self HX2.out.low) (HW0.out.2.2.self HX2.out.low)).mono ?_
  rintro e w3 ⟨u, rfl, ho, hl⟩
  have HX3 := hid (HX2.out.self hl)
  obtain ⟨k0, k1, k2, k3, k4, k5⟩ := HX3.out.cells
  have HA3 := hid (HA2.out.self hl)
  obtain ⟨p2, q2, rfl, _⟩ := ho.slice
  rw [HF.out.2.1] at ho ⊢
  have HCa := (own_cap ho).1
  have HB3 : Hid (Rd .u8 w3 (.slice p2 n q2) S1) := hid (by rw [← HF.out.2.2.2.1]; exact rd_pre ho (by have := HF.out; omega) (by have := HF.out; omega) HF.out.2.2.2.2.2.1)
  have g8 : (n : Int) ≤ (q2 : Int) := by (have := HF.out; omega)
  clear ho hl HCa
  go_wp2_with (go_at_call 8; fail)
  go_at_call 8
  refine (HS3.out w3 (HW0.out.1.self HX3.out.low) (HW0.out.2.1.self HX3.out.low) (HW0.out.2.2.self HX3.out.low)).mono ?_
  rintro e w5 ⟨u, rfl, ho, hl⟩
  have HX5 := hid (HX3.out.self hl)
  obtain ⟨k0, k1, k2, k3, k4, k5⟩ := HX5.out.cells
  have HSm := hid (same_ns _ _ _ _ w5 (HB3.out.self hl) (HA3.out.self hl).rd rfl)
  obtain ⟨p3, q3, rfl, _⟩ := ho.slice
  rw [HF.out.2.2.1] at ho ⊢
  have HO5 : Hid (Own .u8 (w.heap.size + 1) 5 w5 (.slice p3 n q3) S3) := hid (own_base ho (Array.getElem?_eq_some_iff.1 HX3.out.blk).1)
  clear ho hl
  go_wp2_with (first
    | (go_at_call 10; (with_reducible refine (HSm.out).mono ?_); rintro e w5 ⟨rfl, rfl⟩))
  have HX6 : Hid (Xb w w5.drew B (n : Int) (.slice a0 L0 c0) (.slice a1 L1 c1) (.slice a2 L2 c2) f) := hid (HX5.out.self ((Below.refl _ _).drew))
  have HO6 : Hid (Own .u8 (w.heap.size + 1) 5 w5.drew (.slice p3 n q3) S3) := hid HO5.out.drew
  have HC6 := hid (kdc_own HO6.out (by have := HF.out; omega) HF.out.2.2.2.2.2.2.1)
  have HW6 : Hid (RdC w5.drew (.slice a0 L0 c0) z0 ∧ RdC w5.drew (.slice a1 L1 c1) z1 ∧ RdC w5.drew (.slice a2 L2 c2) z2) := hid ⟨HW0.out.1.self HX6.out.low, HW0.out.2.1.self HX6.out.low, HW0.out.2.2.self HX6.out.low⟩
  refine wp_region_noPanic ?_
  refine wp_region_held_drew (S := fun w' => Xb w w' B (n : Int) (.slice a0 L0 c0) (.slice a1 L1 c1) (.slice a2 L2 c2) f) (by kernel_rfl) (HX6.out) (fun h0 => ?_)
  generalize w5.drew = w6 at *
  refine wpAnyH_take (i := 0) (v := .pointer (some ⟨w.heap.size, 0, none⟩)) rfl (by kernel_rfl) (by kernel_rfl) (by kernel_rfl) (fun _ _ _ h => h) (.inl ⟨by rfl, fun w hw => by clear hw; go_simp⟩) h0 ?_
  try simp only [Act.put, lay_out]
  refine wpAnyH_take (i := 1) (v := .int .i64 B) rfl (by kernel_rfl) (by kernel_rfl) (by kernel_rfl) (fun _ _ _ h => h) (.inl ⟨by rfl, fun w' hw => by have hc0 := hw.cells.1; clear hw; go_simp⟩) h0 ?_
  try simp only [Act.put, lay_out]
  refine wpAnyH_take (i := 2) (v := .pointer (some ⟨w.heap.size, 2, none⟩)) rfl (by kernel_rfl) (by kernel_rfl) (by kernel_rfl) (fun _ _ _ h => h) (.inl ⟨by rfl, fun w hw => by clear hw; go_simp⟩) h0 ?_
  try simp only [Act.put, lay_out]
  refine wpAnyH_take (i := 3) (v := .slice a0 L0 c0) rfl (by kernel_rfl) (by kernel_rfl) (by kernel_rfl) (fun _ _ _ h => h) (.inl ⟨by rfl, fun w' hw => by have hc0 := hw.cells.2.2.1; clear hw; go_simp⟩) h0 ?_
  try simp only [Act.put, lay_out]
  refine wpAnyH_take (i := 4) (v := .pointer (some ⟨w.heap.size, 3, none⟩)) rfl (by kernel_rfl) (by kernel_rfl) (by kernel_rfl) (fun _ _ _ h => h) (.inl ⟨by rfl, fun w hw => by clear hw; go_simp⟩) h0 ?_
  try simp only [Act.put, lay_out]
  refine wpAnyH_take (i := 5) (v := .slice a1 L1 c1) rfl (by kernel_rfl) (by kernel_rfl) (by kernel_rfl) (fun _ _ _ h => h) (.inl ⟨by rfl, fun w' hw => by have hc0 := hw.cells.2.2.2.1; clear hw; go_simp⟩) h0 ?_
  try simp only [Act.put, lay_out]
  refine wpAnyH_take (i := 6) (v := .pointer (some ⟨w.heap.size, 4, none⟩)) rfl (by kernel_rfl) (by kernel_rfl) (by kernel_rfl) (fun _ _ _ h => h) (.inl ⟨by rfl, fun w hw => by clear hw; go_simp⟩) h0 ?_
  try simp only [Act.put, lay_out]
  refine wpAnyH_take (i := 7) (v := .slice a2 L2 c2) rfl (by kernel_rfl) (by kernel_rfl) (by kernel_rfl) (fun _ _ _ h => h) (.inl ⟨by rfl, fun w' hw => by have hc0 := hw.cells.2.2.2.2.1; clear hw; go_simp⟩) h0 ?_
  try simp only [Act.put, lay_out]
  refine wpAnyH_take (i := 8) (v := .slice p3 n q3) rfl (by kernel_rfl) (by kernel_rfl) (by kernel_rfl) (fun _ _ _ h => h) (.inl ⟨by rfl, fun w hw => by clear hw; go_simp⟩) h0 ?_
  try simp only [Act.put, lay_out]
  refine wpAnyH_take (i := 10) (v := .pointer (some ⟨w.heap.size, 1, none⟩)) rfl (by kernel_rfl) (by kernel_rfl) (by kernel_rfl) (fun _ _ _ h => h) (.inl ⟨by rfl, fun w hw => by clear hw; go_simp⟩) h0 ?_
  try simp only [Act.put, lay_out]
  refine wpAnyH_take (i := 11) (v := .int .i64 (n : Int)) rfl (by kernel_rfl) (by kernel_rfl) (by kernel_rfl) (fun _ _ _ h => h) (.inl ⟨by rfl, fun w' hw => by have hc0 := hw.cells.2.1; clear hw; go_simp⟩) h0 ?_
  try simp only [Act.put, lay_out]
  refine wpAnyH_take (i := 12) (v := .bool P) rfl (by kernel_rfl) (by kernel_rfl) (by kernel_rfl) (fun _ _ _ h => h) (.inl ⟨by rfl, fun w' hw => by clear hw; go_simp⟩) h0 ?_
  try simp only [Act.put, lay_out]
  refine wpAnyH_ready (rs := [9]) (by kernel_rfl) (by simp) (AllReadyH.cons rfl (fun K hK => ?_) AllReadyH.nil)
  rw [if_pos (by rfl)]
  go_simp
  go_at_call 13
  (with_reducible refine (HSy.out w6 HW6.out.1 HW6.out.2.1 HW6.out.2.2 _ _ HC6.out).mono ?_); rintro e w7 ⟨rfl, hl⟩
  have HX7 := hid (HX6.out.self hl)
  have HO7 := hid (own_up2 HO6.out hl)
  clear hl
  refine hK.out _ _ (HX7.out) (fun h1x => ?_)
  clear hK K
  try simp only [Act.put, lay_out]
  refine wpAnyH_take (i := 13) (v := .bool false) rfl (by kernel_rfl) (by kernel_rfl) (by kernel_rfl) (fun _ _ _ h => h) (.inl ⟨by rfl, fun w hw => by clear hw; go_simp⟩) h1x ?_
  try simp only [Act.put, lay_out]
  refine wpAnyH_done (by kernel_rfl) ?_ _
  refine NoPanic.normal ?_
  clear h0 h1x
  try simp only [Act.put, lay_out]
  have HLo := hid HX7.out.low
  go_wp2_with (first
    | (go_at_call 6; (with_reducible refine (kawake_any _).mono ?_); rintro e w9 ⟨rfl, hl9⟩; have HW9 := hid (HLo.out.trans (hl9.mono HLo.out.size)); clear hl9))
  go_ret
  exact ⟨rfl, HW9.out⟩
set_option maxHeartbeats 3200000 in
theorem kfree_in (b0 n0 : Int) (a0 a1 a2 : Option Addr) (L0 L1 L2 c0 c1 c2 n mo : Nat) (at_ : Int) (f : Bool) (z0 z1 z2 : List Int) (w : World) (r0 : RdC w (.slice a0 L0 c0) z0) (r1 : RdC w (.slice a1 L1 c1) z1) (r2 : RdC w (.slice a2 L2 c2) z2) (l0 : z0.length = L0) (l1 : z1.length = L1) (l2 : z2.length = L2) (hn : n < 256) (hmo : mo < 256) (hg : L0 ≤ 400 ∧ L1 ≤ 500 ∧ L2 ≤ 300) (ai : Nat) (hai : at_ = (ai : Int)) (ha : ai < n) :
    Calls Try.prog 4 #[.agg #[.int .i64 b0, .int .i64 n0, .slice a0 L0 c0, .slice a1 L1 c1, .slice a2 L2 c2, .bool f], .int .u8 (n : Int), .int .u8 (mo : Int), .int .i64 at_] w fun e w' => e = .returned (.bool true) ∧ Below w.heap.size w w' := by
  obtain ⟨r, q, B, hr, hr1, hB, hq, hq2, hch⟩ := free_num n hn
  have e1 : (n : Int).tmod 2 = (r : Int) := by rw [← hr]; rfl
  have e2 : (n : Int) % 2 = (r : Int) := by omega
  have e3 : (128 : Int) * (1 + (r : Int)) = B := hB.symm
  have e4 : (r : Int) ≤ 1 := by omega
  have hnI : (n : Int) ≤ 255 := by omega
  have hmI : (mo : Int) ≤ 255 := by omega
  have hgr : grB L0 L1 L2 (n : Int) = false := decide_eq_false (by omega)
  have HG := hid (fun w => kgreat_any B (n : Int) a0 a1 a2 L0 L1 L2 c0 c1 c2 f w)
  rw [hgr] at HG
  have HX0 := hid (Xb.start w B (n : Int) (.slice a0 L0 c0) (.slice a1 L1 c1) (.slice a2 L2 c2) f)
  have HW0 := hid (And.intro r0 (And.intro r1 r2))
  obtain ⟨s, hs⟩ : ∃ s, n + mo = s := ⟨_, rfl⟩
  have e5 : (n : Int) + (mo : Int) = (s : Int) := by omega
  have e6 : (s : Int) ≤ 600 := by omega
  have hks : ∀ (m : Nat) (fr : Bool), m ≤ 65536 → ksL B (m : Int) z0 z1 z2 fr = kmL z0 z1 z2 (8 * q) m (if fr then 0 else 8 * m) := fun m fr hm => by rw [ksL, if_pos (hch m hm), hq, Int.toNat_natCast, Int.toNat_natCast]
  have HSu : Hid (∀ (m : Nat) (fr : Bool) (w : World), m ≤ 65536 → RdC w (.slice a0 L0 c0) z0 → RdC w (.slice a1 L1 c1) z1 → RdC w (.slice a2 L2 c2) z2 → Calls Try.prog 8 #[.int .i64 B, .slice a0 L0 c0, .slice a1 L1 c1, .slice a2 L2 c2, .int .i64 (m : Int), .bool fr] w fun e w' => OwE w (kmL z0 z1 z2 (8 * q) m (if fr then 0 else 8 * m)) 0 e w') := hid fun m fr w hm h0 h1 h2 => by
    have := ksum_o B (m : Int) _ _ _ z0 z1 z2 fr w h0 h1 h2 (by omega) (by omega) (by omega)
    rwa [hks m fr hm, hch m hm] at this
  have HS1 : Hid (∀ w, RdC w (.slice a0 L0 c0) z0 → RdC w (.slice a1 L1 c1) z1 → RdC w (.slice a2 L2 c2) z2 → Calls Try.prog 8 #[.int .i64 B, .slice a0 L0 c0, .slice a1 L1 c1, .slice a2 L2 c2, .int .i64 (n : Int), .bool true] w fun e w' => OwE w (kmL z0 z1 z2 (8 * q) n 0) 0 e w') := hid fun w h0 h1 h2 => HSu.out n true w (by omega) h0 h1 h2
  have HS2 : Hid (∀ w, RdC w (.slice a0 L0 c0) z0 → RdC w (.slice a1 L1 c1) z1 → RdC w (.slice a2 L2 c2) z2 → Calls Try.prog 8 #[.int .i64 B, .slice a0 L0 c0, .slice a1 L1 c1, .slice a2 L2 c2, .int .i64 (s : Int), .bool true] w fun e w' => OwE w (kmL z0 z1 z2 (8 * q) s 0) 0 e w') := hid fun w h0 h1 h2 => HSu.out s true w (by omega) h0 h1 h2
  have HS3 : Hid (∀ w, RdC w (.slice a0 L0 c0) z0 → RdC w (.slice a1 L1 c1) z1 → RdC w (.slice a2 L2 c2) z2 → Calls Try.prog 8 #[.int .i64 B, .slice a0 L0 c0, .slice a1 L1 c1, .slice a2 L2 c2, .int .i64 (n : Int), .bool false] w fun e w' => OwE w (kmL z0 z1 z2 (8 * q) n (8 * n)) 0 e w') := hid fun w h0 h1 h2 => HSu.out n false w (by omega) h0 h1 h2
  have hmore := kmL_more z0 z1 z2 (q := q) 0 hq2.1 (show n ≤ s by omega)
  have hl1 := kmL_len z0 z1 z2 (q := q) (n := n) 0 hq2.1
  have hl2 := kmL_len z0 z1 z2 (q := q) (n := s) 0 hq2.1
  have hl3 := kmL_len z0 z1 z2 (q := q) (n := n) (8 * n) hq2.1
  have hy1 := kmL_bytes z0 z1 z2 (8 * q) n 0
  have hy2 := kmL_bytes z0 z1 z2 (8 * q) s 0
  have hy3 := kmL_bytes z0 z1 z2 (8 * q) n (8 * n)
  have HSyL : Hid (∀ (vt : Value) (zt : List Int) (w : World), zt.length = n → RdC w (.slice a0 L0 c0) z0 → RdC w (.slice a1 L1 c1) z1 → RdC w (.slice a2 L2 c2) z2 → RdC w vt zt → Calls Try.prog 13 #[.int .i64 B, .slice a0 L0 c0, .slice a1 L1 c1, .slice a2 L2 c2, vt] w fun e w' => e = .returned (.bool (decide (0 < n ∧ kmL z0 z1 z2 (8 * q) n (8 * n) = zt))) ∧ Below w.heap.size w w') := hid fun vt zt w hzt h0 h1 h2 h3 => by
    have := ksays_i B _ _ _ vt z0 z1 z2 zt w h0 h1 h2 h3 (by omega) (by omega) (by omega) (by omega)
    rw [sayB, hzt, hks n false (by omega)] at this
    have h5 : chE B 0 = 0 := hch 0 (by omega)
    simp only [h5, true_and] at this
    exact this
  obtain ⟨P, hP⟩ : ∃ P : Bool, decide (0 < n) = P := ⟨_, rfl⟩
  obtain ⟨S1, hS1⟩ : ∃ S, kmL z0 z1 z2 (8 * q) n 0 = S := ⟨_, rfl⟩
  obtain ⟨S2, hS2⟩ : ∃ S, kmL z0 z1 z2 (8 * q) s 0 = S := ⟨_, rfl⟩
  obtain ⟨S3, hS3⟩ : ∃ S, kmL z0 z1 z2 (8 * q) n (8 * n) = S := ⟨_, rfl⟩
  rw [hS1] at HS1 hmore hl1 hy1
  rw [hS2] at HS2 hmore hl2 hy2
  rw [hS3] at HS3 HSyL hl3 hy3
  have HSy : Hid (∀ w, RdC w (.slice a0 L0 c0) z0 → RdC w (.slice a1 L1 c1) z1 → RdC w (.slice a2 L2 c2) z2 → ∀ p q', RdC w (.slice p n q') S3 → Calls Try.prog 13 #[.int .i64 B, .slice a0 L0 c0, .slice a1 L1 c1, .slice a2 L2 c2, .slice p n q'] w fun e w' => e = .returned (.bool P) ∧ Below w.heap.size w w') := hid fun w h0 h1 h2 p q' h3 => by
    have := HSyL.out _ S3 w hl3 h0 h1 h2 h3
    simp only [and_true, hP] at this
    exact this
  have HF : Hid (S1.length = n ∧ S2.length = s ∧ S3.length = n ∧ S2.take n = S1 ∧ (∀ z ∈ S1, 0 ≤ z ∧ z ≤ 255) ∧ (∀ z ∈ S2, 0 ≤ z ∧ z ≤ 255) ∧ (∀ z ∈ S3, 0 ≤ z ∧ z ≤ 255) ∧ n < 256 ∧ s < 600 ∧ n ≤ s) := hid ⟨hl1, hl2, hl3, hmore, hy1, hy2, hy3, hn, by omega, by omega⟩
  have gP : decide ((0 : Int) < (n : Int)) = P := by rw [← hP]; simp
  subst hai
  have HI := hid ha
  have ha1 : ¬ (ai : Int) < 0 := by omega
  have ha2 : ¬ (n : Int) ≤ (ai : Int) := by omega
  have ha3 : (0 : Int) ≤ (ai : Int) := by omega
  have ha4 : (ai : Int) < (n : Int) := by omega

  clear r0 r1 r2 l0 l1 l2 hg hgr hch hq hq2 hB hr hr1 hs hks hmore hl1 hl2 hl3 hy1 hy2 hy3 hS1 hS2 hS3 ha
  go_enter Try.func4, Try.ntmps4
  go_wp2_with (first
    | (go_at_call 5; (with_reducible refine (HG.out _).mono ?_); rintro e w1 ⟨rfl, hl⟩; have HX1 := hid (HX0.out.self hl); obtain ⟨k0, k1, k2, k3, k4, k5⟩ := HX1.out.cells; clear hl)
    | (go_at_call 8; ((with_reducible refine (HS1.out w1 (HW0.out.1.self HX1.out.low) (HW0.out.2.1.self HX1.out.low) (HW0.out.2.2.self HX1.out.low)).mono ?_); rintro e w2 ⟨u, rfl, ho, hl⟩; have HX2 := hid (HX1.out.self hl); obtain ⟨k0, k1, k2, k3, k4, k5⟩ := HX2.out.cells; obtain ⟨p1, q1, rfl, _⟩ := ho.slice; rw [HF.out.1] at ho ⊢; have HA2 := hid (kdc_own ho (by have := HF.out; omega) HF.out.2.2.2.2.1); clear ho hl)))
  go_at_call 8
  refine (HS2.out w2 (HW0.out.1.self HX2.out.low) (HW0.out.2.1.self HX2.out.low) (HW0.out.2.2.self HX2.out.low)).mono ?_
  rintro e w3 ⟨u, rfl, ho, hl⟩
  have HX3 := hid (HX2.out.self hl)
  obtain ⟨k0, k1, k2, k3, k4, k5⟩ := HX3.out.cells
  have HA3 := hid (HA2.out.self hl)
  obtain ⟨p2, q2, rfl, _⟩ := ho.slice
  rw [HF.out.2.1] at ho ⊢
  have HCa := (own_cap ho).1
  have HB3 : Hid (Rd .u8 w3 (.slice p2 n q2) S1) := hid (by rw [← HF.out.2.2.2.1]; exact rd_pre ho (by have := HF.out; omega) (by have := HF.out; omega) HF.out.2.2.2.2.2.1)
  have g8 : (n : Int) ≤ (q2 : Int) := by (have := HF.out; omega)
  clear ho hl HCa
  go_wp2_with (go_at_call 8; fail)
  go_at_call 8
  refine (HS3.out w3 (HW0.out.1.self HX3.out.low) (HW0.out.2.1.self HX3.out.low) (HW0.out.2.2.self HX3.out.low)).mono ?_
  rintro e w5 ⟨u, rfl, ho, hl⟩
  have HX5 := hid (HX3.out.self hl)
  obtain ⟨k0, k1, k2, k3, k4, k5⟩ := HX5.out.cells
  have HSm := hid (same_ns _ _ _ _ w5 (HB3.out.self hl) (HA3.out.self hl).rd rfl)
  obtain ⟨p3, q3, rfl, _⟩ := ho.slice
  rw [HF.out.2.2.1] at ho ⊢
  have HO5 : Hid (Own .u8 (w.heap.size + 1) 5 w5 (.slice p3 n q3) S3) := hid (own_base ho (Array.getElem?_eq_some_iff.1 HX3.out.blk).1)
  clear ho hl
  go_wp2_with (first
    | (go_at_call 10; (with_reducible refine (HSm.out).mono ?_); rintro e w5 ⟨rfl, rfl⟩))
  have HX6 : Hid (Xb w w5.drew B (n : Int) (.slice a0 L0 c0) (.slice a1 L1 c1) (.slice a2 L2 c2) f) := hid (HX5.out.self ((Below.refl _ _).drew))
  have HO6 : Hid (Own .u8 (w.heap.size + 1) 5 w5.drew (.slice p3 n q3) S3) := hid HO5.out.drew
  have HC6 := hid (kdc_own HO6.out (by have := HF.out; omega) HF.out.2.2.2.2.2.2.1)
  have HW6 : Hid (RdC w5.drew (.slice a0 L0 c0) z0 ∧ RdC w5.drew (.slice a1 L1 c1) z1 ∧ RdC w5.drew (.slice a2 L2 c2) z2) := hid ⟨HW0.out.1.self HX6.out.low, HW0.out.2.1.self HX6.out.low, HW0.out.2.2.self HX6.out.low⟩
  refine wp_region_noPanic ?_
  refine wp_region_held_drew (S := fun w' => Xb w w' B (n : Int) (.slice a0 L0 c0) (.slice a1 L1 c1) (.slice a2 L2 c2) f) (by kernel_rfl) (HX6.out) (fun h0 => ?_)
  generalize w5.drew = w6 at *
  refine wpAnyH_take (i := 0) (v := .pointer (some ⟨w.heap.size, 0, none⟩)) rfl (by kernel_rfl) (by kernel_rfl) (by kernel_rfl) (fun _ _ _ h => h) (.inl ⟨by rfl, fun w hw => by clear hw; go_simp⟩) h0 ?_
  try simp only [Act.put, lay_out]
  refine wpAnyH_take (i := 1) (v := .int .i64 B) rfl (by kernel_rfl) (by kernel_rfl) (by kernel_rfl) (fun _ _ _ h => h) (.inl ⟨by rfl, fun w' hw => by have hc0 := hw.cells.1; clear hw; go_simp⟩) h0 ?_
  try simp only [Act.put, lay_out]
  refine wpAnyH_take (i := 2) (v := .pointer (some ⟨w.heap.size, 2, none⟩)) rfl (by kernel_rfl) (by kernel_rfl) (by kernel_rfl) (fun _ _ _ h => h) (.inl ⟨by rfl, fun w hw => by clear hw; go_simp⟩) h0 ?_
  try simp only [Act.put, lay_out]
  refine wpAnyH_take (i := 3) (v := .slice a0 L0 c0) rfl (by kernel_rfl) (by kernel_rfl) (by kernel_rfl) (fun _ _ _ h => h) (.inl ⟨by rfl, fun w' hw => by have hc0 := hw.cells.2.2.1; clear hw; go_simp⟩) h0 ?_
  try simp only [Act.put, lay_out]
  refine wpAnyH_take (i := 4) (v := .pointer (some ⟨w.heap.size, 3, none⟩)) rfl (by kernel_rfl) (by kernel_rfl) (by kernel_rfl) (fun _ _ _ h => h) (.inl ⟨by rfl, fun w hw => by clear hw; go_simp⟩) h0 ?_
  try simp only [Act.put, lay_out]
  refine wpAnyH_take (i := 5) (v := .slice a1 L1 c1) rfl (by kernel_rfl) (by kernel_rfl) (by kernel_rfl) (fun _ _ _ h => h) (.inl ⟨by rfl, fun w' hw => by have hc0 := hw.cells.2.2.2.1; clear hw; go_simp⟩) h0 ?_
  try simp only [Act.put, lay_out]
  refine wpAnyH_take (i := 6) (v := .pointer (some ⟨w.heap.size, 4, none⟩)) rfl (by kernel_rfl) (by kernel_rfl) (by kernel_rfl) (fun _ _ _ h => h) (.inl ⟨by rfl, fun w hw => by clear hw; go_simp⟩) h0 ?_
  try simp only [Act.put, lay_out]
  refine wpAnyH_take (i := 7) (v := .slice a2 L2 c2) rfl (by kernel_rfl) (by kernel_rfl) (by kernel_rfl) (fun _ _ _ h => h) (.inl ⟨by rfl, fun w' hw => by have hc0 := hw.cells.2.2.2.2.1; clear hw; go_simp⟩) h0 ?_
  try simp only [Act.put, lay_out]
  refine wpAnyH_take (i := 8) (v := .slice p3 n q3) rfl (by kernel_rfl) (by kernel_rfl) (by kernel_rfl) (fun _ _ _ h => h) (.inl ⟨by rfl, fun w hw => by clear hw; go_simp⟩) h0 ?_
  try simp only [Act.put, lay_out]
  refine wpAnyH_take (i := 10) (v := .pointer (some ⟨w.heap.size, 1, none⟩)) rfl (by kernel_rfl) (by kernel_rfl) (by kernel_rfl) (fun _ _ _ h => h) (.inl ⟨by rfl, fun w hw => by clear hw; go_simp⟩) h0 ?_
  try simp only [Act.put, lay_out]
  refine wpAnyH_take (i := 11) (v := .int .i64 (n : Int)) rfl (by kernel_rfl) (by kernel_rfl) (by kernel_rfl) (fun _ _ _ h => h) (.inl ⟨by rfl, fun w' hw => by have hc0 := hw.cells.2.1; clear hw; go_simp⟩) h0 ?_
  try simp only [Act.put, lay_out]
  refine wpAnyH_take (i := 12) (v := .bool P) rfl (by kernel_rfl) (by kernel_rfl) (by kernel_rfl) (fun _ _ _ h => h) (.inl ⟨by rfl, fun w' hw => by clear hw; go_simp⟩) h0 ?_
  try simp only [Act.put, lay_out]
  refine wpAnyH_ready (rs := [9]) (by kernel_rfl) (by simp) (AllReadyH.cons rfl (fun K hK => ?_) AllReadyH.nil)
  rw [if_pos (by rfl)]
  go_simp
  go_at_call 13
  (with_reducible refine (HSy.out w6 HW6.out.1 HW6.out.2.1 HW6.out.2.2 _ _ HC6.out).mono ?_); rintro e w7 ⟨rfl, hl⟩
  have HX7 := hid (HX6.out.self hl)
  have HO7 := hid (own_up2 HO6.out hl)
  clear hl
  refine hK.out _ _ (HX7.out) (fun h1x => ?_)
  clear hK K
  try simp only [Act.put, lay_out]
  refine wpAnyH_take (i := 13) (v := .bool false) rfl (by kernel_rfl) (by kernel_rfl) (by kernel_rfl) (fun _ _ _ h => h) (.inl ⟨by rfl, fun w hw => by clear hw; go_simp⟩) h1x ?_
  try simp only [Act.put, lay_out]
  refine wpAnyH_done (by kernel_rfl) ?_ _
  refine NoPanic.normal ?_
  clear h0 h1x
  try simp only [Act.put, lay_out]
  obtain ⟨g3, q4, hv3, hB3, _, hc3, hf3, hs3⟩ := HO7.out.part (by rw [HF.out.2.2.1]; have := HI.out; omega)
  rw [HF.out.2.2.1] at hv3 hc3 hs3
  injection hv3 with hv1 hv2 hv3
  subst hv1 hv3
  have HBy := HF.out.2.2.2.2.2.2.1 (nth S3 ai) (by rw [nth_of (by rw [HF.out.2.2.1]; exact HI.out)]; exact List.getElem_mem _)
  have HFl := hid (flip_bit HBy)
  have hca := hc3 ai HI.out
  have hfa := hf3 ai
  have HO8 := hid (hs3 ai (bits .xor .u8 (nth S3 ai) 1) HI.out)
  have HL8 : Hid (Below w.heap.size w (w7.setCell ⟨g3, ai, none⟩ (.int .u8 (bits .xor .u8 (nth S3 ai) 1)))) := hid (HX7.out.low.setCell (Nat.le_of_succ_le hB3) _)
  have HX8 : Hid (Xb w (w7.setCell ⟨g3, ai, none⟩ (.int .u8 (bits .xor .u8 (nth S3 ai) 1))) B (n : Int) (.slice a0 L0 c0) (.slice a1 L1 c1) (.slice a2 L2 c2) f) := hid ⟨(heap_setCell_other w7 ⟨g3, ai, none⟩ w.heap.size _ (by show w.heap.size ≠ g3; omega)).trans HX7.out.blk, HL8.out⟩
  have HNe : Hid (S3.set ai (bits .xor .u8 (nth S3 ai) 1) ≠ S3) := hid (fun e => HFl.out.2.2 (by
    have : nth (S3.set ai (bits .xor .u8 (nth S3 ai) 1)) ai = nth S3 ai := congrArg (fun l => nth l ai) e
    rw [nth_set _ _ _ _ (by rw [HF.out.2.2.1]; exact HI.out), if_pos rfl] at this
    exact this))
  have HC8 : Hid (RdC (w7.setCell ⟨g3, ai, none⟩ (.int .u8 (bits .xor .u8 (nth S3 ai) 1))) (.slice (some ⟨g3, 0, none⟩) n q3) (S3.set ai (bits .xor .u8 (nth S3 ai) 1))) := hid (kdc_own HO8.out (by rw [List.length_set]; have := HF.out; omega) (fun z hz => by
    rcases List.mem_or_eq_of_mem_set hz with h | h
    · exact HF.out.2.2.2.2.2.2.1 z h
    · rw [h]; exact ⟨HFl.out.1, HFl.out.2.1⟩))
  have HSz := hid (HSyL.out _ _ _ (by rw [List.length_set]; exact HF.out.2.2.1) (HW0.out.1.self HL8.out) (HW0.out.2.1.self HL8.out) (HW0.out.2.2.self HL8.out) HC8.out)
  have hno : decide (0 < n ∧ S3 = S3.set ai (bits .xor .u8 (nth S3 ai) 1)) = false := decide_eq_false (fun h => HNe.out h.2.symm)
  rw [hno] at HSz
  obtain ⟨m0, m1, m2, m3, m4, m5⟩ := HX8.out.cells
  clear hc3 hf3 hs3 hno HBy
  go_wp2_with (first
    | (go_at_call 13; (with_reducible refine (HSz.out).mono ?_); rintro e w8 ⟨rfl, hl⟩; have HL9 := hid (HL8.out.trans (hl.mono HL8.out.size)); clear hl)
    | (go_at_call 6; (with_reducible refine (kawake_any _).mono ?_); rintro e w9 ⟨rfl, hl9⟩; have HW9 := hid (HL9.out.trans (hl9.mono HL9.out.size)); clear hl9))
  go_ret
  exact ⟨rfl, HW9.out⟩
theorem kfree_core (b0 n0 : Int) (v0 v1 v2 : Value) (n mo : Nat) (at_ : Int) (f : Bool) (z0 z1 z2 : List Int) (w : World) (r0 : RdC w v0 z0) (r1 : RdC w v1 z1) (r2 : RdC w v2 z2) (hn : n < 256) (hmo : mo < 256) :
    Calls Try.prog 4 #[.agg #[.int .i64 b0, .int .i64 n0, v0, v1, v2, .bool f], .int .u8 (n : Int), .int .u8 (mo : Int), .int .i64 at_] w fun e w' => e = .returned (.bool true) ∧ Below w.heap.size w w' := by
  obtain ⟨a0, c0, rfl, _⟩ := id r0.rd
  obtain ⟨a1, c1, rfl, _⟩ := id r1.rd
  obtain ⟨a2, c2, rfl, _⟩ := id r2.rd
  by_cases hg : 400 < z0.length ∨ 500 < z1.length ∨ 300 < z2.length
  · exact kfree_g b0 n0 a0 a1 a2 _ _ _ c0 c1 c2 n mo at_ f z0 z1 z2 w r0 r1 r2 rfl rfl rfl hn hmo hg
  · have hg2 : z0.length ≤ 400 ∧ z1.length ≤ 500 ∧ z2.length ≤ 300 := by omega
    by_cases h1 : at_ < 0
    · exact kfree_lo b0 n0 a0 a1 a2 _ _ _ c0 c1 c2 n mo at_ f z0 z1 z2 w r0 r1 r2 rfl rfl rfl hn hmo hg2 h1
    · by_cases h2 : (n : Int) ≤ at_
      · exact kfree_hi b0 n0 a0 a1 a2 _ _ _ c0 c1 c2 n mo at_ f z0 z1 z2 w r0 r1 r2 rfl rfl rfl hn hmo hg2 ⟨by omega, h2⟩
      · exact kfree_in b0 n0 a0 a1 a2 _ _ _ c0 c1 c2 n mo at_ f z0 z1 z2 w r0 r1 r2 rfl rfl rfl hn hmo hg2 at_.toNat (by omega) (by omega)
end Go.Proofs.Ythcjgjhoifnpjaa
