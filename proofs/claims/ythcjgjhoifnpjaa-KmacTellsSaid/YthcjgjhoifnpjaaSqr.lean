import Derived.Test.YthcjgjhoifnpjaaProg
import Derived.Test.YthcjgjhoifnpjaaSqq
set_option maxRecDepth 100000
/- Sponge: what is told of a message in parts. -/
namespace Go.Proofs.Ythcjgjhoifnpjaa
open Go.RowKit
set_option maxRecDepth 100000

/-- A slice's length is no more than its room. -/
def CapV (v : Value) : Prop := ∀ a n c, v = .slice a n c → n ≤ c ∧ c ≤ maxLen
/-- A call tells a row of its own, no longer than its room, and a number. -/
def OwF (w : World) (n : Nat) (zs : List Int) (e : Ending) (w' : World) : Prop := ∃ g, e = .returned (.tuple #[.slice (some ⟨g, 0, none⟩) n n, .int .i64 0]) ∧ Own .u8 w.heap.size 5 w' (.slice (some ⟨g, 0, none⟩) n n) zs ∧ Below w.heap.size w w'
theorem OwF.later {w w1 w' : World} {n : Nat} {zs : List Int} {e : Ending} (h : OwF w1 n zs e w') (hb : Below w.heap.size w w1) : OwF w n zs e w' := by
  obtain ⟨g, h1, h2, h3⟩ := h
  exact ⟨g, h1, own_base h2 hb.size, hb.trans (h3.mono hb.size)⟩
theorem OwF.rdf {w w' : World} {n : Nat} {zs : List Int} {e : Ending} (h : OwF w n zs e w') (hz : ∀ z ∈ zs, 0 ≤ z ∧ z ≤ 255) (hn : n ≤ 65536) : RdF w zs 0 e w' := by
  obtain ⟨g, h1, h2, h3⟩ := h
  have hl : zs.length = n := by obtain ⟨_, _, e, _⟩ := h2.slice; injection e with _ e _; exact e.symm
  refine ⟨_, h1, ⟨h2.rd (by show _ * 1 ≤ _; omega) (fun z h => WalkArith.wf_u8 (hz z h)), fun a n' c e => ?_⟩, h3⟩
  injection e with e1 e2 e3
  subst e2 e3
  exact ⟨Nat.le_refl _, (own_cap h2).2⟩
/-- i parts have been written. -/
structure Hs (w wr : World) (q : Nat) (mk : Int) (Z : Nat → List Int) (i : Nat) : Prop where
  obj : Wo wr w.heap.size (8 * q) mk (wkF q (ccat Z i)) ((ccat Z i).length % (8 * q)) false
  low : Only w.heap.size w wr
theorem ccat_bytes {Z : Nat → List Int} : ∀ {m : Nat}, (∀ i, i < m → ∀ z ∈ Z i, 0 ≤ z ∧ z ≤ 255) → ∀ z ∈ ccat Z m, 0 ≤ z ∧ z ≤ 255
  | 0, _, z, h => by cases h
  | m + 1, hz, z, h => (List.mem_append.1 h).elim (ccat_bytes (fun i hi => hz i (by omega)) z) (hz m (by omega) z)
set_option maxHeartbeats 1600000 in
theorem hashed_ok (q n c m cap : Nat) (mk : Int) (us : Nat → Value) (Z : Nat → List Int) (w : World) (hq : 1 ≤ q ∧ q ≤ 24) (hn : n ≤ 65536) (hm : 0 ≤ mk ∧ mk ≤ 255) (hmm : m ≤ 1000) (hc : ∀ i, i < m → w.cell? ⟨c, i, none⟩ = some (us i)) (hr : ∀ i, i < m → RdC w (us i) (Z i)) (hl : (ccat Z m).length ≤ 1000000) :
    Calls Try.prog 38 #[.int .i64 ((8 * q : Nat) : Int), .int .u8 mk, .int .i64 (n : Int), .slice (some ⟨c, 0, none⟩) m cap] w fun e w' => OwF w n (sumL (ccat Z m) (8 * q) mk n) e w' := by
  have hct : canT (n : Int) = true := decide_eq_true (by omega)
  have HCa := hid (cantell_any (n : Int) w)
  rw [hct] at HCa
  have HNw := hid (new_ok q mk w hq)
  have HZ : Hid (∀ i, i < m → ∀ z ∈ Z i, 0 ≤ z ∧ z ≤ 255) := hid fun i hi => rd_bytes (hr i hi).rd
  have HWr : Hid (∀ i, i < m → ∀ wr, Hs w wr q mk Z i → Calls Try.prog 47 #[.pointer (some ⟨w.heap.size, 0, none⟩), us i] wr fun e w' => e = .returned (.int .i64 0) ∧ Hs w w' q mk Z (i + 1)) := hid fun i hi wr h =>
    (write_any w.heap.size q mk (ccat Z i) (Z i) (us i) wr h.obj hq (ccat_bytes fun j hj => HZ.out j (by omega)) ((kept_rd (hr i hi).rd (Nat.le_refl _)).later h.low) (hr i hi).cap (by have := ccat_le Z (show i + 1 ≤ m by omega); rw [ccat, List.length_append] at this; omega)).mono (by
      rintro e w' ⟨rfl, h1, h2⟩
      exact ⟨rfl, h1, h.low.trans h2⟩)
  have HRe : Hid (∀ wr, Hs w wr q mk Z m → Calls Try.prog 48 #[.pointer (some ⟨w.heap.size, 0, none⟩), .int .i64 (n : Int)] wr fun e w' => OwF w n (sumL (ccat Z m) (8 * q) mk n) e w') := hid fun wr h =>
    (read_any w.heap.size q n mk (ccat Z m) wr h.obj hq hm (ccat_bytes HZ.out) hn).mono (by
      rintro e w' ⟨g, rfl, h1, h2⟩
      have h3 := h.low.trans h2
      exact ⟨g, rfl, own_base h1 h.low.size, h3.below (Nat.le_refl _) (Nat.le_refl _)⟩)
  have HC : Hid (∀ i, i < m → ∀ wr, Only w.heap.size w wr → wr.cell? ⟨c, i, none⟩ = some (us i)) := hid fun i hi wr ho => by
    have hcl : c < w.heap.size := World.block_lt_of_cell? w ⟨c, i, none⟩ (hc i hi)
    rw [ho.cell (p := ⟨c, i, none⟩) hcl (by show c ≠ w.heap.size; omega)]; exact hc i hi
  have HM := hid hmm
  have HG : Hid (∀ w', Wo w' w.heap.size (8 * q) mk (fun _ => 0) 0 false → Below w.heap.size w w' → Hs w w' q mk Z 0) := hid fun w' h1 h2 => ⟨by rw [show ccat Z 0 = [] from rfl, wk_nil]; exact h1.to rfl (Nat.zero_mod _).symm rfl, Only.of_below h2⟩
  clear hct hq hn hm hc hr hl hmm
  obtain ⟨S, hS⟩ : ∃ S, sumL (ccat Z m) (8 * q) mk n = S := ⟨_, rfl⟩
  rw [hS] at HRe ⊢
  clear hS
  obtain ⟨R, hR⟩ : ∃ R, 8 * q = R := ⟨_, rfl⟩
  rw [hR] at HNw HG ⊢
  clear hR
  go_enter Try.func38, Try.ntmps38
  go_wp2_with (first
    | (go_at_call 45; (with_reducible refine (HCa.out).mono ?_); rintro e w1 ⟨rfl, rfl⟩)
    | (go_at_call 46; (with_reducible refine (HNw.out).mono ?_); rintro e w2 ⟨rfl, h1, h2, h3⟩; have HI0 := hid (HG.out _ h1 h2); clear h1 h2 h3))
  go_loopw [28] (fun i wr => ∃ K : Nat, K ≤ m ∧ i = .int .i64 K ∧ Hs w1 wr q mk Z K) (fun i _ => m - (intOf i).toNat)
  case atStart => exact ⟨0, Nat.zero_le _, rfl, HI0.out⟩
  case round =>
    obtain ⟨K, hK, rfl, hI⟩ := hrel
    have HJ := hid hI
    clear hI HI0
    by_cases hlt : K < m
    · have c1 := HC.out K hlt wr HJ.out.low
      have HWk := hid (HWr.out K hlt wr HJ.out)
      have n1 : (K : Int) < (m : Int) := by omega
      have n2 : (0 : Int) ≤ (K : Int) := by omega
      have n3 : (K : Int) ≤ 1000 := by have := HM.out; omega
      have HKm : Hid (K < m) := hid hlt
      generalize us K = u at *
      clear hlt hK
      go_wp2_with (first
        | (go_at_call 47; (with_reducible refine (HWk.out).mono ?_); rintro e w3 ⟨rfl, h3⟩; have HJ3 := hid h3; clear h3))
      go_roundw
      case rel => exact ⟨K + 1, HKm.out, by go_num, HJ3.out⟩
      case measure => have := HKm.out; simp [intOf]; omega
    · obtain rfl : K = m := by omega
      have n3 : ¬ (K : Int) < (K : Int) := by omega
      have HRk := hid (HRe.out wr HJ.out)
      go_wp2_with (first
        | (go_at_call 48; (with_reducible refine (HRk.out).mono ?_); rintro e w4 ⟨g, rfl, h4, h5⟩; have HO4 := hid h4; have HB4 := hid h5; clear h4 h5))
      go_ret2
      exact ⟨g, rfl, HO4.out, HB4.out⟩
theorem hashed_long (rate mk n : Int) (v : Value) (w : World) (h : canT n = false) : Calls Try.prog 38 #[.int .i64 rate, .int .u8 mk, .int .i64 n, v] w fun e w' => e = .returned (.tuple #[.slice none 0 0, .int .i64 1]) ∧ w' = w := by
  have HCa := hid (cantell_any n w)
  rw [h] at HCa
  go_enter Try.func38, Try.ntmps38
  go_wp2_with (first
    | (go_at_call 45; (with_reducible refine (HCa.out).mono ?_); rintro e w1 ⟨rfl, rfl⟩))
  go_ret2
  exact ⟨rfl, rfl⟩
theorem hashed_bad (rate mk n : Int) (v : Value) (w : World) (h : canT n = true) (hr : rad rate = false) : Calls Try.prog 38 #[.int .i64 rate, .int .u8 mk, .int .i64 n, v] w fun e w' => e = .returned (.tuple #[.slice none 0 0, .int .i64 1]) ∧ w' = w := by
  have HCa := hid (cantell_any n w)
  rw [h] at HCa
  have HNw := hid (new_bad rate mk w hr)
  go_enter Try.func38, Try.ntmps38
  go_wp2_with (first
    | (go_at_call 45; (with_reducible refine (HCa.out).mono ?_); rintro e w1 ⟨rfl, rfl⟩)
    | (go_at_call 46; (with_reducible refine (HNw.out).mono ?_); rintro e w2 ⟨rfl, rfl⟩))
  go_ret2
  exact ⟨rfl, rfl⟩
end Go.Proofs.Ythcjgjhoifnpjaa

/- Sponge: Sum, Sha3, Shake, Named, by the program. -/
namespace Go.Proofs.Ythcjgjhoifnpjaa
open Go.RowKit
set_option maxRecDepth 100000

theorem RdC.alloc {w : World} {v : Value} {zs : List Int} (h : RdC w v zs) (o : Obj) : RdC (w.alloc o) v zs := h.self ((Below.refl _ _).alloc (Nat.le_refl _) _)
theorem hashed1 (v : Value) (zs : List Int) (q n : Nat) (mk : Int) (w : World) (h : RdC w v zs) (hl : zs.length ≤ 100000) (hq : 1 ≤ q ∧ q ≤ 24) (hm : 0 ≤ mk ∧ mk ≤ 255) (hn : n ≤ 65536) :
    Calls Try.prog 38 #[.int .i64 ((8 * q : Nat) : Int), .int .u8 mk, .int .i64 (n : Int), .slice (some ⟨w.heap.size, 0, none⟩) 1 1] (w.alloc (.cells #[v] 22)) fun e w' => OwF w n (sumL zs (8 * q) mk n) e w' := by
  have he : ccat (fun _ => zs) 1 = zs := List.nil_append _
  have := hashed_ok q n w.heap.size 1 1 mk (fun _ => v) (fun _ => zs) (w.alloc (.cells #[v] 22)) hq hn hm (by decide) (fun i hi => (show i = 0 by omega) ▸ cell_new0 w v 22) (fun _ _ => h.alloc _) (by rw [he]; omega)
  rw [he] at this
  exact this.mono fun _ _ h => h.later ((Below.refl _ _).alloc (Nat.le_refl _) _)
theorem cell_new2 (w : World) (u v : Value) (E : TypeId) : (w.alloc (.cells #[u, v] E)).cell? ⟨w.heap.size, 0, none⟩ = some u ∧ (w.alloc (.cells #[u, v] E)).cell? ⟨w.heap.size, 1, none⟩ = some v := by
  rw [cell_made, cell_made]; exact ⟨rfl, rfl⟩
theorem hashed2 (u v : Value) (ys zs : List Int) (q n : Nat) (mk : Int) (w : World) (h1 : RdC w u ys) (h2 : RdC w v zs) (hl : ys.length + zs.length ≤ 100000) (hq : 1 ≤ q ∧ q ≤ 24) (hm : 0 ≤ mk ∧ mk ≤ 255) (hn : n ≤ 65536) :
    Calls Try.prog 38 #[.int .i64 ((8 * q : Nat) : Int), .int .u8 mk, .int .i64 (n : Int), .slice (some ⟨w.heap.size, 0, none⟩) 2 2] (w.alloc (.cells #[u, v] 22)) fun e w' => OwF w n (sumL (ys ++ zs) (8 * q) mk n) e w' := by
  have he : ccat (fun i => if i = 0 then ys else zs) 2 = ys ++ zs := by simp [ccat]
  have := hashed_ok q n w.heap.size 2 2 mk (fun i => if i = 0 then u else v) (fun i => if i = 0 then ys else zs) (w.alloc (.cells #[u, v] 22)) hq hn hm (by decide)
    (fun i hi => by
      rcases (by omega : i = 0 ∨ i = 1) with rfl | rfl
      · exact (cell_new2 w u v 22).1
      · exact (cell_new2 w u v 22).2)
    (fun i hi => by
      rcases (by omega : i = 0 ∨ i = 1) with rfl | rfl
      · exact h1.alloc _
      · exact h2.alloc _) (by rw [he, List.length_append]; omega)
  rw [he] at this
  exact this.mono fun _ _ h => h.later ((Below.refl _ _).alloc (Nat.le_refl _) _)
theorem RdC.lit {w : World} {v : Value} {zs : List Int} (h : RdC w v zs) : ∃ p L c, v = .slice p L c := by
  obtain ⟨p, c, e, _⟩ := h.rd
  exact ⟨p, _, c, e⟩
theorem sum_bytes (zs : List Int) (r : Nat) (mk : Int) (n : Nat) : ∀ z ∈ sumL zs r mk n, 0 ≤ z ∧ z ≤ 255 := told_bytes _ _ _
theorem OwF.rde {w w' : World} {n : Nat} {zs : List Int} {e : Ending} (h : OwF w n zs e w') (hz : ∀ z ∈ zs, 0 ≤ z ∧ z ≤ 255) (hn : n ≤ 65536) : RdE w zs 0 e w' := (h.rdf hz hn).weak
/-- A hash of a number that may be, its length too. -/
theorem shake_own (b : Int) (q n : Nat) (v : Value) (zs : List Int) (w : World) (hb : anyL b = true) (hr : raN b = ((8 * q : Nat) : Int)) (hq : 1 ≤ q ∧ q ≤ 24) (h : RdC w v zs) (hl : zs.length ≤ 100000) (hn : n ≤ 65536) :
    Calls Try.prog 36 #[.int .i64 b, v, .int .i64 (n : Int)] w fun e w' => OwF w n (sumL zs (8 * q) 31 n) e w' := by
  have HA := hid (anylen_any b w)
  rw [hb] at HA
  have HR := hid (fun w => srate_any b w)
  rw [hr] at HR
  obtain ⟨p, L, cp, rfl⟩ := h.lit
  have HH := hid (hashed1 (.slice p L cp) zs q n 31 w h hl hq (by decide) hn)
  clear h hl hq hn hb hr
  generalize 8 * q = R at *
  obtain ⟨S, hS⟩ : ∃ S, sumL zs R 31 n = S := ⟨_, rfl⟩
  rw [hS] at HH ⊢
  clear hS
  go_enter Try.func36, Try.ntmps36
  go_wp2_with (first
    | (go_at_call 37; (with_reducible refine (HA.out).mono ?_); rintro e w1 ⟨rfl, rfl⟩)
    | (go_at_call 16; (with_reducible refine (HR.out _).mono ?_); rintro e w1 ⟨rfl, rfl⟩)
    | (go_at_call 38; (with_reducible refine (HH.out).mono ?_); rintro e w2 ⟨g, rfl, ho, hl⟩; have HO := hid ho; have HL := hid hl; clear ho hl))
  go_ret2
  exact ⟨g, rfl, HO.out, HL.out⟩
theorem shake_no (b n : Int) (v : Value) (zs : List Int) (w : World) (h : RdC w v zs) (hc : chE b n = 1) : Calls Try.prog 36 #[.int .i64 b, v, .int .i64 n] w fun e w' => e = .returned (.tuple #[.slice none 0 0, .int .i64 1]) ∧ Below w.heap.size w w' := by
  obtain ⟨p, L, cp, rfl⟩ := h.lit
  clear h
  have HA := hid (anylen_any b w)
  by_cases hb : anyL b = true
  · rw [hb] at HA
    have hct : canT n = false := decide_eq_false (fun h => by
      have h2 := of_decide_eq_true hb
      unfold chE at hc
      rw [if_neg (by omega)] at hc
      exact absurd hc (by decide))
    have HR := hid (fun w => srate_any b w)
    have HH := hid (fun rate x w => hashed_long rate 31 n x w hct)
    have HB : Hid (Below w.heap.size w (w.alloc (.cells #[.slice p L cp] 22))) := hid ((Below.refl _ _).alloc (Nat.le_refl _) _)
    clear hc hb hct
    generalize raN b = R at *
    go_enter Try.func36, Try.ntmps36
    go_wp2_with (first
      | (go_at_call 37; (with_reducible refine (HA.out).mono ?_); rintro e w1 ⟨rfl, rfl⟩)
      | (go_at_call 16; (with_reducible refine (HR.out _).mono ?_); rintro e w1 ⟨rfl, rfl⟩)
      | (go_at_call 38; (with_reducible refine (HH.out _ _ _).mono ?_); rintro e w2 ⟨rfl, rfl⟩))
    go_ret2
    exact ⟨rfl, HB.out⟩
  · have hb : anyL b = false := by simpa using hb
    rw [hb] at HA
    clear hc hb
    go_enter Try.func36, Try.ntmps36
    go_wp2_with (first
      | (go_at_call 37; (with_reducible refine (HA.out).mono ?_); rintro e w1 ⟨rfl, rfl⟩))
    go_ret2
    exact ⟨rfl, Below.refl _ _⟩
theorem any_of {b n : Int} (h : chE b n = 0) : anyL b = true := by
  unfold chE at h
  by_cases h3 : (b ≠ 128 ∧ b ≠ 256) ∨ n < 0 ∨ 65536 < n
  · rw [if_pos h3] at h; exact absurd h (by decide)
  · exact decide_eq_true (by omega)
theorem sshake_i (b n : Int) (v : Value) (zs : List Int) (w : World) (h : RdC w v zs) (hl : zs.length ≤ 100000) :
    Calls Try.prog 36 #[.int .i64 b, v, .int .i64 n] w fun e w' => RdE w (skL b n zs) (chE b n) e w' := by
  by_cases h1 : chE b n = 0
  · have hb := any_of h1
    obtain ⟨q, m, hq, h3, rfl, h4⟩ := chE_q h1
    rw [skL, if_pos h1, h1, hq, Int.toNat_natCast, Int.toNat_natCast]
    exact (shake_own b q m v zs w hb hq h3 h hl h4).mono fun e w' ho => ho.rde (told_bytes _ _ _) h4
  · rw [skL, if_neg h1, chE_no h1]
    exact (shake_no b n v zs w h (chE_no h1)).mono (by rintro e w' ⟨rfl, hb⟩; exact ⟨_, rfl, rd_nil _, hb⟩)
/-- Both, put one behind the other, and padded. -/
theorem joined2 (u v : Value) (ys zs : List Int) (w : World) (h1 : Rd .u8 w u ys) (h2 : Rd .u8 w v zs) (hl1 : ys.length ≤ 5000) (hl2 : zs.length ≤ 5000) :
    Calls Try.prog 28 #[.slice (some ⟨w.heap.size, 0, none⟩) 2 2] (w.alloc (.cells #[u, v] 22)) fun e w' => ∃ x, e = .returned x ∧ Rd .u8 w' x (sto ys ++ sto zs) ∧ Below w.heap.size w w' := by
  have hb : Below w.heap.size w (w.alloc (.cells #[u, v] 22)) := (Below.refl _ _).alloc (Nat.le_refl _) _
  have he : ccat (fun i => sto (if i = 0 then ys else zs)) 2 = sto ys ++ sto zs := by simp [ccat]
  have h5 := sto_le5 hl1
  have h6 := sto_le5 hl2
  have := cjoin_any (some ⟨w.heap.size, 0, none⟩) 2 2 (fun i => if i = 0 then u else v) (fun i => if i = 0 then ys else zs) (w.alloc (.cells #[u, v] 22))
    ⟨fun _ => ⟨w.heap.size, 0, rfl, by simp, fun i hi => by
      rcases (by omega : i = 0 ∨ i = 1) with rfl | rfl
      · exact (cell_new2 w u v 22).1
      · exact (cell_new2 w u v 22).2⟩, fun i hi => by
      rcases (by omega : i = 0 ∨ i = 1) with rfl | rfl
      · exact h1.self hb
      · exact h2.self hb⟩ (by decide) (by rw [he, List.length_append]; omega)
  rw [he] at this
  refine this.mono ?_
  rintro e w' ⟨x, rfl, ho, hl⟩
  refine ⟨x, rfl, ho.rd (by rw [List.length_append]; show _ * 1 ≤ _; omega) (fun z hz => ?_), hb.trans (hl.mono hb.size)⟩
  rcases List.mem_append.1 hz with hz | hz
  · exact sto_wf5 hl1 (wfs_of h1) z hz
  · exact sto_wf5 hl2 (wfs_of h2) z hz
theorem padded (v : Value) (zs : List Int) (q : Nat) (w : World) (h : Rd .u8 w v zs) (hq : 1 ≤ q ∧ q ≤ 24) (hl : zs.length ≤ 10018) :
    Calls Try.prog 14 #[v, .int .i64 ((8 * q : Nat) : Int)] w fun e w' => ∃ p L c, e = .returned (.tuple #[.slice p L c, .int .i64 0]) ∧ RdC w' (.slice p L c) (cpd zs (8 * q)) ∧ Below w.heap.size w w' := by
  refine (cpad_good v zs (8 * q) w h (by omega) (by omega)).mono ?_
  rintro e w' ⟨hb, ⟨m, u, e1, h1, h2, rfl, ho⟩ | ⟨h1, _⟩⟩
  · obtain rfl : m = 8 * q := by omega
    have hle := cpd_le (zs := zs) ⟨h1, h2⟩ (by omega)
    obtain ⟨p, c, rfl, _⟩ := ho.slice
    refine ⟨p, _, c, rfl, ⟨ho.rd (by show _ * 1 ≤ _; omega) (cpd_wf h2 (wfs_of h)), fun a n c e => ?_⟩, hb⟩
    injection e with e1 e2 e3
    subst e2 e3
    exact own_cap ho
  · omega
theorem named_own (b : Int) (q n : Nat) (xn xc xm : Value) (zn zc zm : List Int) (w : World) (hb : anyL b = true) (hr : raN b = ((8 * q : Nat) : Int)) (hq : 1 ≤ q ∧ q ≤ 24) (hn : RdC w xn zn) (hc : RdC w xc zc) (hm : RdC w xm zm) (hln : zn.length ≤ 5000) (hlc : zc.length ≤ 5000) (hlm : zm.length ≤ 5000) (hk : n ≤ 65536) :
    Calls Try.prog 29 #[.int .i64 b, xn, xc, xm, .int .i64 (n : Int)] w fun e w' => OwF w n (namL zn zc zm (8 * q) n) e w' := by
  by_cases h0 : zn.length = 0 ∧ zc.length = 0
  · rw [namL, if_pos h0]
    have HS := hid (shake_own b q n xm zm w hb hr hq hm (by omega) hk)
    obtain ⟨pn, cn, rfl, _⟩ := hn.rd
    obtain ⟨pc, cc, rfl, _⟩ := hc.rd
    rw [h0.1, h0.2]
    clear hb hr hq hn hc hm hln hlc hlm hk h0
    generalize sumL zm (8 * q) 31 n = S at *
    go_enter Try.func29, Try.ntmps29
    go_wp2_with (first
      | (go_at_call 36; (with_reducible refine (HS.out).mono ?_); rintro e w2 ⟨g, rfl, ho, hl⟩; have HO := hid ho; have HL := hid hl; clear ho hl))
    go_ret2
    exact ⟨g, rfl, HO.out, HL.out⟩
  · rw [namL, if_neg h0]
    have HA := hid (anylen_any b w)
    rw [hb] at HA
    have HR := hid (fun w => srate_any b w)
    rw [hr] at HR
    have HJ := hid (joined2 xn xc zn zc w hn.rd hc.rd hln hlc)
    have HP := hid (fun v w (h : Rd .u8 w v (sto zn ++ sto zc)) => padded v (sto zn ++ sto zc) q w h hq (by rw [List.length_append]; have := sto_le5 hln; have := sto_le5 hlc; omega))
    have hpl : (cpd (sto zn ++ sto zc) (8 * q)).length + zm.length ≤ 100000 := by
      have h5 := sto_le5 hln
      have h6 := sto_le5 hlc
      have h7 := cpd_le (zs := sto zn ++ sto zc) (n := 8 * q) (by omega) (by rw [List.length_append]; omega)
      rw [List.length_append] at h7
      omega
    obtain ⟨pm', Lm, cm, rfl⟩ := hm.lit
    have HH := hid (fun u w h1 h2 => hashed2 u (.slice pm' Lm cm) (cpd (sto zn ++ sto zc) (8 * q)) zm q n 4 w h1 h2 hpl hq (by decide) hk)
    have HM := hid hm
    have HZ : Hid (¬ (zn.length = 0 ∧ zc.length = 0)) := hid h0
    obtain ⟨pn, cn, rfl, _⟩ := hn.rd
    obtain ⟨pc, cc, rfl, _⟩ := hc.rd
    obtain ⟨Ln, hLn⟩ : ∃ Ln, zn.length = Ln := ⟨_, rfl⟩
    obtain ⟨Lc, hLc⟩ : ∃ Lc, zc.length = Lc := ⟨_, rfl⟩
    rw [hLn, hLc] at h0
    rw [hLn] at HJ
    rw [hLc] at HJ
    rw [hLn, hLc, nmL]
    clear hb hr hq hn hc hm hln hlc hlm hk hpl hLn hLc HZ
    obtain ⟨X, hX⟩ : ∃ X, cpd (sto zn ++ sto zc) (8 * q) = X := ⟨_, rfl⟩
    rw [hX] at HP HH ⊢
    obtain ⟨Y, hY⟩ : ∃ Y, sto zn ++ sto zc = Y := ⟨_, rfl⟩
    rw [hY] at HJ HP
    obtain ⟨S, hS⟩ : ∃ S, sumL (X ++ zm) (8 * q) 4 n = S := ⟨_, rfl⟩
    rw [hS] at HH ⊢
    obtain ⟨R, hR⟩ : ∃ R, 8 * q = R := ⟨_, rfl⟩
    rw [hR] at HR HP HH
    clear hX hY hS hR
    by_cases hn0 : Ln = 0
    · have n1 : (Ln : Int) = 0 := by omega
      have n2 : ¬ (Lc : Int) = 0 := by omega
      clear hn0 h0
      go_enter Try.func29, Try.ntmps29
      go_wp2_with (first
        | (go_at_call 37; (with_reducible refine (HA.out).mono ?_); rintro e w1 ⟨rfl, rfl⟩)
        | (go_at_call 16; (with_reducible refine (HR.out _).mono ?_); rintro e w1 ⟨rfl, rfl⟩)
        | (go_at_call 28; (with_reducible refine (HJ.out).mono ?_); rintro e w2 ⟨x2, rfl, h2, b2⟩; have HJ2 := hid h2; have HB2 := hid b2; clear h2 b2)
        | (go_at_call 14; (with_reducible refine (HP.out _ _ HJ2.out).mono ?_); rintro e w3 ⟨p3, L3, c3, rfl, h3, b3⟩; have HP3 := hid h3; have HB3 := hid (HB2.out.trans (b3.mono HB2.out.size)); clear h3 b3)
        | (go_at_call 38; (with_reducible refine (HH.out (.slice p3 L3 c3) w3 HP3.out (HM.out.self HB3.out)).mono ?_); rintro e w4 h4; have HO := hid (h4.later HB3.out); obtain ⟨g, rfl, _⟩ := h4))
      go_ret2
      obtain ⟨g2, e1, h1, h2⟩ := HO.out
      simp at e1
      subst e1
      exact ⟨_, rfl, h1, h2⟩
    · have n1 : ¬ (Ln : Int) = 0 := by omega
      clear hn0 h0
      go_enter Try.func29, Try.ntmps29
      go_wp2_with (first
        | (go_at_call 37; (with_reducible refine (HA.out).mono ?_); rintro e w1 ⟨rfl, rfl⟩)
        | (go_at_call 16; (with_reducible refine (HR.out _).mono ?_); rintro e w1 ⟨rfl, rfl⟩)
        | (go_at_call 28; (with_reducible refine (HJ.out).mono ?_); rintro e w2 ⟨x2, rfl, h2, b2⟩; have HJ2 := hid h2; have HB2 := hid b2; clear h2 b2)
        | (go_at_call 14; (with_reducible refine (HP.out _ _ HJ2.out).mono ?_); rintro e w3 ⟨p3, L3, c3, rfl, h3, b3⟩; have HP3 := hid h3; have HB3 := hid (HB2.out.trans (b3.mono HB2.out.size)); clear h3 b3)
        | (go_at_call 38; (with_reducible refine (HH.out (.slice p3 L3 c3) w3 HP3.out (HM.out.self HB3.out)).mono ?_); rintro e w4 h4; have HO := hid (h4.later HB3.out); obtain ⟨g, rfl, _⟩ := h4))
      go_ret2
      obtain ⟨g2, e1, h1, h2⟩ := HO.out
      simp at e1
      subst e1
      exact ⟨_, rfl, h1, h2⟩
theorem named_no (b n : Int) (xn xc xm : Value) (zn zc zm : List Int) (w : World) (hc : chE b n = 1) (hxn : RdC w xn zn) (hxc : RdC w xc zc) (hxm : RdC w xm zm) (hln : zn.length ≤ 5000) (hlc : zc.length ≤ 5000) (_ : zm.length ≤ 5000) :
    Calls Try.prog 29 #[.int .i64 b, xn, xc, xm, .int .i64 n] w fun e w' => e = .returned (.tuple #[.slice none 0 0, .int .i64 1]) ∧ Below w.heap.size w w' := by
  by_cases h0 : zn.length = 0 ∧ zc.length = 0
  · have HS := hid (shake_no b n xm zm w hxm hc)
    obtain ⟨pn, cn, rfl, _⟩ := hxn.rd
    obtain ⟨pc, cc, rfl, _⟩ := hxc.rd
    rw [h0.1, h0.2]
    clear hc hxn hxc hxm hln hlc h0
    go_enter Try.func29, Try.ntmps29
    go_wp2_with (first
      | (go_at_call 36; (with_reducible refine (HS.out).mono ?_); rintro e w2 ⟨rfl, hl⟩; have HL := hid hl; clear hl))
    go_ret2
    exact ⟨rfl, HL.out⟩
  · have HA := hid (anylen_any b w)
    obtain ⟨pn, cn, rfl, _⟩ := hxn.rd
    obtain ⟨pc, cc, rfl, _⟩ := hxc.rd
    obtain ⟨pm', Lm, cm, rfl⟩ := hxm.lit
    by_cases hb : anyL b = true
    · rw [hb] at HA
      have hb2 : b = 128 ∨ b = 256 := of_decide_eq_true hb
      have hct : canT n = false := decide_eq_false (fun h => by
        unfold chE at hc
        rw [if_neg (by omega)] at hc
        exact absurd hc (by decide))
      obtain ⟨q, hrq, hq⟩ := raN_q (b := b) (by rcases hb2 with rfl | rfl <;> decide)
      have HR := hid (fun w => srate_any b w)
      rw [hrq] at HR
      have HJ := hid (joined2 (.slice pn zn.length cn) (.slice pc zc.length cc) zn zc w hxn.rd hxc.rd hln hlc)
      have HP := hid (fun v w (h : Rd .u8 w v (sto zn ++ sto zc)) => padded v (sto zn ++ sto zc) q w h hq (by rw [List.length_append]; have := sto_le5 hln; have := sto_le5 hlc; omega))
      have HH := hid (fun rate x w => hashed_long rate 4 n x w hct)
      obtain ⟨Ln, hLn⟩ : ∃ Ln, zn.length = Ln := ⟨_, rfl⟩
      obtain ⟨Lc, hLc⟩ : ∃ Lc, zc.length = Lc := ⟨_, rfl⟩
      rw [hLn, hLc] at h0
      rw [hLn, hLc] at HJ
      rw [hLn, hLc]
      clear hc hxn hxc hxm hln hlc hLn hLc hb hb2 hct hrq hq
      obtain ⟨X, hX⟩ : ∃ X, cpd (sto zn ++ sto zc) (8 * q) = X := ⟨_, rfl⟩
      rw [hX] at HP
      obtain ⟨Y, hY⟩ : ∃ Y, sto zn ++ sto zc = Y := ⟨_, rfl⟩
      rw [hY] at HJ HP
      obtain ⟨R, hR⟩ : ∃ R, 8 * q = R := ⟨_, rfl⟩
      rw [hR] at HR HP
      clear hX hY hR
      by_cases hn0 : Ln = 0
      · have n1 : (Ln : Int) = 0 := by omega
        have n2 : ¬ (Lc : Int) = 0 := by omega
        clear hn0 h0
        go_enter Try.func29, Try.ntmps29
        go_wp2_with (first
          | (go_at_call 37; (with_reducible refine (HA.out).mono ?_); rintro e w1 ⟨rfl, rfl⟩)
          | (go_at_call 16; (with_reducible refine (HR.out _).mono ?_); rintro e w1 ⟨rfl, rfl⟩)
          | (go_at_call 28; (with_reducible refine (HJ.out).mono ?_); rintro e w2 ⟨x2, rfl, h2, b2⟩; have HJ2 := hid h2; have HB2 := hid b2; clear h2 b2)
          | (go_at_call 14; (with_reducible refine (HP.out _ _ HJ2.out).mono ?_); rintro e w3 ⟨p3, L3, c3, rfl, h3, b3⟩; have HB3 := hid (HB2.out.trans (b3.mono HB2.out.size)); clear h3 b3)
          | (go_at_call 38; (with_reducible refine (HH.out _ _ _).mono ?_); rintro e w4 ⟨rfl, rfl⟩))
        go_ret2
        exact ⟨rfl, HB3.out.alloc HB3.out.size _⟩
      · have n1 : ¬ (Ln : Int) = 0 := by omega
        clear hn0 h0
        go_enter Try.func29, Try.ntmps29
        go_wp2_with (first
          | (go_at_call 37; (with_reducible refine (HA.out).mono ?_); rintro e w1 ⟨rfl, rfl⟩)
          | (go_at_call 16; (with_reducible refine (HR.out _).mono ?_); rintro e w1 ⟨rfl, rfl⟩)
          | (go_at_call 28; (with_reducible refine (HJ.out).mono ?_); rintro e w2 ⟨x2, rfl, h2, b2⟩; have HJ2 := hid h2; have HB2 := hid b2; clear h2 b2)
          | (go_at_call 14; (with_reducible refine (HP.out _ _ HJ2.out).mono ?_); rintro e w3 ⟨p3, L3, c3, rfl, h3, b3⟩; have HB3 := hid (HB2.out.trans (b3.mono HB2.out.size)); clear h3 b3)
          | (go_at_call 38; (with_reducible refine (HH.out _ _ _).mono ?_); rintro e w4 ⟨rfl, rfl⟩))
        go_ret2
        exact ⟨rfl, HB3.out.alloc HB3.out.size _⟩
    · have hb : anyL b = false := by simpa using hb
      rw [hb] at HA
      obtain ⟨Ln, hLn⟩ : ∃ Ln, zn.length = Ln := ⟨_, rfl⟩
      obtain ⟨Lc, hLc⟩ : ∃ Lc, zc.length = Lc := ⟨_, rfl⟩
      rw [hLn, hLc] at h0
      rw [hLn, hLc]
      clear hc hxn hxc hxm hln hlc hLn hLc hb
      by_cases hn0 : Ln = 0
      · have n1 : (Ln : Int) = 0 := by omega
        have n2 : ¬ (Lc : Int) = 0 := by omega
        clear hn0 h0
        go_enter Try.func29, Try.ntmps29
        go_wp2_with (first
          | (go_at_call 37; (with_reducible refine (HA.out).mono ?_); rintro e w1 ⟨rfl, rfl⟩))
        go_ret2
        exact ⟨rfl, Below.refl _ _⟩
      · have n1 : ¬ (Ln : Int) = 0 := by omega
        clear hn0 h0
        go_enter Try.func29, Try.ntmps29
        go_wp2_with (first
          | (go_at_call 37; (with_reducible refine (HA.out).mono ?_); rintro e w1 ⟨rfl, rfl⟩))
        go_ret2
        exact ⟨rfl, Below.refl _ _⟩
theorem snamed_i (b n : Int) (xn xc xm : Value) (zn zc zm : List Int) (w : World) (hn : RdC w xn zn) (hc : RdC w xc zc) (hm : RdC w xm zm) (hln : zn.length ≤ 5000) (hlc : zc.length ≤ 5000) (hlm : zm.length ≤ 5000) :
    Calls Try.prog 29 #[.int .i64 b, xn, xc, xm, .int .i64 n] w fun e w' => RdE w (skN b n zn zc zm) (chE b n) e w' := by
  by_cases h1 : chE b n = 0
  · have hb := any_of h1
    obtain ⟨q, m, hq, h3, rfl, h4⟩ := chE_q h1
    rw [skN, if_pos h1, h1, hq, Int.toNat_natCast, Int.toNat_natCast]
    exact (named_own b q m xn xc xm zn zc zm w hb hq h3 hn hc hm hln hlc hlm h4).mono fun e w' ho => ho.rde (by unfold namL; split <;> exact told_bytes _ _ _) h4
  · rw [skN, if_neg h1, chE_no h1]
    exact (named_no b n xn xc xm zn zc zm w (chE_no h1) hn hc hm hln hlc hlm).mono (by rintro e w' ⟨rfl, hb⟩; exact ⟨_, rfl, rd_nil _, hb⟩)
end Go.Proofs.Ythcjgjhoifnpjaa
