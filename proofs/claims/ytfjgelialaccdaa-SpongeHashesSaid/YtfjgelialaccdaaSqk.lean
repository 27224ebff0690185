import Derived.Test.YtfjgelialaccdaaProg
import Derived.Test.YtfjgelialaccdaaSqj
/- Sponge: what is told of a message in parts. -/
namespace Go.Proofs.Ytfjgelialaccdaa
open Go.RowKit
set_option maxRecDepth 100000

/-- A slice's length is no more than its room. -/
def CapV (v : Value) : Prop := ∀ a n c, v = .slice a n c → n ≤ c ∧ c ≤ maxLen
/-- A call tells a row of its own, no longer than its room, and a number. -/
def OwF (w : World) (n : Nat) (zs : List Int) (e : Ending) (w' : World) : Prop := ∃ g, e = .returned (.tuple #[.slice (some ⟨g, 0, none⟩) n n, .int .i64 0]) ∧ Own .u8 w.heap.size 5 w' (.slice (some ⟨g, 0, none⟩) n n) zs ∧ Below w.heap.size w w'
theorem OwF.later {w w1 w' : World} {n : Nat} {zs : List Int} {e : Ending} (h : OwF w1 n zs e w') (hb : Below w.heap.size w w1) : OwF w n zs e w' := by
  obtain ⟨g, h1, h2, h3⟩ := h
  exact ⟨g, h1, own_base h2 hb.size, hb.trans (h3.mono hb.size)⟩
theorem OwF.rdf {w w' : World} {n : Nat} {zs : List Int} {e : Ending} (h : OwF w n zs e w') (hz : ∀ z ∈ zs, 0 ≤ z ∧ z ≤ 255) (hn : n ≤ 65536) : RdF w zs 0 e w' := by
  obtain ⟨g, h1, h2, h3⟩ := h
  have hl : zs.length = n := by obtain ⟨_, _, e, _⟩ := h2.slice; injection e with _ e _; exact e.symm
  refine ⟨_, h1, ⟨h2.rd (by show _ * 1 ≤ _; omega) (fun z h => WalkArith.wf_u8 (hz z h)), fun a n' c e => ?_⟩, h3⟩
  injection e with e1 e2 e3
  subst e2 e3
  exact ⟨Nat.le_refl _, (own_cap h2).2⟩
/-- i parts have been written. -/
structure Hs (w wr : World) (q : Nat) (mk : Int) (Z : Nat → List Int) (i : Nat) : Prop where
  obj : Wo wr w.heap.size (8 * q) mk (wkF q (ccat Z i)) ((ccat Z i).length % (8 * q)) false
  low : Only w.heap.size w wr
theorem ccat_bytes {Z : Nat → List Int} : ∀ {m : Nat}, (∀ i, i < m → ∀ z ∈ Z i, 0 ≤ z ∧ z ≤ 255) → ∀ z ∈ ccat Z m, 0 ≤ z ∧ z ≤ 255
  | 0, _, z, h => by cases h
  | m + 1, hz, z, h => (List.mem_append.1 h).elim (ccat_bytes (fun i hi => hz i (by omega)) z) (hz m (by omega) z)
set_option maxHeartbeats 1600000 in
theorem hashed_ok (q n c m cap : Nat) (mk : Int) (us : Nat → Value) (Z : Nat → List Int) (w : World) (hq : 1 ≤ q ∧ q ≤ 24) (hn : n ≤ 65536) (hm : 0 ≤ mk ∧ mk ≤ 255) (hmm : m ≤ 1000) (hc : ∀ i, i < m → w.cell? ⟨c, i, none⟩ = some (us i)) (hr : ∀ i, i < m → RdC w (us i) (Z i)) (hl : (ccat Z m).length ≤ 1000000) :
    Calls Try.prog 21 #[.int .i64 ((8 * q : Nat) : Int), .int .u8 mk, .int .i64 (n : Int), .slice (some ⟨c, 0, none⟩) m cap] w fun e w' => OwF w n (sumL (ccat Z m) (8 * q) mk n) e w' := by
  have hct : canT (n : Int) = true := decide_eq_true (by omega)
  have HCa := hid (cantell_any (n : Int) w)
  rw [hct] at HCa
  have HNw := hid (new_ok q mk w hq)
  have HZ : Hid (∀ i, i < m → ∀ z ∈ Z i, 0 ≤ z ∧ z ≤ 255) := hid fun i hi => rd_bytes (hr i hi).rd
  have HWr : Hid (∀ i, i < m → ∀ wr, Hs w wr q mk Z i → Calls Try.prog 32 #[.pointer (some ⟨w.heap.size, 0, none⟩), us i] wr fun e w' => e = .returned (.int .i64 0) ∧ Hs w w' q mk Z (i + 1)) := hid fun i hi wr h =>
    (write_any w.heap.size q mk (ccat Z i) (Z i) (us i) wr h.obj hq (ccat_bytes fun j hj => HZ.out j (by omega)) ((kept_rd (hr i hi).rd (Nat.le_refl _)).later h.low) (hr i hi).cap (by have := ccat_le Z (show i + 1 ≤ m by omega); rw [ccat, List.length_append] at this; omega)).mono (by
      rintro e w' ⟨rfl, h1, h2⟩
      exact ⟨rfl, h1, h.low.trans h2⟩)
  have HRe : Hid (∀ wr, Hs w wr q mk Z m → Calls Try.prog 33 #[.pointer (some ⟨w.heap.size, 0, none⟩), .int .i64 (n : Int)] wr fun e w' => OwF w n (sumL (ccat Z m) (8 * q) mk n) e w') := hid fun wr h =>
    (read_any w.heap.size q n mk (ccat Z m) wr h.obj hq hm (ccat_bytes HZ.out) hn).mono (by
      rintro e w' ⟨g, rfl, h1, h2⟩
      have h3 := h.low.trans h2
      exact ⟨g, rfl, own_base h1 h.low.size, h3.below (Nat.le_refl _) (Nat.le_refl _)⟩)
  have HC : Hid (∀ i, i < m → ∀ wr, Only w.heap.size w wr → wr.cell? ⟨c, i, none⟩ = some (us i)) := hid fun i hi wr ho => by
    have hcl : c < w.heap.size := World.block_lt_of_cell? w ⟨c, i, none⟩ (hc i hi)
    rw [ho.cell (p := ⟨c, i, none⟩) hcl (by show c ≠ w.heap.size; omega)]; exact hc i hi
  have HM := hid hmm
  have HG : Hid (∀ w', Wo w' w.heap.size (8 * q) mk (fun _ => 0) 0 false → Below w.heap.size w w' → Hs w w' q mk Z 0) := hid fun w' h1 h2 => ⟨by rw [show ccat Z 0 = [] from rfl, wk_nil]; exact h1.to rfl (Nat.zero_mod _).symm rfl, Only.of_below h2⟩
  clear hct hq hn hm hc hr hl hmm
  obtain ⟨S, hS⟩ : ∃ S, sumL (ccat Z m) (8 * q) mk n = S := ⟨_, rfl⟩
  rw [hS] at HRe ⊢
  clear hS
  obtain ⟨R, hR⟩ : ∃ R, 8 * q = R := ⟨_, rfl⟩
  rw [hR] at HNw HG ⊢
  clear hR
  go_enter Try.func21, Try.ntmps21
  go_wp2_with (first
    | (go_at_call 30; (with_reducible refine (HCa.out).mono ?_); rintro e w1 ⟨rfl, rfl⟩)
    | (go_at_call 31; (with_reducible refine (HNw.out).mono ?_); rintro e w2 ⟨rfl, h1, h2, h3⟩; have HI0 := hid (HG.out _ h1 h2); clear h1 h2 h3))
  go_loopw [28] (fun i wr => ∃ K : Nat, K ≤ m ∧ i = .int .i64 K ∧ Hs w1 wr q mk Z K) (fun i _ => m - (intOf i).toNat)
  case atStart => exact ⟨0, Nat.zero_le _, rfl, HI0.out⟩
  case round =>
    obtain ⟨K, hK, rfl, hI⟩ := hrel
    have HJ := hid hI
    clear hI HI0
    by_cases hlt : K < m
    · have c1 := HC.out K hlt wr HJ.out.low
      have HWk := hid (HWr.out K hlt wr HJ.out)
      have n1 : (K : Int) < (m : Int) := by omega
      have n2 : (0 : Int) ≤ (K : Int) := by omega
      have n3 : (K : Int) ≤ 1000 := by have := HM.out; omega
      have HKm : Hid (K < m) := hid hlt
      generalize us K = u at *
      clear hlt hK
      go_wp2_with (first
        | (go_at_call 32; (with_reducible refine (HWk.out).mono ?_); rintro e w3 ⟨rfl, h3⟩; have HJ3 := hid h3; clear h3))
      go_roundw
      case rel => exact ⟨K + 1, HKm.out, by go_num, HJ3.out⟩
      case measure => have := HKm.out; simp [intOf]; omega
    · obtain rfl : K = m := by omega
      have n3 : ¬ (K : Int) < (K : Int) := by omega
      have HRk := hid (HRe.out wr HJ.out)
      go_wp2_with (first
        | (go_at_call 33; (with_reducible refine (HRk.out).mono ?_); rintro e w4 ⟨g, rfl, h4, h5⟩; have HO4 := hid h4; have HB4 := hid h5; clear h4 h5))
      go_ret2
      exact ⟨g, rfl, HO4.out, HB4.out⟩
theorem hashed_long (rate mk n : Int) (v : Value) (w : World) (h : canT n = false) : Calls Try.prog 21 #[.int .i64 rate, .int .u8 mk, .int .i64 n, v] w fun e w' => e = .returned (.tuple #[.slice none 0 0, .int .i64 1]) ∧ w' = w := by
  have HCa := hid (cantell_any n w)
  rw [h] at HCa
  go_enter Try.func21, Try.ntmps21
  go_wp2_with (first
    | (go_at_call 30; (with_reducible refine (HCa.out).mono ?_); rintro e w1 ⟨rfl, rfl⟩))
  go_ret2
  exact ⟨rfl, rfl⟩
theorem hashed_bad (rate mk n : Int) (v : Value) (w : World) (h : canT n = true) (hr : rad rate = false) : Calls Try.prog 21 #[.int .i64 rate, .int .u8 mk, .int .i64 n, v] w fun e w' => e = .returned (.tuple #[.slice none 0 0, .int .i64 1]) ∧ w' = w := by
  have HCa := hid (cantell_any n w)
  rw [h] at HCa
  have HNw := hid (new_bad rate mk w hr)
  go_enter Try.func21, Try.ntmps21
  go_wp2_with (first
    | (go_at_call 30; (with_reducible refine (HCa.out).mono ?_); rintro e w1 ⟨rfl, rfl⟩)
    | (go_at_call 31; (with_reducible refine (HNw.out).mono ?_); rintro e w2 ⟨rfl, rfl⟩))
  go_ret2
  exact ⟨rfl, rfl⟩
end Go.Proofs.Ytfjgelialaccdaa
