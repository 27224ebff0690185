import Derived.Test.YtkeojphhgebhdaaProg
import Derived.Test.YtkeojphhgebhdaaCdh
/- Code: Pad, by the program and by the document. -/
namespace Go.Proofs.Ytkeojphhgebhdaa
open Go.RowKit

/-- What is missing up to a multiple of w. -/
def mis (n w : Nat) : Nat := (w - n % w) % w
theorem mis_lt {n w : Nat} (h : 0 < w) : mis n w < w := Nat.mod_lt _ h
theorem mis_at {n w k : Nat} (h : 0 < w) (hk : k ≤ mis n w) : (n + k) % w = 0 ↔ k = mis n w := by
  unfold mis at *
  have h1 := Nat.mod_lt n h
  have h2 : (n + k) % w = (n % w + k) % w := by rw [Nat.add_mod, Nat.add_mod (n % w) k, Nat.mod_mod]
  rw [h2]
  generalize n % w = r at *
  by_cases hr : r = 0
  · subst hr
    rw [Nat.sub_zero, Nat.mod_self] at hk ⊢
    obtain rfl : k = 0 := by omega
    simp
  · rw [Nat.mod_eq_of_lt (show w - r < w by omega)] at hk ⊢
    constructor
    · intro h3
      by_cases h4 : k = w - r
      · exact h4
      · rw [Nat.mod_eq_of_lt (show r + k < w by omega)] at h3; omega
    · rintro rfl
      rw [show r + (w - r) = w by omega, Nat.mod_self]
/-- Bytes, padded. -/
def pd (zs : List Int) (n : Nat) : List Int := lef n ++ zs ++ List.replicate (mis ((lef n).length + zs.length) n) 0
/-- What Pad tells. -/
def PadP (w : World) (zs : List Int) (n : Int) (e : Ending) (w' : World) : Prop :=
  Below w.heap.size w w' ∧ ((∃ (m : Nat) (v : Value), n = m ∧ 1 ≤ m ∧ m ≤ 1000 ∧ e = .returned (.tuple #[v, .int .i64 0]) ∧ Own .u8 w.heap.size 5 w' v (pd zs m)) ∨
    ((n < 1 ∨ 1000 < n) ∧ e = .returned (.tuple #[.slice none 0 0, .int .i64 1])))

set_option maxRecDepth 100000 in
theorem pad_bad (v : Value) (zs : List Int) (n : Int) (w : World) (_ : Rd .u8 w v zs) (hn : n < 1 ∨ 1000 < n) :
    Calls Try.prog 6 #[v, .int .i64 n] w fun e w' => PadP w zs n e w' := by
  have HN := hid hn
  rcases hn with h | h
  · go_enter Try.func6, Try.ntmps6
    go_wp2
    go_ret2
    exact ⟨Below.refl _ _, .inr ⟨HN.out, rfl⟩⟩
  · have h2 : ¬ n < 1 := by omega
    go_enter Try.func6, Try.ntmps6
    go_wp2
    go_ret2
    exact ⟨Below.refl _ _, .inr ⟨HN.out, rfl⟩⟩
set_option maxRecDepth 100000 in
theorem refpad_bad (v : Value) (zs : List Int) (n : Int) (w : World) (_ : Rd .u8 w v zs) (hn : n < 1 ∨ 1000 < n) :
    Calls Try.prog 7 #[v, .int .i64 n] w fun e w' => PadP w zs n e w' := by
  have HN := hid hn
  rcases hn with h | h
  · go_enter Try.func7, Try.ntmps7
    go_wp2
    go_ret2
    exact ⟨Below.refl _ _, .inr ⟨HN.out, rfl⟩⟩
  · have h2 : ¬ n < 1 := by omega
    go_enter Try.func7, Try.ntmps7
    go_wp2
    go_ret2
    exact ⟨Below.refl _ _, .inr ⟨HN.out, rfl⟩⟩

/-- What behind makes of the three rows. -/
theorem pad_tail {B : Nat} {w : World} {p : Option Addr} {W cap M : Nat} {v : Value} {xs zs : List Int} (h : Own .u8 B 5 w (.slice p W cap) xs) (hx : ∀ z ∈ xs, (Lit.int .u8 z).wf = true) (hxl : xs.length ≤ 9) (hv : Rd .u8 w v zs) (hM : M ≤ 1000) :
    Calls Try.prog 19 #[.slice (some ⟨w.heap.size + 1, 0, none⟩) 3 3] ((w.alloc (.cells (madeCells #[.int .u8 0] M) 5)).alloc (.cells #[.slice p W cap, v, .slice (some ⟨w.heap.size, 0, none⟩) M M] 22)) fun e w' => ConcatP w (xs ++ zs ++ List.replicate M 0) e w' := by
  have h47 := len47 hv
  have b1 : Below w.heap.size w (w.alloc (.cells (madeCells #[.int .u8 0] M) 5)) := (Below.refl _ _).alloc (Nat.le_refl _) _
  have hs : (w.alloc (.cells (madeCells #[.int .u8 0] M) 5)).heap.size = w.heap.size + 1 := by simp
  have r3 : Rd .u8 (w.alloc (.cells (madeCells #[.int .u8 0] M) 5)) (.slice (some ⟨w.heap.size, 0, none⟩) M M) (List.replicate M 0) :=
    (own_made (E := 5) w M (Nat.le_refl _) (by unfold maxLen; omega)).rd (by simp; show M * 1 ≤ _; omega) (fun z hz => by rw [(List.mem_replicate.1 hz).2]; decide)
  have b2 : ∀ cs : Array Value, Below (w.heap.size + 1) (w.alloc (.cells (madeCells #[.int .u8 0] M) 5)) ((w.alloc (.cells (madeCells #[.int .u8 0] M) 5)).alloc (.cells cs 22)) := fun cs => (Below.refl _ _).alloc (by rw [hs]; exact Nat.le_refl _) _
  have c1 := fun cs j => cell_made (w.alloc (.cells (madeCells #[.int .u8 0] M) 5)) cs 22 j
  rw [hs] at c1
  have r1 : Rd .u8 w (.slice p W cap) xs := h.rd (by show _ * 1 ≤ _; omega) hx
  refine (behind3 _ _ _ _ _ xs zs (List.replicate M 0) _ (c1 _ 0) (c1 _ 1) (c1 _ 2) ((r1.self b1).below (b2 _) (by rw [hs]; exact Nat.le_refl _)) ((hv.self b1).below (b2 _) (by rw [hs]; exact Nat.le_refl _)) (r3.below (b2 _) (by rw [hs]; exact Nat.le_refl _)) (by simp; omega)).mono ?_
  rintro e w' ⟨v, rfl, ho, hl⟩
  exact ⟨v, rfl, own_base ho (by simp; omega), (b1.trans ((b2 _).mono (by omega))).trans (hl.mono (by simp; omega))⟩

set_option maxRecDepth 100000 in
set_option maxHeartbeats 800000 in
theorem pad_good (v : Value) (zs : List Int) (n : Nat) (w : World) (h : Rd .u8 w v zs) (h1 : 1 ≤ n) (h2 : n ≤ 1000) :
    Calls Try.prog 6 #[v, .int .i64 (n : Int)] w fun e w' => PadP w zs n e w' := by
  have h47 := len47 h
  obtain ⟨W, hW⟩ : ∃ W, (lef n).length = W := ⟨_, rfl⟩
  have HL := hid ((left_any n w (by omega)).mono fun _ _ h => h.at hW)
  have hle := lef_le (show n < 9223372036854775808 by omega)
  have HWf := hid (lef_wf (show n < 9223372036854775808 by omega))
  obtain ⟨M, hM⟩ : ∃ M, mis (W + zs.length) n = M := ⟨_, rfl⟩
  have hMl : M < n := by rw [← hM]; exact mis_lt h1
  have HP : Hid (pd zs n = lef n ++ zs ++ List.replicate M 0) := hid (by unfold pd; rw [hW, hM])
  have HLe := hid hle
  have HR := hid h
  have HN : Hid (1 ≤ n ∧ n ≤ 1000 ∧ M ≤ 1000) := hid ⟨h1, h2, by omega⟩
  rw [hW] at hle
  obtain ⟨a, cap, rfl, _⟩ := h
  obtain ⟨L, hL⟩ : ∃ L, zs.length = L := ⟨_, rfl⟩
  rw [hL] at HR h47 hM ⊢
  obtain ⟨S, hS⟩ : ∃ S, W + L = S := ⟨_, rfl⟩
  obtain ⟨r, hr⟩ : ∃ r, S % n = r := ⟨_, rfl⟩
  have hrl : r < n := by rw [← hr]; exact Nat.mod_lt _ h1
  obtain ⟨D, hD⟩ : ∃ D, n - r = D := ⟨_, rfl⟩
  have g1 : ¬ ((n : Int) < 1) := by omega
  have g2 : ¬ (1000 < (n : Int)) := by omega
  have g0 : ¬ ((n : Int) = 0) := by omega
  have e1 : (W : Int) + (L : Int) = (S : Int) := by omega
  have e2 : IntKind.i64.wrap (S : Int) = S := by rw [IntKind.wrap_i64]; omega
  have e3 : (S : Int).tmod (n : Int) = (r : Int) := by rw [← hr]; rfl
  have e4 : (n : Int) - (r : Int) = (D : Int) := by omega
  have e5 : IntKind.i64.wrap (D : Int) = D := by rw [IntKind.wrap_i64]; omega
  have e6 : (D : Int).tmod (n : Int) = (M : Int) := by
    have : D % n = M := by rw [← hD, ← hr, ← hS]; exact hM
    rw [← this]; rfl
  have e7 : (S : Int) % (n : Int) = (r : Int) := by omega
  have e8 : (D : Int) % (n : Int) = (M : Int) := by
    have : D % n = M := by rw [← hD, ← hr, ← hS]; exact hM
    omega
  have hmk := make_row M (by omega)
  clear hM hS hr hD hL hW
  go_enter Try.func6, Try.ntmps6
  go_wp2_with (first
    | (go_at_call 10; (with_reducible refine (HL.out).mono ?_); rintro e w1 ⟨p, c1, rfl, ho, hl⟩; have HT := hid (pad_tail ho HWf.out HLe.out (HR.out.self hl) HN.out.2.2); have HW := hid hl; clear ho hl)
    | (go_at_call 19; (with_reducible refine (HT.out).mono ?_); rintro e w2 ⟨v1, rfl, ho1, hlow1⟩; have HO1 := hid ho1; have HLow1 := hid hlow1; clear ho1 hlow1))
  go_ret2
  refine ⟨HW.out.trans (HLow1.out.mono HW.out.size), .inl ⟨n, _, rfl, HN.out.1, HN.out.2.1, rfl, ?_⟩⟩
  rw [HP.out]
  exact own_base HO1.out HW.out.size
end Go.Proofs.Ytkeojphhgebhdaa
