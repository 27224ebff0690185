import Derived.Test.YtiejaedljebbfaaProg
import Derived.Test.YtiejaedljebbfaaCth
/- What a law holds: rows that lie apart from the cipher's box; a key that may be. -/
namespace Go.Proofs.Ytiejaedljebbfaa
open Go.RowKit
set_option maxRecDepth 100000

/-- v reads as xs, whatever is done that turns block b alone. -/
def Kept (b : Nat) (w : World) (v : Value) (xs : List Int) : Prop := ∀ W, Only b w W → Rd .u8 W v xs
section
variable {b : Nat} {w w' : World} {v : Value} {xs : List Int}
theorem Kept.rd (h : Kept b w v xs) : Rd .u8 w v xs := h w (Only.refl b w)
theorem Kept.later (h : Kept b w v xs) (o : Only b w w') : Kept b w' v xs := fun W hW => h W (o.trans hW)
theorem Kept.self (h : Kept b w v xs) (hb : Below w.heap.size w w') : Kept b w' v xs := h.later (Only.of_below hb)
theorem kept_wd {n g off c : Nat} {f : Nat → Nat} (h : Wd w n g off f) (hg : g ≠ b) (hn : n ≤ 65536) : Kept b w (.slice (some ⟨g, off, none⟩) n c) (ns n f) := fun _ hW => (h.only hW hg).rd c hn
theorem kept_zero (a : Option Addr) (c : Nat) (f : Nat → Nat) : Kept b w (.slice a 0 c) (ns 0 f) := fun W _ => rd_zero a c f W
theorem kept_own {B n : Nat} {E : TypeId} {f : Nat → Nat} (h : Own .u8 B E w v (ns n f)) (hb : b < B) (hn : n ≤ 65536) (hf : ∀ j, j < n → f j < 256) : Kept b w v (ns n f) := by
  by_cases h0 : 0 < n
  · obtain ⟨g, cap, rfl, hg, _⟩ := h.part (by rw [ns_len]; exact h0)
    rw [ns_len] at h ⊢
    exact kept_wd (wd_own h hf).1 (by omega) hn
  · obtain rfl : n = 0 := by omega
    obtain ⟨p, cap, rfl⟩ := h.noRow
    exact kept_zero p cap f
theorem kept_rd (h : Rd .u8 w v xs) (hb : w.heap.size ≤ b) : Kept b w v xs := fun _ hW => h.self (hW.below hb (Nat.le_refl _))
end
/-- Several such rows. -/
def KL (b : Nat) (w : World) (l : List (Value × List Int)) : Prop := ∀ p ∈ l, Kept b w p.1 p.2
section
variable {b : Nat} {w w' : World} {v : Value} {xs : List Int} {l : List (Value × List Int)}
theorem KL.nil : KL b w [] := fun _ h => by cases h
theorem KL.cons (h : Kept b w v xs) (hl : KL b w l) : KL b w ((v, xs) :: l) := fun p hp => by
  rcases List.mem_cons.1 hp with rfl | hp
  · exact h
  · exact hl p hp
theorem KL.later (h : KL b w l) (o : Only b w w') : KL b w' l := fun p hp => (h p hp).later o
theorem KL.self (h : KL b w l) (hb : Below w.heap.size w w') : KL b w' l := h.later (Only.of_below hb)
theorem KL.all (h : KL b w l) (hp : (v, xs) ∈ l) : ∀ W, Only b w W → Rd .u8 W v xs := h (v, xs) hp
theorem KL.get (h : KL b w l) (hp : (v, xs) ∈ l) : Rd .u8 w v xs := (h (v, xs) hp).rd
end
/-- New's contract at a key that may be. -/
def NewD (v : Value) (R1 : Nat) (Y : Nat → Nat → Nat) (w : World) : Prop := Calls Try.prog 8 #[v] w fun e w' =>
  ∃ d b c cap, e = .returned (.tuple #[.pointer (some ⟨d, 0, none⟩), .int .i64 0]) ∧ Ci w' d b c cap R1 Y ∧ w.heap.size ≤ b ∧ Below w.heap.size w w'
/-- A key that may be, in all that comes after w. -/
structure Ky (w : World) (v : Value) (R R1 : Nat) (Y : Nat → Nat → Nat) : Prop where
  num : R1 = R + 1 ∧ 0 < R ∧ R ≤ 1000
  yb : YB Y R
  new : ∀ W, Below w.heap.size w W → NewD v R1 Y W
  exp : ∀ W, Below w.heap.size w W → ExpD v R1 Y W
theorem Ky.later {w w' : World} {v : Value} {R R1 : Nat} {Y : Nat → Nat → Nat} (h : Ky w v R R1 Y) (hb : Below w.heap.size w w') : Ky w' v R R1 Y :=
  ⟨h.num, h.yb, fun W hW => h.new W (hb.trans (hW.mono hb.size)), fun W hW => h.exp W (hb.trans (hW.mono hb.size))⟩
theorem ky_at (g off c K L R R1 M N : Nat) (k : Nat → Nat) (w : World) (hL : L = 4 * K) (hR : rnd (L : Int) = R) (hR1 : R1 = R + 1) (hM : M = 4 * R1) (hMN : M = K + N) (hK : 4 ≤ K) (hK8 : K ≤ 8) (hN : N ≤ 900) (hR0 : 0 < R) (hl : R ≤ 1000) (hc : L ≤ c) (hkc : c ≤ maxLen)
    (hk : ∀ x, k x < 256) (hA : Wd w L g off k) : Ky w (.slice (some ⟨g, off, none⟩) L c) R R1 (rkey K k N) :=
  ⟨⟨hR1, hR0, hl⟩, fun r _ m _ => rkey_lt hk N r m, fun w' h => new_ok g off c K L R R1 M N k w' hL hR hR1 hM hMN hK hK8 hN hR0 hc hkc hk (hA.self h),
    fun w' h => refexpand_new g off c K L R R1 M N k w' hL hR hR1 hM hMN hK hK8 hN hR0 hk (hA.self h)⟩
theorem ky_any (v : Value) (zs : List Int) (w : World) (h : Rd .u8 w v zs) (hcap : ∀ a n c, v = .slice a n c → n ≤ c ∧ c ≤ maxLen) (h0 : rnd (zs.length : Int) ≠ 0) :
    ∃ g off c R R1 Y, v = .slice (some ⟨g, off, none⟩) zs.length c ∧ rnd (zs.length : Int) = R ∧ Ky w v R R1 Y := by
  have hL := rnd_cases h0
  obtain ⟨g, off, c, rfl, hw⟩ := Wd.of_rd h (by omega)
  have hk := nth_lt h
  obtain ⟨h1, h2⟩ := hcap _ _ _ rfl
  generalize zs.length = L at *
  rcases hL with rfl | rfl | rfl
  · exact ⟨g, off, c, 10, 11, _, rfl, rfl, ky_at g off c 4 16 10 11 44 40 _ w rfl rfl rfl rfl rfl (by decide) (by decide) (by decide) (by decide) (by decide) h1 h2 hk hw⟩
  · exact ⟨g, off, c, 12, 13, _, rfl, rfl, ky_at g off c 6 24 12 13 52 46 _ w rfl rfl rfl rfl rfl (by decide) (by decide) (by decide) (by decide) (by decide) h1 h2 hk hw⟩
  · exact ⟨g, off, c, 14, 15, _, rfl, rfl, ky_at g off c 8 32 14 15 60 52 _ w rfl rfl rfl rfl rfl (by decide) (by decide) (by decide) (by decide) (by decide) h1 h2 hk hw⟩
/-- Bytes that are read, as a row of numbers. -/
theorem ns_of {w : World} {v : Value} {zs : List Int} (h : Rd .u8 w v zs) : zs = ns zs.length (fun j => (nth zs j).toNat) := by
  obtain ⟨_, _, _, _, hz, _⟩ := h
  refine List.ext_getElem (by rw [ns_len]) fun j h1 h2 => ?_
  have hb := bounds_u8 (hz _ (List.getElem_mem (h := h1)))
  have h3 := ns_at (n := zs.length) (fun j => (nth zs j).toNat) h1
  rw [List.getElem?_eq_getElem h2] at h3
  injection h3 with h3
  rw [h3, nth_of h1]; omega
end Go.Proofs.Ytiejaedljebbfaa
