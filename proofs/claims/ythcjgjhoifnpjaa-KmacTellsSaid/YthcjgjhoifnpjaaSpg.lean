import Derived.Test.YthcjgjhoifnpjaaProg
import Derived.Test.YthcjgjhoifnpjaaSpo
import Derived.Test.YthcjgjhoifnpjaaSpe
/- Sponge: what the program's calls tell, said for any numbers. -/
namespace Go.Proofs.Ythcjgjhoifnpjaa
open Go.RowKit

/-- A call tells a row that is read, and a number. -/
def RdE (w : World) (zs : List Int) (c : Int) (e : Ending) (w' : World) : Prop := ∃ u, e = .returned (.tuple #[u, .int .i64 c]) ∧ Rd .u8 w' u zs ∧ Below w.heap.size w w'
/-- .. whose capacity is told. -/
def RdF (w : World) (zs : List Int) (c : Int) (e : Ending) (w' : World) : Prop := ∃ u, e = .returned (.tuple #[u, .int .i64 c]) ∧ RdC w' u zs ∧ Below w.heap.size w w'
theorem RdF.weak {w w' : World} {zs : List Int} {c : Int} {e : Ending} (h : RdF w zs c e w') : RdE w zs c e w' := by
  obtain ⟨v, h1, h2, h3⟩ := h
  exact ⟨v, h1, h2.rd, h3⟩
def fiL (zs : List Int) (rate mark : Int) : List Int := if rad rate = true then flL zs rate.toNat mark else []
def fiE (rate : Int) : Int := if rad rate = true then 0 else 1
def suK (rate n : Int) : Bool := rad rate && decide (0 ≤ n ∧ n ≤ 65536)
def suL (zs : List Int) (rate mark n : Int) : List Int := if suK rate n = true then sumL zs rate.toNat mark n.toNat else []
def suE (rate n : Int) : Int := if suK rate n = true then 0 else 1
def shaK (b : Int) : Bool := decide (raN b ≠ 0 ∧ b ≠ 128)
def shaL (b : Int) (zs : List Int) : List Int := if shaK b = true then sumL zs (raN b).toNat 6 (b / 8).toNat else []
def shaE (b : Int) : Int := if shaK b = true then 0 else 1
def skL (b n : Int) (zs : List Int) : List Int := if chE b n = 0 then sumL zs (raN b).toNat 31 n.toNat else []
def skN (b n : Int) (zn zc zm : List Int) : List Int := if chE b n = 0 then namL zn zc zm (raN b).toNat n.toNat else []
theorem rd_nil (w : World) : Rd .u8 w (.slice none 0 0) [] := ⟨none, 0, rfl, by simp, (by intro z hz; cases hz), fun h => absurd h (by simp)⟩
theorem rdc_nil (w : World) : RdC w (.slice none 0 0) [] := ⟨rd_nil w, fun a n c e => by injection e with e1 e2 e3; subst e2; subst e3; exact ⟨Nat.le_refl _, Nat.zero_le _⟩⟩
theorem rad_no {n : Int} (h : ¬ rad n = true) : rad n = false := by simpa using h
theorem raN_q {b : Int} (h : raN b ≠ 0) : ∃ q : Nat, raN b = ((8 * q : Nat) : Int) ∧ 1 ≤ q ∧ q ≤ 24 := by
  unfold raN at h ⊢
  by_cases h1 : b = 128
  · exact ⟨21, by rw [if_pos h1]; rfl, by decide, by decide⟩
  by_cases h2 : b = 224
  · exact ⟨18, by rw [if_neg h1, if_pos h2]; rfl, by decide, by decide⟩
  by_cases h3 : b = 256
  · exact ⟨17, by rw [if_neg h1, if_neg h2, if_pos h3]; rfl, by decide, by decide⟩
  by_cases h4 : b = 384
  · exact ⟨13, by rw [if_neg h1, if_neg h2, if_neg h3, if_pos h4]; rfl, by decide, by decide⟩
  by_cases h5 : b = 512
  · exact ⟨9, by rw [if_neg h1, if_neg h2, if_neg h3, if_neg h4, if_pos h5]; rfl, by decide, by decide⟩
  · rw [if_neg h1, if_neg h2, if_neg h3, if_neg h4, if_neg h5] at h; exact absurd rfl h
theorem chE_q {b n : Int} (h : chE b n = 0) : ∃ q m : Nat, raN b = ((8 * q : Nat) : Int) ∧ (1 ≤ q ∧ q ≤ 24) ∧ n = m ∧ m ≤ 65536 := by
  have h2 : (b = 128 ∨ b = 256) ∧ 0 ≤ n ∧ n ≤ 65536 := by
    unfold chE at h
    by_cases h3 : (b ≠ 128 ∧ b ≠ 256) ∨ n < 0 ∨ 65536 < n
    · rw [if_pos h3] at h; exact absurd h (by decide)
    · omega
  obtain ⟨q, h4, h5⟩ := raN_q (b := b) (by rcases h2.1 with rfl | rfl <;> decide)
  exact ⟨q, n.toNat, h4, h5, by omega, by omega⟩
theorem chE_no {b n : Int} (h : ¬ chE b n = 0) : chE b n = 1 := by
  unfold chE at h ⊢
  split
  · rfl
  · rename_i h2; rw [if_neg h2] at h; exact absurd rfl h
end Go.Proofs.Ythcjgjhoifnpjaa
