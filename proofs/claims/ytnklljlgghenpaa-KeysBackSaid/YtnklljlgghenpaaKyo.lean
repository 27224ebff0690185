import Derived.Test.YtnklljlgghenpaaProg
import Derived.Test.YtnklljlgghenpaaKyn
namespace Go.Proofs.Ytnklljlgghenpaa
open Go.RowKit

/-! ### a round of a key of 16 bytes, told back -/
theorem rkey_late (k : Nat → Nat) {i m : Nat} (h1 : 1 ≤ i) (h2 : i ≤ 10) (hm : 4 ≤ m) (hm2 : m < 16) : rkey 4 k 40 i m ^^^ rkey 4 k 40 i (m - 4) = rkey 4 k 40 (i - 1) m := by
  unfold rkey
  rw [exps_at 4 k (i := 4 * i + m / 4) (by decide) (by omega) (by omega)]
  unfold mkw
  rw [if_neg (by omega), if_neg (by omega), show (m - 4) % 4 = m % 4 by omega, show 4 * i + (m - 4) / 4 = 4 * i + m / 4 - 1 by omega, show 4 * (i - 1) + m / 4 = 4 * i + m / 4 - 4 by omega, Nat.xor_assoc, Nat.xor_self, Nat.xor_zero]
theorem rkey_first (k : Nat → Nat) {i m : Nat} (h1 : 1 ≤ i) (h2 : i ≤ 10) (hm : m < 4) : rkey 4 k 40 i m = rkey 4 k 40 (i - 1) m ^^^ (sb (rkey 4 k 40 (i - 1) (12 + (m + 1) % 4)) ^^^ (if m = 0 then mkb i else 0)) := by
  unfold rkey
  rw [exps_at 4 k (i := 4 * i + m / 4) (by decide) (by omega) (by omega)]
  unfold mkw
  rw [if_pos (by omega), show m % 4 = m by omega, show 4 * i + m / 4 - 4 = 4 * (i - 1) + m / 4 by omega, show 4 * i + m / 4 - 1 = 4 * (i - 1) + (12 + (m + 1) % 4) / 4 by omega, show (12 + (m + 1) % 4) % 4 = (m + 1) % 4 by omega, show (4 * i + m / 4) / 4 = i by omega]
theorem rkey_zero (k : Nat → Nat) {m : Nat} (hm : m < 16) : rkey 4 k 40 0 m = k m := by
  unfold rkey
  rw [exps_key 4 k (by omega)]
  congr 1; omega
theorem rkey_lt {K : Nat} {k : Nat → Nat} (hk : ∀ x, k x < 256) (N r m : Nat) : rkey K k N r m < 256 := exps_lt hk N _ _ (Nat.mod_lt _ (by decide))

/-- The row after the first 4, 8, .. are put together: from j on. -/
def lateTo (h : Nat → Nat) (j : Nat) : Nat → Nat := fun m => if j < m then h m ^^^ h (m - 4) else h m
theorem lateTo_step (h : Nat → Nat) {j : Nat} (hj : 4 ≤ j) : ∀ m, m < 16 → upd (lateTo h j) j (lateTo h j j ^^^ lateTo h j (j - 4)) m = lateTo h (j - 1) m := fun m _ => by
  unfold upd lateTo
  by_cases e : m = j
  · subst e
    rw [if_pos rfl, if_neg (by omega), if_neg (by omega), if_pos (by omega)]
  · rw [if_neg e]
    by_cases h1 : j < m
    · rw [if_pos h1, if_pos (by omega)]
    · rw [if_neg h1, if_neg (by omega)]
theorem lateTo_start (h : Nat → Nat) : ∀ m, m < 16 → h m = lateTo h 15 m := fun m hm => by unfold lateTo; rw [if_neg (by omega)]

/-- The call's own row of 16 bytes. -/
structure KInv (w wr : World) (g cap : Nat) (h : Nat → Nat) : Prop where
  own : Own .u8 w.heap.size 5 wr (.slice (some ⟨g, 0, none⟩) 16 cap) (ns 16 h)
  low : Below w.heap.size w wr
section
variable {w wr : World} {g cap : Nat} {h : Nat → Nat}
theorem KInv.parts (H : KInv w wr g cap h) : w.heap.size ≤ g ∧ g < wr.heap.size ∧ (∀ j, j < 16 → wr.cell? ⟨g, j, none⟩ = some (.int .u8 (h j : Int))) ∧ (∀ o, wr.frozen? ⟨g, o, none⟩ = false) ∧
    ∀ j z, j < 16 → Own .u8 w.heap.size 5 (wr.setCell ⟨g, j, none⟩ (.int .u8 (z : Nat))) (.slice (some ⟨g, 0, none⟩) 16 cap) (ns 16 (upd h j z)) := by
  obtain ⟨g', cap', e, h1, h2, h3, h4, h5⟩ := H.own.part (by rw [ns_len]; decide)
  injection e with e1 e2 e3
  injection e1 with e1
  injection e1 with e1
  subst e1
  rw [ns_len] at h3 h5
  exact ⟨h1, h2, fun j hj => by rw [h3 j hj, ns_nth h hj], h4, fun j z hj => by have := h5 j z hj; rw [ns_set] at this; exact this⟩
theorem KInv.cell (H : KInv w wr g cap h) {j : Nat} (hj : j < 16) : wr.cell? ⟨g, j, none⟩ = some (.int .u8 (h j : Int)) := H.parts.2.2.1 j hj
theorem KInv.free (H : KInv w wr g cap h) (o : Nat) : wr.frozen? ⟨g, o, none⟩ = false := H.parts.2.2.2.1 o
theorem KInv.set (H : KInv w wr g cap h) {j : Nat} (hj : j < 16) (z : Nat) : KInv w (wr.setCell ⟨g, j, none⟩ (.int .u8 (z : Int))) g cap (upd h j z) :=
  ⟨H.parts.2.2.2.2 j z hj, H.low.setCell H.parts.1 _⟩
theorem KInv.drew (H : KInv w wr g cap h) : KInv w wr.drew g cap h := ⟨H.own, H.low.drew⟩
theorem KInv.ext (H : KInv w wr g cap h) {h' : Nat → Nat} (e : ∀ j, j < 16 → h j = h' j) : KInv w wr g cap h' := ⟨by rw [← ns_ext e]; exact H.own, H.low⟩
end

/-- KeysBack from where its row is made: told apart so that the law's walk is short. -/
theorem back_row (k : Nat → Nat) {i : Nat} (h1 : 1 ≤ i) (h2 : i ≤ 10) (s0 s1 s2 s3 : Nat) (e0 : s0 = sb (rkey 4 k 40 (i - 1) 13)) (e1 : s1 = sb (rkey 4 k 40 (i - 1) 14)) (e2 : s2 = sb (rkey 4 k 40 (i - 1) 15)) (e3 : s3 = sb (rkey 4 k 40 (i - 1) 12)) (g0 g1 g2 g3 : Nat)
    (f0 : g0 = (rkey 4 k 40 i 0 ^^^ s0) ^^^ mkb i) (f1 : g1 = rkey 4 k 40 i 1 ^^^ s1) (f2 : g2 = rkey 4 k 40 i 2 ^^^ s2) (f3 : g3 = rkey 4 k 40 i 3 ^^^ s3) :
    ∀ m, m < 16 → upd (upd (upd (upd (lateTo (rkey 4 k 40 i) 3) 0 g0) 1 g1) 2 g2) 3 g3 m = rkey 4 k 40 (i - 1) m := fun m hm => by
  have x3 : ∀ A S M : Nat, ((A ^^^ (S ^^^ M)) ^^^ S) ^^^ M = A := fun A S M => by
    rw [← Nat.xor_assoc A S M, Nat.xor_assoc _ S M, Nat.xor_assoc (A ^^^ S) M, Nat.xor_comm S M, ← Nat.xor_assoc M M S, Nat.xor_self, Nat.zero_xor, Nat.xor_assoc, Nat.xor_self, Nat.xor_zero]
  have x2 : ∀ A S : Nat, (A ^^^ (S ^^^ 0)) ^^^ S = A := fun A S => by rw [Nat.xor_zero, Nat.xor_assoc, Nat.xor_self, Nat.xor_zero]
  by_cases c3 : m = 3
  · subst c3; rw [upd_same, f3, e3, rkey_first k h1 h2 (by decide)]; exact x2 _ _
  rw [upd_other _ _ _ _ c3]
  by_cases c2 : m = 2
  · subst c2; rw [upd_same, f2, e2, rkey_first k h1 h2 (by decide)]; exact x2 _ _
  rw [upd_other _ _ _ _ c2]
  by_cases c1 : m = 1
  · subst c1; rw [upd_same, f1, e1, rkey_first k h1 h2 (by decide)]; exact x2 _ _
  rw [upd_other _ _ _ _ c1]
  by_cases c0 : m = 0
  · subst c0; rw [upd_same, f0, e0, rkey_first k h1 h2 (by decide)]; exact x3 _ _ _
  rw [upd_other _ _ _ _ c0]
  unfold lateTo
  rw [if_pos (by omega)]
  exact rkey_late k h1 h2 (by omega) hm
end Go.Proofs.Ytnklljlgghenpaa
