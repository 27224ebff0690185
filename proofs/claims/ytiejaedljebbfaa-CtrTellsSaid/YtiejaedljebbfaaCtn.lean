import Derived.Test.YtiejaedljebbfaaCtm
import Derived.Test.YtiejaedljebbfaaOcl
import Derived.Test.YtiejaedljebbfaaOcz
/- A counter and one; a counter that is being added to; data and a stream: without a program. -/
namespace Go.Proofs.Ytiejaedljebbfaa
open Go.RowKit

theorem car_zero {f : Nat → Nat} (hf : B16 f) {k a : Nat} (h : car f k a = 0) : ∀ b, a + b ≤ 16 → car f k (a + b) = 0
  | 0, _ => h
  | b + 1, hb => by
    have ih := car_zero hf h b (by omega)
    have := hf (15 - (a + b)) (by omega)
    show (f (15 - (a + b)) + car f k (a + b)) / 256 = 0
    rw [ih]; omega
/-- What of a counter has been turned from the last byte on. -/
def latTo (f : Nat → Nat) (k m : Nat) : Nat → Nat := fun i => if 16 ≤ i + m then lat f k i else f i
theorem latTo_zero (f : Nat → Nat) (k : Nat) : ∀ i, i < 16 → latTo f k 0 i = f i := fun i hi => if_neg (by omega)
theorem latTo_all (f : Nat → Nat) (k : Nat) : ∀ i, i < 16 → latTo f k 16 i = lat f k i := fun i _ => if_pos (by omega)
theorem latTo_step (f : Nat → Nat) (k : Nat) {m : Nat} (hm : m < 16) : ∀ i, i < 16 → upd (latTo f k m) (15 - m) ((f (15 - m) + car f k m) % 256) i = latTo f k (m + 1) i := fun i hi => by
  unfold upd latTo
  by_cases e : i = 15 - m
  · subst e
    rw [if_pos rfl, if_pos (by omega)]
    unfold lat
    rw [show 15 - (15 - m) = m by omega]
  · rw [if_neg e]
    by_cases e2 : 16 ≤ i + m
    · rw [if_pos e2, if_pos (by omega)]
    · rw [if_neg e2, if_neg (by omega)]
theorem latTo_b {f : Nat → Nat} (hf : B16 f) (k m : Nat) : B16 (latTo f k m) := fun i hi => by
  unfold latTo
  by_cases e : 16 ≤ i + m
  · rw [if_pos e]; exact lat_b f k i hi
  · rw [if_neg e]; exact hf i hi
theorem inc_at {f : Nat → Nat} (hf : B16 f) : ∀ j m, j + m = 16 → car f 1 m = 1 → ∀ g : Nat → Nat, (∀ i, i < 16 → g i = latTo f 1 m i) → incAt (ns 16 g) j = ns 16 (lat f 1)
  | 0, m, hj, _, g, hg => by
    obtain rfl : m = 16 := by omega
    show ns 16 g = _
    exact ns_ext fun i hi => (hg i hi).trans (latTo_all f 1 i hi)
  | j + 1, m, hj, hc, g, hg => by
    have hjm : j = 15 - m := by omega
    have hgj : g j = f j := by rw [hg j (by omega)]; exact if_neg (by omega)
    have hb := hf j (by omega)
    have hs := latTo_step f 1 (m := m) (by omega)
    have hcs : car f 1 (m + 1) = (f j + 1) / 256 := by show (f (15 - m) + car f 1 m) / 256 = _; rw [hc, hjm]
    unfold incAt
    rw [ns_nth g (show j < 16 by omega), hgj]
    by_cases h : f j < 255
    · rw [if_pos (by omega), show ((f j : Int) + 1) = ((f j + 1 : Nat) : Int) by omega, ns_set]
      refine ns_ext fun i hi => ?_
      have hz : car f 1 (m + 1) = 0 := by rw [hcs]; omega
      by_cases e : i = j
      · subst e
        unfold upd lat
        rw [if_pos rfl, show 15 - i = m by omega, hc]; omega
      · unfold upd
        rw [if_neg e, hg i hi]
        unfold latTo
        by_cases e2 : 16 ≤ i + m
        · rw [if_pos e2]
        · rw [if_neg e2]
          have h0 := car_zero hf hz (15 - i - (m + 1)) (by omega)
          rw [show m + 1 + (15 - i - (m + 1)) = 15 - i by omega] at h0
          unfold lat
          rw [h0, Nat.add_zero, Nat.mod_eq_of_lt (hf i hi)]
    · have h255 : f j = 255 := by omega
      rw [if_neg (by omega), show (0 : Int) = ((0 : Nat) : Int) by rfl, ns_set]
      refine inc_at hf j (m + 1) (by omega) (by rw [hcs, h255]) _ fun i hi => ?_
      rw [← hs i hi, ← hjm, h255, hc]
      unfold upd
      by_cases e : i = j
      · rw [if_pos e, if_pos e]
      · rw [if_neg e, if_neg e, hg i hi]
theorem inc_lat {f : Nat → Nat} (hf : B16 f) : incAt (ns 16 f) 16 = ns 16 (lat f 1) := inc_at hf 16 0 rfl rfl f fun i hi => (latTo_zero f 1 i hi).symm
theorem car_le (f : Nat → Nat) (hf : B16 f) (k : Nat) : ∀ m, m ≤ 16 → car f k m ≤ k + 1
  | 0, _ => Nat.le_succ _
  | m + 1, hm => by
    have ih := car_le f hf k m (by omega)
    have := hf (15 - m) (by omega)
    show (f (15 - m) + car f k m) / 256 ≤ k + 1
    omega
/-- A later counter of a later one. -/
theorem lat_succ (f : Nat → Nat) (k : Nat) : Eq16 (lat (lat f k) 1) (lat f (k + 1)) := lat_lat f k 1

/-! ### Data and a stream -/
def xorF (f g : Nat → Nat) : Nat → Nat := fun j => f j ^^^ g j
theorem xorF_b {f g : Nat → Nat} {j : Nat} (hf : f j < 256) (hg : g j < 256) : xorF f g j < 256 := Nat.xor_lt_two_pow (n := 8) hf hg
theorem xorL_ns {n m : Nat} (f g : Nat → Nat) (hf : ∀ j, j < n → f j < 256) (hg : ∀ j, j < m → g j < 256) : ∀ k, k ≤ n → k ≤ m → xorL (ns n f) (ns m g) k = ns k (xorF f g)
  | 0, _, _ => rfl
  | k + 1, hn, hm => by
    unfold xorL
    rw [xorL_ns f g hf hg k (by omega) (by omega), ns_nth f (show k < n by omega), ns_nth g (show k < m by omega), ← ns_snoc]
    have h1 := hf k (by omega)
    have h2 := hg k (by omega)
    rw [b8_xor (by omega) (by omega)]
    simp [xorF]
end Go.Proofs.Ytiejaedljebbfaa
