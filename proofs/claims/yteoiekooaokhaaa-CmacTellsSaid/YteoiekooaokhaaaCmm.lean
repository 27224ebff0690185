import Derived.Test.YteoiekooaokhaaaOcb
import Derived.Test.YteoiekooaokhaaaAes
/- Tags, as numbers. -/
namespace Go.Proofs.Yteoiekooaokhaaa
open Go.RowKit

theorem bs_ns {n : Nat} {f : Nat → Nat} (hf : ∀ j, j < n → f j < 256) : Bs (ns n f) := bs_of (ns_wf hf)
/-- A block, doubled. -/
def dbF (f : Nat → Nat) : Nat → Nat := fun j => (nth (rdL (ns 16 f)) j).toNat
theorem dbF_lt {f : Nat → Nat} (hf : B16 f) (j : Nat) : dbF f j < 256 := by
  have := (rdL_bs (bs_ns hf)).nth j
  unfold dbF; omega
theorem dbF_b {f : Nat → Nat} (hf : B16 f) : B16 (dbF f) := fun j _ => dbF_lt hf j
theorem dbF_ns {f : Nat → Nat} (hf : B16 f) : rdL (ns 16 f) = ns 16 (dbF f) := by
  have hl : (rdL (ns 16 f)).length = 16 := rdL_len16 (ns_len 16 f)
  refine List.ext_getElem (by rw [hl, ns_len]) fun j h1 h2 => ?_
  have h3 := ns_at (n := 16) (dbF f) (j := j) (by omega)
  rw [List.getElem?_eq_getElem h2] at h3
  injection h3 with h3
  have := (rdL_bs (bs_ns hf)).nth j
  rw [h3]; unfold dbF
  rw [nth_of h1] at *; omega
theorem dbF_e {f g : Nat → Nat} (h : Eq16 f g) : dbF f = dbF g := by unfold dbF; rw [ns_ext (n := 16) h]

theorem xorF_16 {f g : Nat → Nat} (hf : B16 f) (hg : B16 g) : B16 (xorF f g) := fun j hj => xorF_b (hf j hj) (hg j hj)
theorem xorF_e {f g f' g' : Nat → Nat} (h : Eq16 f f') (h' : Eq16 g g') : Eq16 (xorF f g) (xorF f' g') := fun j hj => by unfold xorF; rw [h j hj, h' j hj]
theorem xorF_assoc (f g k : Nat → Nat) : xorF (xorF f g) k = xorF f (xorF g k) := funext fun _ => Nat.xor_assoc _ _ _
theorem xorF_zero (f : Nat → Nat) : xorF (fun _ => 0) f = f := funext fun _ => Nat.zero_xor _
theorem B16.zero : B16 (fun _ => 0) := fun _ _ => Nat.zero_lt_succ 255

section
variable {Y : Nat → Nat → Nat} {R : Nat} {x y δ δ' : Nat → Nat}
/-- What x comes to by k blocks of δ. -/
def cbF (Y : Nat → Nat → Nat) (R : Nat) (x δ : Nat → Nat) : Nat → Nat → Nat
  | 0 => x
  | k + 1 => blkF Y R (xorF (cbF Y R x δ k) (fun j => δ (16 * k + j)))
theorem cbF_b (hY : YB Y R) (hx : B16 x) : ∀ k, (∀ j, j < 16 * k → δ j < 256) → B16 (cbF Y R x δ k)
  | 0, _ => hx
  | k + 1, h => blkF_b hY (xorF_16 (cbF_b hY hx k fun j hj => h j (by omega)) fun j hj => h _ (by omega))
theorem cbF_e (h : Eq16 x y) : ∀ k, (∀ j, j < 16 * k → δ j = δ' j) → Eq16 (cbF Y R x δ k) (cbF Y R y δ' k)
  | 0, _ => h
  | k + 1, hd => blk_e (xorF_e (cbF_e h k fun j hj => hd j (by omega)) fun j hj => hd _ (by omega))
theorem cbF_add (a : Nat) : ∀ b, cbF Y R x δ (a + b) = cbF Y R (cbF Y R x δ a) (fun j => δ (16 * a + j)) b
  | 0 => rfl
  | b + 1 => by
    show blkF Y R (xorF (cbF Y R x δ (a + b)) _) = blkF Y R (xorF (cbF Y R _ _ b) _)
    rw [cbF_add a b]
    congr 2
    funext j
    show δ (16 * (a + b) + j) = δ (16 * a + (16 * b + j))
    rw [show 16 * (a + b) + j = 16 * a + (16 * b + j) by omega]
/-- How many blocks stand ahead of the last one. -/
def bkN (M : Nat) : Nat := (M - 1) / 16
theorem bkN_le (M : Nat) : 16 * bkN M ≤ M := by unfold bkN; omega
theorem bkN_rest (M : Nat) : M - 16 * bkN M ≤ 16 := by unfold bkN; omega
theorem bkN_of {k n : Nat} (hn : n ≤ 16) (h : k = 0 ∨ 0 < n) : bkN (16 * k + n) = k := by unfold bkN; omega
theorem bkN_small {n : Nat} (hn : n ≤ 16) : bkN n = 0 := by unfold bkN; omega
/-- A block that is not full, filled. -/
def padF (n : Nat) (l : Nat → Nat) : Nat → Nat := fun j => if j < n then l j else if j = n then 128 else 0
theorem padF_b {n : Nat} {l : Nat → Nat} (h : ∀ j, j < n → l j < 256) (j : Nat) : padF n l j < 256 := by
  unfold padF; split
  · exact h j (by assumption)
  · split <;> decide
/-- Both masks. -/
def m1F (Y : Nat → Nat → Nat) (R : Nat) : Nat → Nat := dbF (blkF Y R (fun _ => 0))
def m2F (Y : Nat → Nat → Nat) (R : Nat) : Nat → Nat := dbF (m1F Y R)
theorem m1F_b (hY : YB Y R) : B16 (m1F Y R) := dbF_b (blkF_b hY B16.zero)
theorem m2F_b (hY : YB Y R) : B16 (m2F Y R) := dbF_b (m1F_b hY)
/-- The last block, of n bytes, behind x. -/
def endF (Y : Nat → Nat → Nat) (R : Nat) (x : Nat → Nat) (n : Nat) (l : Nat → Nat) : Nat → Nat :=
  if n < 16 then blkF Y R (xorF x (xorF (padF n l) (m2F Y R))) else blkF Y R (xorF x (xorF l (m1F Y R)))
theorem endF_b (hY : YB Y R) (hx : B16 x) {n : Nat} {l : Nat → Nat} (h : ∀ j, j < n → l j < 256) (hn : n ≤ 16) : B16 (endF Y R x n l) := by
  unfold endF; split
  · exact blkF_b hY (xorF_16 hx (xorF_16 (fun j _ => padF_b h j) (m2F_b hY)))
  · obtain rfl : n = 16 := by omega
    exact blkF_b hY (xorF_16 hx (xorF_16 h (m1F_b hY)))
theorem endF_e (h : Eq16 x y) {n : Nat} {l l' : Nat → Nat} (hn : n ≤ 16) (hl : ∀ j, j < n → l j = l' j) : Eq16 (endF Y R x n l) (endF Y R y n l') := by
  unfold endF; split
  · refine blk_e (xorF_e h (xorF_e (fun j _ => ?_) (Eq16.refl _)))
    unfold padF; split
    · exact hl j (by assumption)
    · rfl
  · obtain rfl : n = 16 := by omega
    exact blk_e (xorF_e h (xorF_e hl (Eq16.refl _)))
/-- The tag of M bytes of δ, from x on. -/
def tagF (Y : Nat → Nat → Nat) (R : Nat) (x : Nat → Nat) (M : Nat) (δ : Nat → Nat) : Nat → Nat := endF Y R (cbF Y R x δ (bkN M)) (M - 16 * bkN M) (fun j => δ (16 * bkN M + j))
theorem tagF_b (hY : YB Y R) (hx : B16 x) {M : Nat} (h : ∀ j, j < M → δ j < 256) : B16 (tagF Y R x M δ) :=
  endF_b hY (cbF_b hY hx _ fun j hj => h j (Nat.lt_of_lt_of_le hj (bkN_le M))) (fun j hj => h _ (by have := bkN_le M; omega)) (bkN_rest M)
theorem tagF_e (hx : Eq16 x y) {M : Nat} (h : ∀ j, j < M → δ j = δ' j) : Eq16 (tagF Y R x M δ) (tagF Y R y M δ') :=
  endF_e (cbF_e hx _ fun j hj => h j (Nat.lt_of_lt_of_le hj (bkN_le M))) (bkN_rest M) (fun j hj => h _ (by have := bkN_le M; omega))
theorem tagF_small {n : Nat} (hn : n ≤ 16) (l : Nat → Nat) : tagF Y R x n l = endF Y R x n l := by
  unfold tagF
  rw [bkN_small hn]
  show endF Y R x (n - 16 * 0) (fun j => l (16 * 0 + j)) = _
  rw [Nat.mul_zero, Nat.sub_zero]
  congr 1
  funext j; rw [Nat.zero_add]
/-- .. by a whole block more ahead. -/
theorem tagF_more (M : Nat) (hM : 0 < M) : tagF Y R x (16 + M) δ = tagF Y R (blkF Y R (xorF x δ)) M (fun j => δ (16 + j)) := by
  have hq : bkN (16 + M) = 1 + bkN M := by unfold bkN; omega
  unfold tagF
  rw [hq, cbF_add]
  have e1 : cbF Y R x δ 1 = blkF Y R (xorF x δ) := by
    show blkF Y R (xorF x (fun j => δ (16 * 0 + j))) = _
    congr 2; funext j; rw [Nat.mul_zero, Nat.zero_add]
  rw [e1, show 16 + M - 16 * (1 + bkN M) = M - 16 * bkN M by omega]
  congr 1
  funext j
  rw [show 16 * (1 + bkN M) + j = 16 + (16 * bkN M + j) by omega]

/-! ### a tag at work -/
/-- x, and n bytes l that wait: of N bytes δ. -/
structure Mst (Y : Nat → Nat → Nat) (R : Nat) (x : Nat → Nat) (n : Nat) (l : Nat → Nat) (N : Nat) (δ : Nat → Nat) : Prop where
  num : ∃ k, N = 16 * k + n ∧ (k = 0 ∨ 0 < n) ∧ Eq16 x (cbF Y R (fun _ => 0) δ k) ∧ ∀ j, j < n → l j = δ (16 * k + j)
  le : n ≤ 16
theorem Mst.start (l δ : Nat → Nat) : Mst Y R (fun _ => 0) 0 l 0 δ := ⟨⟨0, rfl, .inl rfl, Eq16.refl _, fun j hj => absurd hj (by omega)⟩, by decide⟩
theorem Mst.tag {n N : Nat} {l : Nat → Nat} (h : Mst Y R x n l N δ) : Eq16 (tagF Y R x n l) (tagF Y R (fun _ => 0) N δ) := by
  obtain ⟨⟨k, hN, hk, hx, hl⟩, hn⟩ := h
  rw [tagF_small hn]
  unfold tagF
  rw [hN, bkN_of hn hk, show 16 * k + n - 16 * k = n by omega]
  exact endF_e hx hn hl
/-- L bytes behind N. -/
def thenF (N : Nat) (δ β : Nat → Nat) : Nat → Nat := fun j => if j < N then δ j else β (j - N)
theorem thenF_b {N L : Nat} {δ β : Nat → Nat} (h : ∀ j, j < N → δ j < 256) (h' : ∀ j, j < L → β j < 256) : ∀ j, j < N + L → thenF N δ β j < 256 := fun j hj => by
  unfold thenF; split
  · exact h j (by assumption)
  · exact h' _ (by omega)
theorem thenF_old {N : Nat} {δ β : Nat → Nat} {j : Nat} (h : j < N) : thenF N δ β j = δ j := if_pos h
theorem thenF_new {N : Nat} {δ β : Nat → Nat} (j : Nat) : thenF N δ β (N + j) = β j := by unfold thenF; rw [if_neg (by omega)]; congr 1; omega
theorem ns_then (N L : Nat) (δ β : Nat → Nat) : ns N δ ++ ns L β = ns (N + L) (thenF N δ β) := by
  rw [← ns_app, ns_ext (n := N) (g := δ) (fun j hj => thenF_old hj), ns_ext (n := L) (f := fun j => thenF N δ β (N + j)) (g := β) (fun j _ => thenF_new j)]
theorem Mst.few {n N L : Nat} {l β : Nat → Nat} (h : Mst Y R x n l N δ) (hL : n + L ≤ 16) : Mst Y R x (n + L) (thenF n l β) (N + L) (thenF N δ β) := by
  obtain ⟨⟨k, hN, hk, hx, hl⟩, hn⟩ := h
  refine ⟨⟨k, by omega, by omega, hx.trans (cbF_e (Eq16.refl _) k fun j hj => (thenF_old (by omega)).symm), fun j hj => ?_⟩, hL⟩
  by_cases hj' : j < n
  · rw [thenF_old hj', thenF_old (by omega), hl j hj']
  · obtain ⟨i, rfl⟩ : ∃ i, j = n + i := ⟨j - n, by omega⟩
    rw [thenF_new, show 16 * k + (n + i) = N + i by omega, thenF_new]
theorem Mst.more {n N L p q : Nat} {l β : Nat → Nat} (h : Mst Y R x n l N δ) (hp : n + p = 16) (hL : p < L) (hq : q = bkN (L - p)) :
    Mst Y R (cbF Y R (blkF Y R (xorF x (thenF n l β))) (fun j => β (p + j)) q) (L - p - 16 * q) (fun j => β (p + (16 * q + j))) (N + L) (thenF N δ β) := by
  obtain ⟨⟨k, hN, hk, hx, hl⟩, hn⟩ := h
  have hq1 : 16 * q ≤ L - p := by rw [hq]; exact bkN_le _
  have hq2 : 0 < L - p - 16 * q := by rw [hq]; unfold bkN; omega
  have hq3 : L - p - 16 * q ≤ 16 := by rw [hq]; exact bkN_rest _
  refine ⟨⟨k + 1 + q, by omega, .inr hq2, ?_, fun j hj => ?_⟩, hq3⟩
  · rw [cbF_add]
    refine cbF_e (blk_e (xorF_e (hx.trans (cbF_e (Eq16.refl _) k fun j hj => (thenF_old (by omega)).symm)) fun j hj => ?_)) q fun j hj => ?_
    · by_cases hj' : j < n
      · rw [thenF_old hj', thenF_old (by omega), hl j hj']
      · obtain ⟨i, rfl⟩ : ∃ i, j = n + i := ⟨j - n, by omega⟩
        rw [thenF_new, show 16 * k + (n + i) = N + i by omega, thenF_new]
    · rw [show 16 * (k + 1) + j = N + (p + j) by omega, thenF_new]
  · rw [show 16 * (k + 1 + q) + j = N + (p + (16 * q + j)) by omega, thenF_new]
theorem Mst.ext {n N : Nat} {l l' : Nat → Nat} (h : Mst Y R x n l N δ) (e : ∀ j, j < n → l j = l' j) : Mst Y R x n l' N δ := by
  obtain ⟨⟨k, hN, hk, hx, hl⟩, hn⟩ := h
  exact ⟨⟨k, hN, hk, hx, fun j hj => (e j hj).symm.trans (hl j hj)⟩, hn⟩

/-! ### what CmacGoes says -/
theorem goes_one (b : Nat → Nat) : tagF Y R (fun _ => 0) 16 b = blkF Y R (xorF b (m1F Y R)) := by
  rw [tagF_small (Nat.le_refl _)]; unfold endF
  rw [if_neg (by decide), xorF_zero]
theorem goes_long (b m : Nat → Nat) {M : Nat} (hM : 16 ≤ M) :
    Eq16 (tagF Y R (fun _ => 0) (16 + M) (thenF 16 b m)) (tagF Y R (fun _ => 0) M (thenF 16 (xorF (blkF Y R b) m) (fun j => m (16 + j)))) := by
  have hb : Eq16 (blkF Y R (xorF (fun _ => 0) (thenF 16 b m))) (blkF Y R b) := by
    rw [xorF_zero]; exact blk_e fun j hj => thenF_old hj
  have hm : (fun j => thenF 16 b m (16 + j)) = m := funext fun j => thenF_new j
  rw [tagF_more M (by omega), hm]
  by_cases h : M = 16
  · subst h
    rw [tagF_small (Nat.le_refl _), goes_one]
    unfold endF
    rw [if_neg (by decide), ← xorF_assoc]
    exact blk_e (xorF_e ((xorF_e hb (Eq16.refl _)).trans fun j hj => (thenF_old hj).symm) (Eq16.refl _))
  · obtain ⟨P, rfl, hP⟩ : ∃ P, M = 16 + P ∧ 0 < P := ⟨M - 16, by omega, by omega⟩
    rw [tagF_more P hP, tagF_more P hP, xorF_zero (thenF 16 (xorF (blkF Y R b) m) _)]
    refine tagF_e (blk_e ((xorF_e hb (Eq16.refl _)).trans fun j hj => (thenF_old hj).symm)) fun j _ => (thenF_new (N := 16) (δ := xorF (blkF Y R b) m) (β := fun j => m (16 + j)) j).symm
end
end Go.Proofs.Yteoiekooaokhaaa
