import Derived.Test.YthhkhcacljgelaaOcb
import Derived.Test.YthhkhcacljgelaaAes
import Derived.Test.YthhkhcacljgelaaProg
import Derived.Test.YthhkhcacljgelaaKyy
import Derived.Test.YthhkhcacljgelaaCpy
import Derived.Test.YthhkhcacljgelaaGen
import Derived.Deep.MidRow
set_option maxRecDepth 100000
/- Tags, as numbers. -/
namespace Go.Proofs.Ythhkhcacljgelaa
open Go.RowKit

theorem bs_ns {n : Nat} {f : Nat → Nat} (hf : ∀ j, j < n → f j < 256) : Bs (ns n f) := bs_of (ns_wf hf)
/-- A block, doubled. -/
def dbF (f : Nat → Nat) : Nat → Nat := fun j => (nth (rdL (ns 16 f)) j).toNat
theorem dbF_lt {f : Nat → Nat} (hf : B16 f) (j : Nat) : dbF f j < 256 := by
  have := (rdL_bs (bs_ns hf)).nth j
  unfold dbF; omega
theorem dbF_b {f : Nat → Nat} (hf : B16 f) : B16 (dbF f) := fun j _ => dbF_lt hf j
theorem dbF_ns {f : Nat → Nat} (hf : B16 f) : rdL (ns 16 f) = ns 16 (dbF f) := by
  have hl : (rdL (ns 16 f)).length = 16 := rdL_len16 (ns_len 16 f)
  refine List.ext_getElem (by rw [hl, ns_len]) fun j h1 h2 => ?_
  have h3 := ns_at (n := 16) (dbF f) (j := j) (by omega)
  rw [List.getElem?_eq_getElem h2] at h3
  injection h3 with h3
  have := (rdL_bs (bs_ns hf)).nth j
  rw [h3]; unfold dbF
  rw [nth_of h1] at *; omega
theorem dbF_e {f g : Nat → Nat} (h : Eq16 f g) : dbF f = dbF g := by unfold dbF; rw [ns_ext (n := 16) h]

theorem xorF_16 {f g : Nat → Nat} (hf : B16 f) (hg : B16 g) : B16 (xorF f g) := fun j hj => xorF_b (hf j hj) (hg j hj)
theorem xorF_e {f g f' g' : Nat → Nat} (h : Eq16 f f') (h' : Eq16 g g') : Eq16 (xorF f g) (xorF f' g') := fun j hj => by unfold xorF; rw [h j hj, h' j hj]
theorem xorF_assoc (f g k : Nat → Nat) : xorF (xorF f g) k = xorF f (xorF g k) := funext fun _ => Nat.xor_assoc _ _ _
theorem xorF_zero (f : Nat → Nat) : xorF (fun _ => 0) f = f := funext fun _ => Nat.zero_xor _
theorem B16.zero : B16 (fun _ => 0) := fun _ _ => Nat.zero_lt_succ 255

section
variable {Y : Nat → Nat → Nat} {R : Nat} {x y δ δ' : Nat → Nat}
/-- What x comes to by k blocks of δ. -/
def cbF (Y : Nat → Nat → Nat) (R : Nat) (x δ : Nat → Nat) : Nat → Nat → Nat
  | 0 => x
  | k + 1 => blkF Y R (xorF (cbF Y R x δ k) (fun j => δ (16 * k + j)))
theorem cbF_b (hY : YB Y R) (hx : B16 x) : ∀ k, (∀ j, j < 16 * k → δ j < 256) → B16 (cbF Y R x δ k)
  | 0, _ => hx
  | k + 1, h => blkF_b hY (xorF_16 (cbF_b hY hx k fun j hj => h j (by omega)) fun j hj => h _ (by omega))
theorem cbF_e (h : Eq16 x y) : ∀ k, (∀ j, j < 16 * k → δ j = δ' j) → Eq16 (cbF Y R x δ k) (cbF Y R y δ' k)
  | 0, _ => h
  | k + 1, hd => blk_e (xorF_e (cbF_e h k fun j hj => hd j (by omega)) fun j hj => hd _ (by omega))
theorem cbF_add (a : Nat) : ∀ b, cbF Y R x δ (a + b) = cbF Y R (cbF Y R x δ a) (fun j => δ (16 * a + j)) b
  | 0 => rfl
  | b + 1 => by
    show blkF Y R (xorF (cbF Y R x δ (a + b)) _) = blkF Y R (xorF (cbF Y R _ _ b) _)
    rw [cbF_add a b]
    congr 2
    funext j
    show δ (16 * (a + b) + j) = δ (16 * a + (16 * b + j))
    rw [show 16 * (a + b) + j = 16 * a + (16 * b + j) by omega]
/-- How many blocks stand ahead of the last one. -/
def bkN (M : Nat) : Nat := (M - 1) / 16
theorem bkN_le (M : Nat) : 16 * bkN M ≤ M := by unfold bkN; omega
theorem bkN_rest (M : Nat) : M - 16 * bkN M ≤ 16 := by unfold bkN; omega
theorem bkN_of {k n : Nat} (hn : n ≤ 16) (h : k = 0 ∨ 0 < n) : bkN (16 * k + n) = k := by unfold bkN; omega
theorem bkN_small {n : Nat} (hn : n ≤ 16) : bkN n = 0 := by unfold bkN; omega
/-- A block that is not full, filled. -/
def padF (n : Nat) (l : Nat → Nat) : Nat → Nat := fun j => if j < n then l j else if j = n then 128 else 0
theorem padF_b {n : Nat} {l : Nat → Nat} (h : ∀ j, j < n → l j < 256) (j : Nat) : padF n l j < 256 := by
  unfold padF; split
  · exact h j (by assumption)
  · split <;> decide
/-- Both masks. -/
def m1F (Y : Nat → Nat → Nat) (R : Nat) : Nat → Nat := dbF (blkF Y R (fun _ => 0))
def m2F (Y : Nat → Nat → Nat) (R : Nat) : Nat → Nat := dbF (m1F Y R)
theorem m1F_b (hY : YB Y R) : B16 (m1F Y R) := dbF_b (blkF_b hY B16.zero)
theorem m2F_b (hY : YB Y R) : B16 (m2F Y R) := dbF_b (m1F_b hY)
/-- The last block, of n bytes, behind x. -/
def endF (Y : Nat → Nat → Nat) (R : Nat) (x : Nat → Nat) (n : Nat) (l : Nat → Nat) : Nat → Nat :=
  if n < 16 then blkF Y R (xorF x (xorF (padF n l) (m2F Y R))) else blkF Y R (xorF x (xorF l (m1F Y R)))
theorem endF_b (hY : YB Y R) (hx : B16 x) {n : Nat} {l : Nat → Nat} (h : ∀ j, j < n → l j < 256) (hn : n ≤ 16) : B16 (endF Y R x n l) := by
  unfold endF; split
  · exact blkF_b hY (xorF_16 hx (xorF_16 (fun j _ => padF_b h j) (m2F_b hY)))
  · obtain rfl : n = 16 := by omega
    exact blkF_b hY (xorF_16 hx (xorF_16 h (m1F_b hY)))
theorem endF_e (h : Eq16 x y) {n : Nat} {l l' : Nat → Nat} (hn : n ≤ 16) (hl : ∀ j, j < n → l j = l' j) : Eq16 (endF Y R x n l) (endF Y R y n l') := by
  unfold endF; split
  · refine blk_e (xorF_e h (xorF_e (fun j _ => ?_) (Eq16.refl _)))
    unfold padF; split
    · exact hl j (by assumption)
    · rfl
  · obtain rfl : n = 16 := by omega
    exact blk_e (xorF_e h (xorF_e hl (Eq16.refl _)))
/-- The tag of M bytes of δ, from x on. -/
def tagF (Y : Nat → Nat → Nat) (R : Nat) (x : Nat → Nat) (M : Nat) (δ : Nat → Nat) : Nat → Nat := endF Y R (cbF Y R x δ (bkN M)) (M - 16 * bkN M) (fun j => δ (16 * bkN M + j))
theorem tagF_b (hY : YB Y R) (hx : B16 x) {M : Nat} (h : ∀ j, j < M → δ j < 256) : B16 (tagF Y R x M δ) :=
  endF_b hY (cbF_b hY hx _ fun j hj => h j (Nat.lt_of_lt_of_le hj (bkN_le M))) (fun j hj => h _ (by have := bkN_le M; omega)) (bkN_rest M)
theorem tagF_e (hx : Eq16 x y) {M : Nat} (h : ∀ j, j < M → δ j = δ' j) : Eq16 (tagF Y R x M δ) (tagF Y R y M δ') :=
  endF_e (cbF_e hx _ fun j hj => h j (Nat.lt_of_lt_of_le hj (bkN_le M))) (bkN_rest M) (fun j hj => h _ (by have := bkN_le M; omega))
theorem tagF_small {n : Nat} (hn : n ≤ 16) (l : Nat → Nat) : tagF Y R x n l = endF Y R x n l := by
  unfold tagF
  rw [bkN_small hn]
  show endF Y R x (n - 16 * 0) (fun j => l (16 * 0 + j)) = _
  rw [Nat.mul_zero, Nat.sub_zero]
  congr 1
  funext j; rw [Nat.zero_add]
/-- .. by a whole block more ahead. -/
theorem tagF_more (M : Nat) (hM : 0 < M) : tagF Y R x (16 + M) δ = tagF Y R (blkF Y R (xorF x δ)) M (fun j => δ (16 + j)) := by
  have hq : bkN (16 + M) = 1 + bkN M := by unfold bkN; omega
  unfold tagF
  rw [hq, cbF_add]
  have e1 : cbF Y R x δ 1 = blkF Y R (xorF x δ) := by
    show blkF Y R (xorF x (fun j => δ (16 * 0 + j))) = _
    congr 2; funext j; rw [Nat.mul_zero, Nat.zero_add]
  rw [e1, show 16 + M - 16 * (1 + bkN M) = M - 16 * bkN M by omega]
  congr 1
  funext j
  rw [show 16 * (1 + bkN M) + j = 16 + (16 * bkN M + j) by omega]

/-! ### a tag at work -/
/-- x, and n bytes l that wait: of N bytes δ. -/
structure Mst (Y : Nat → Nat → Nat) (R : Nat) (x : Nat → Nat) (n : Nat) (l : Nat → Nat) (N : Nat) (δ : Nat → Nat) : Prop where
  num : ∃ k, N = 16 * k + n ∧ (k = 0 ∨ 0 < n) ∧ Eq16 x (cbF Y R (fun _ => 0) δ k) ∧ ∀ j, j < n → l j = δ (16 * k + j)
  le : n ≤ 16
theorem Mst.start (l δ : Nat → Nat) : Mst Y R (fun _ => 0) 0 l 0 δ := ⟨⟨0, rfl, .inl rfl, Eq16.refl _, fun j hj => absurd hj (by omega)⟩, by decide⟩
theorem Mst.tag {n N : Nat} {l : Nat → Nat} (h : Mst Y R x n l N δ) : Eq16 (tagF Y R x n l) (tagF Y R (fun _ => 0) N δ) := by
  obtain ⟨⟨k, hN, hk, hx, hl⟩, hn⟩ := h
  rw [tagF_small hn]
  unfold tagF
  rw [hN, bkN_of hn hk, show 16 * k + n - 16 * k = n by omega]
  exact endF_e hx hn hl
/-- L bytes behind N. -/
def thenF (N : Nat) (δ β : Nat → Nat) : Nat → Nat := fun j => if j < N then δ j else β (j - N)
theorem thenF_b {N L : Nat} {δ β : Nat → Nat} (h : ∀ j, j < N → δ j < 256) (h' : ∀ j, j < L → β j < 256) : ∀ j, j < N + L → thenF N δ β j < 256 := fun j hj => by
  unfold thenF; split
  · exact h j (by assumption)
  · exact h' _ (by omega)
theorem thenF_old {N : Nat} {δ β : Nat → Nat} {j : Nat} (h : j < N) : thenF N δ β j = δ j := if_pos h
theorem thenF_new {N : Nat} {δ β : Nat → Nat} (j : Nat) : thenF N δ β (N + j) = β j := by unfold thenF; rw [if_neg (by omega)]; congr 1; omega
theorem ns_then (N L : Nat) (δ β : Nat → Nat) : ns N δ ++ ns L β = ns (N + L) (thenF N δ β) := by
  rw [← ns_app, ns_ext (n := N) (g := δ) (fun j hj => thenF_old hj), ns_ext (n := L) (f := fun j => thenF N δ β (N + j)) (g := β) (fun j _ => thenF_new j)]
theorem Mst.few {n N L : Nat} {l β : Nat → Nat} (h : Mst Y R x n l N δ) (hL : n + L ≤ 16) : Mst Y R x (n + L) (thenF n l β) (N + L) (thenF N δ β) := by
  obtain ⟨⟨k, hN, hk, hx, hl⟩, hn⟩ := h
  refine ⟨⟨k, by omega, by omega, hx.trans (cbF_e (Eq16.refl _) k fun j hj => (thenF_old (by omega)).symm), fun j hj => ?_⟩, hL⟩
  by_cases hj' : j < n
  · rw [thenF_old hj', thenF_old (by omega), hl j hj']
  · obtain ⟨i, rfl⟩ : ∃ i, j = n + i := ⟨j - n, by omega⟩
    rw [thenF_new, show 16 * k + (n + i) = N + i by omega, thenF_new]
theorem Mst.more {n N L p q : Nat} {l β : Nat → Nat} (h : Mst Y R x n l N δ) (hp : n + p = 16) (hL : p < L) (hq : q = bkN (L - p)) :
    Mst Y R (cbF Y R (blkF Y R (xorF x (thenF n l β))) (fun j => β (p + j)) q) (L - p - 16 * q) (fun j => β (p + (16 * q + j))) (N + L) (thenF N δ β) := by
  obtain ⟨⟨k, hN, hk, hx, hl⟩, hn⟩ := h
  have hq1 : 16 * q ≤ L - p := by rw [hq]; exact bkN_le _
  have hq2 : 0 < L - p - 16 * q := by rw [hq]; unfold bkN; omega
  have hq3 : L - p - 16 * q ≤ 16 := by rw [hq]; exact bkN_rest _
  refine ⟨⟨k + 1 + q, by omega, .inr hq2, ?_, fun j hj => ?_⟩, hq3⟩
  · rw [cbF_add]
    refine cbF_e (blk_e (xorF_e (hx.trans (cbF_e (Eq16.refl _) k fun j hj => (thenF_old (by omega)).symm)) fun j hj => ?_)) q fun j hj => ?_
    · by_cases hj' : j < n
      · rw [thenF_old hj', thenF_old (by omega), hl j hj']
      · obtain ⟨i, rfl⟩ : ∃ i, j = n + i := ⟨j - n, by omega⟩
        rw [thenF_new, show 16 * k + (n + i) = N + i by omega, thenF_new]
    · rw [show 16 * (k + 1) + j = N + (p + j) by omega, thenF_new]
  · rw [show 16 * (k + 1 + q) + j = N + (p + (16 * q + j)) by omega, thenF_new]
theorem Mst.ext {n N : Nat} {l l' : Nat → Nat} (h : Mst Y R x n l N δ) (e : ∀ j, j < n → l j = l' j) : Mst Y R x n l' N δ := by
  obtain ⟨⟨k, hN, hk, hx, hl⟩, hn⟩ := h
  exact ⟨⟨k, hN, hk, hx, fun j hj => (e j hj).symm.trans (hl j hj)⟩, hn⟩

/-! ### what CmacGoes says -/
theorem goes_one (b : Nat → Nat) : tagF Y R (fun _ => 0) 16 b = blkF Y R (xorF b (m1F Y R)) := by
  rw [tagF_small (Nat.le_refl _)]; unfold endF
  rw [if_neg (by decide), xorF_zero]
theorem goes_long (b m : Nat → Nat) {M : Nat} (hM : 16 ≤ M) :
    Eq16 (tagF Y R (fun _ => 0) (16 + M) (thenF 16 b m)) (tagF Y R (fun _ => 0) M (thenF 16 (xorF (blkF Y R b) m) (fun j => m (16 + j)))) := by
  have hb : Eq16 (blkF Y R (xorF (fun _ => 0) (thenF 16 b m))) (blkF Y R b) := by
    rw [xorF_zero]; exact blk_e fun j hj => thenF_old hj
  have hm : (fun j => thenF 16 b m (16 + j)) = m := funext fun j => thenF_new j
  rw [tagF_more M (by omega), hm]
  by_cases h : M = 16
  · subst h
    rw [tagF_small (Nat.le_refl _), goes_one]
    unfold endF
    rw [if_neg (by decide), ← xorF_assoc]
    exact blk_e (xorF_e ((xorF_e hb (Eq16.refl _)).trans fun j hj => (thenF_old hj).symm) (Eq16.refl _))
  · obtain ⟨P, rfl, hP⟩ : ∃ P, M = 16 + P ∧ 0 < P := ⟨M - 16, by omega, by omega⟩
    rw [tagF_more P hP, tagF_more P hP, xorF_zero (thenF 16 (xorF (blkF Y R b) m) _)]
    refine tagF_e (blk_e ((xorF_e hb (Eq16.refl _)).trans fun j hj => (thenF_old hj).symm)) fun j _ => (thenF_new (N := 16) (δ := xorF (blkF Y R b) m) (β := fun j => m (16 + j)) j).symm
end
end Go.Proofs.Ythhkhcacljgelaa

/- Doubling as numbers; entered, Masks, cut, filled. -/
namespace Go.Proofs.Ythhkhcacljgelaa
open Go.RowKit
set_option maxRecDepth 100000

theorem double_ns (v : Value) (f : Nat → Nat) (w : World) (h : Rd .u8 w v (ns 16 f)) (hf : B16 f) :
    Calls Try.prog 55 #[v] w fun e w' => ∃ g c, e = .returned (.slice (some ⟨g, 0, none⟩) 16 c) ∧ Own .u8 w.heap.size 5 w' (.slice (some ⟨g, 0, none⟩) 16 c) (ns 16 (dbF f)) ∧ Below w.heap.size w w' := by
  refine (double_any v _ w h).mono ?_
  rintro e w' ⟨u, rfl, hown, hlow⟩
  rw [double_math (bs_ns hf), dbF_ns hf] at hown
  obtain ⟨g, c, rfl, _⟩ := hown.part (by rw [ns_len]; decide)
  rw [ns_len] at hown ⊢
  exact ⟨g, c, rfl, hown, hlow⟩
theorem xor_16 (v v' : Value) (x y : Nat → Nat) (w : World) (h : Rd .u8 w v (ns 16 x)) (h' : Rd .u8 w v' (ns 16 y)) (hx : B16 x) (hy : B16 y) :
    Calls Try.prog 39 #[v, v'] w fun e w' => ∃ g c, e = .returned (.slice (some ⟨g, 0, none⟩) 16 c) ∧ Own .u8 w.heap.size 5 w' (.slice (some ⟨g, 0, none⟩) 16 c) (ns 16 (xorF x y)) ∧ Below w.heap.size w w' := by
  refine (xor_ns v v' 16 x y w h h' hx hy).mono ?_
  rintro e w' ⟨u, rfl, hown, hlow⟩
  obtain ⟨g, c, rfl, _⟩ := hown.part (by rw [ns_len]; decide)
  rw [ns_len] at hown ⊢
  exact ⟨g, c, rfl, hown, hlow⟩
/-- A cipher that may be, at work. -/
structure Gc (w : World) (d b c cap R R1 : Nat) (Y : Nat → Nat → Nat) : Prop where
  num : R1 = R + 1 ∧ 0 < R ∧ R ≤ 1000
  ci : Ci w d b c cap R1 Y
section
variable {w w' : World} {d b c cap R R1 : Nat} {Y : Nat → Nat → Nat}
theorem Gc.yb (h : Gc w d b c cap R R1 Y) : YB Y R := fun r hr => h.ci.rows.byte r (by have := h.num; omega)
theorem Gc.self (h : Gc w d b c cap R R1 Y) (hb : Below w.heap.size w w') : Gc w' d b c cap R R1 Y := ⟨h.num, h.ci.self hb⟩
theorem Gc.drew (h : Gc w d b c cap R R1 Y) : Gc w.drew d b c cap R R1 Y := ⟨h.num, h.ci.drew⟩
theorem Gc.lt (h : Gc w d b c cap R R1 Y) : b < w.heap.size := h.ci.box.lt
end
theorem Gc.only {w w' : World} {d b c cap R R1 : Nat} {Y : Nat → Nat → Nat} (h : Gc w d b c cap R R1 Y) (o : Only b w w') (hB : Box w' b) : Gc w' d b c cap R R1 Y := ⟨h.num, h.ci.only o hB⟩
theorem Only.rowNew {b n : Nat} {w w' : World} (o : Only b w w') (hn : w.heap.size ≤ n) (cs : Array Value) : Only b w (w'.setRow n cs) :=
  ⟨o.os, o.tape, o.output, by simpa using o.size, fun j hj hn' => (setRow_other w' n j cs (by omega)).trans (o.block j hj hn')⟩
theorem Gc.row {w w' : World} {d b c cap R R1 n : Nat} {Y : Nat → Nat → Nat} (h : Gc w d b c cap R R1 Y) (h' : Gc w' d b c cap R R1 Y) (o : Only b w w') (hn : w.heap.size ≤ n) (cs : Array Value) : Gc (w'.setRow n cs) d b c cap R R1 Y ∧ Only b w (w'.setRow n cs) :=
  ⟨h.only (o.rowNew hn cs) (h'.ci.box.same (setRow_other w' n b cs (by have := h.lt; omega))), o.rowNew hn cs⟩
theorem gblock_any (d b c cap R R1 : Nat) (Y : Nat → Nat → Nat) (f : Nat → Nat) (w : World) (h : Gc w d b c cap R R1 Y) (hf : B16 f) :
    Calls Try.prog 43 #[.pointer (some ⟨d, 0, none⟩), .agg (ba 16 f)] w fun e w' => e = .returned (.agg (ba 16 (blkF Y R f))) ∧ Gc w' d b c cap R R1 Y ∧ Only b w w' := by
  refine (block_any d b c cap R R1 Y f w h.num.1 h.num.2.1 h.num.2.2 hf h.ci).mono ?_
  rintro e w' ⟨rfl, hc, ho⟩
  exact ⟨rfl, ⟨h.num, hc⟩, ho⟩

set_option maxHeartbeats 800000 in
theorem entered_any (d b c cap R R1 : Nat) (Y : Nat → Nat → Nat) (s β : Nat → Nat) (v : Value) (w : World) (h : Gc w d b c cap R R1 Y) (hs : B16 s) (hβ : B16 β) (hv : Rd .u8 w v (ns 16 β)) :
    Calls Try.prog 32 #[.pointer (some ⟨d, 0, none⟩), .agg (ba 16 s), v] w fun e w' => e = .returned (.agg (ba 16 (blkF Y R (xorF s β)))) ∧ Gc w' d b c cap R R1 Y ∧ Only b w w' := by
  have HX := hid (bx2_zero w s)
  have HG := hid (h.self HX.out.low)
  have HV := hid (hv.self HX.out.low)
  have HS := hid hs
  have HB := hid hβ
  have HXB := hid (xorF_16 hs hβ)
  obtain ⟨av, cv, rfl, -, -, -⟩ := hv
  rw [ns_len] at *
  have HR := hid ((Wd.of_at HX.out.key hs).rd 16 (by decide))
  have HW0 := hid HX.out.low
  have HLT := hid h.lt
  have HG0 := hid h
  clear h hs hβ
  go_enter Try.func32, Try.ntmps32
  go_wp2_with (first
    | (go_at_call 39; go_loud (with_reducible refine (xor_16 (.slice (some ⟨w.heap.size, 0, none⟩) 16 16) _ s β _ HR.out HV.out HS.out HB.out).mono ?_); rintro e w1 ⟨g, cx, rfl, hown, hlow⟩
       have HL1 := hid hlow
       have HW1 := hid (wd_own hown HXB.out)
       have HG1 := hid (HG.out.self hlow)
       have har := arr_at g cx w1
       clear hown hlow)
    | (refine step_load_ma rfl 22 (.tmp 11) rfl g 0 16 (xorF s β) 5 rfl HW1.out.1.range Try.underlying22 infoa ?_)
    | (go_at_call 43; (with_reducible refine (gblock_any d b c cap R R1 Y (xorF s β) _ HG1.out HXB.out).mono ?_); rintro e w2 ⟨rfl, hg2, ho⟩
       have HG2 := hid hg2
       have HO2 := hid ho
       have HA2 : Hid (At w2 (w.heap.size + 1) 16 22 (fun _ => 0)) := hid ((ho.block _ (by have := (HX.out.beg.self HL1.out).lt; omega) (by have := HLT.out; omega)).trans (HX.out.beg.self HL1.out))
       clear hg2 ho)
    | (refine step_store_ba rfl 22 (.tmp 6) (.tmp 13) rfl (w.heap.size + 1) 16 22 (fun _ => 0) _ rfl rfl HA2.out infoa ?_))
  exact ret_ba rfl rfl Try.underlying22 infoa rfl (HA2.out.row _) ⟨rfl, HG0.out.row HG2.out ((Only.of_below HW0.out).trans ((Only.of_below HL1.out).trans HO2.out)) (by omega) _⟩
end Go.Proofs.Ythhkhcacljgelaa

/- Masks, cut. -/
namespace Go.Proofs.Ythhkhcacljgelaa
open Go.RowKit
set_option maxRecDepth 100000

theorem gblock_zero (d b c cap R R1 : Nat) (Y : Nat → Nat → Nat) (w : World) (h : Gc w d b c cap R R1 Y) :
    Calls Try.prog 43 #[.pointer (some ⟨d, 0, none⟩), .agg z16] w fun e w' => e = .returned (.agg (ba 16 (blkF Y R (fun _ => 0)))) ∧ Gc w' d b c cap R R1 Y ∧ Only b w w' :=
  gblock_any d b c cap R R1 Y (fun _ => 0) w h B16.zero

set_option maxHeartbeats 800000 in
theorem masks_any (d b c cap R R1 : Nat) (Y : Nat → Nat → Nat) (w : World) (h : Gc w d b c cap R R1 Y) :
    Calls Try.prog 44 #[.pointer (some ⟨d, 0, none⟩)] w fun e w' => ∃ g1 c1 g2 c2, e = .returned (.tuple #[.slice (some ⟨g1, 0, none⟩) 16 c1, .slice (some ⟨g2, 0, none⟩) 16 c2]) ∧
      Wd w' 16 g1 0 (m1F Y R) ∧ Wd w' 16 g2 0 (m2F Y R) ∧ w.heap.size ≤ g1 ∧ w.heap.size ≤ g2 ∧ Gc w' d b c cap R R1 Y ∧ Only b w w' := by
  have HG := hid h
  have HZ := hid (blkF_b h.yb B16.zero)
  have HM1 := hid (m1F_b h.yb)
  have HM2 := hid (m2F_b h.yb)
  have HC := hid (gblock_zero d b c cap R R1 Y w h)
  have HE : Hid (dbF (blkF Y R (fun _ => 0)) = m1F Y R ∧ dbF (m1F Y R) = m2F Y R) := hid ⟨rfl, rfl⟩
  generalize blkF Y R (fun _ => 0) = z at *
  generalize m1F Y R = m1 at *
  generalize m2F Y R = m2 at *
  clear h
  go_enter Try.func44, Try.ntmps44
  go_wp2_with (first
    | (go_at_call 43; (with_reducible refine HC.out.mono ?_); rintro e w1 ⟨rfl, hg1, ho⟩
       have HG1 := hid hg1
       have HO1 := hid ho
       have HA1 := hid (at_zero w1)
       clear hg1 ho)
    | (refine step_store_ba rfl 22 (.tmp 4) (.tmp 8) rfl w1.heap.size 16 22 (fun _ => 0) z rfl rfl HA1.out infoa ?_
       have HA2 := hid (HA1.out.row z)
       have HR2 := hid ((Wd.of_at HA2.out HZ.out).rd 16 (by decide))
       have HG2 : Hid (Gc ((w1.alloc (.cells z16 22)).setRow w1.heap.size (ba 16 z)) d b c cap R R1 Y ∧ Only b w ((w1.alloc (.cells z16 22)).setRow w1.heap.size (ba 16 z))) :=
         hid (HG.out.row (HG1.out.self ((Below.refl _ w1).alloc (Nat.le_refl _) _)) (HO1.out.trans (Only.of_below ((Below.refl _ w1).alloc (Nat.le_refl _) _))) HO1.out.size _)
       have HS2 : Hid (w1.heap.size ≤ ((w1.alloc (.cells z16 22)).setRow w1.heap.size (ba 16 z)).heap.size) := hid (by simp)
       generalize (w1.alloc (.cells z16 22)).setRow w1.heap.size (ba 16 z) = w2 at *)
    | (go_at_call 55; (with_reducible refine (double_ns (.slice (some ⟨w1.heap.size, 0, none⟩) 16 16) z w2 HR2.out HZ.out).mono ?_); rintro e w3 ⟨g1, c1, rfl, hown, hlow⟩
       rw [HE.out.1] at hown
       have HW3 := hid (wd_own hown HM1.out)
       have HR3 := hid (HW3.out.1.rd c1 (by decide))
       have HL3 := hid hlow
       clear hown hlow)
    | (go_at_call 55; (with_reducible refine (double_ns (.slice (some ⟨g1, 0, none⟩) 16 c1) m1 w3 HR3.out HM1.out).mono ?_); rintro e w4 ⟨g2, c2, rfl, hown, hlow⟩
       rw [HE.out.2] at hown
       have HW4 := hid (wd_own hown HM2.out)
       have HL4 := hid hlow
       clear hown hlow))
  go_ret2
  refine ⟨g1, c1, g2, c2, rfl, HW3.out.1.self HL4.out, HW4.out.1, ?_, ?_, (HG2.out.1.self HL3.out).self HL4.out, (HG2.out.2.trans (Only.of_below HL3.out)).trans (Only.of_below HL4.out)⟩
  · have := HW3.out.2; have := HG2.out.2.size; omega
  · have := HW4.out.2; have := HL3.out.size; have := HG2.out.2.size; omega

/-- Where the rest of a row lies. -/
def restA (a : Option Addr) (n c : Nat) : Option Addr := if c = n then a else a.map (·.add n)
theorem mcut_any (a : Option Addr) (M c n n0 : Nat) (w : World) (hM : M ≤ c) (hn : n = min n0 M) :
    Calls Try.prog 30 #[.slice a M c, .int .i64 n0] w fun e w' => e = .returned (.tuple #[.slice a n n, .slice (restA a n c) (M - n) (c - n)]) ∧ Below w.heap.size w w' := by
  by_cases h : M < n0
  · obtain rfl : n = M := by omega
    have h3 : (n : Int) < (n0 : Int) := by omega
    have h5 : (n : Int) ≤ (c : Int) := by omega
    by_cases h2 : c = n
    · subst h2
      have h4 : restA a c c = a := if_pos rfl
      rw [h4]
      clear h hn h4 hM
      go_enter Try.func30, Try.ntmps30
      go_wp2
      go_region
      go_wp2
      go_ret2
      exact ⟨by rw [Nat.sub_self]; rfl, (Below.refl _ _).drew⟩
    · have h4 : restA a n c = a.map (·.add n) := if_neg h2
      rw [h4]
      have h6 : ¬ (c : Int) = (n : Int) := by omega
      clear h hn h4 hM
      go_enter Try.func30, Try.ntmps30
      go_wp2
      go_region
      go_wp2
      go_ret2
      exact ⟨by rw [Nat.sub_self]; rfl, (Below.refl _ _).drew⟩
  · obtain rfl : n = n0 := by omega
    have h3 : ¬ (M : Int) < (n : Int) := by omega
    have h5 : (n : Int) ≤ (M : Int) := by omega
    have h7 : (n : Int) ≤ (c : Int) := by omega
    by_cases h2 : c = n
    · obtain rfl : M = n := by omega
      subst h2
      have h4 : restA a c c = a := if_pos rfl
      rw [h4]
      clear h hn h4 hM
      go_enter Try.func30, Try.ntmps30
      go_wp2
      go_region
      go_wp2
      go_ret2
      exact ⟨by rw [Nat.sub_self]; rfl, (Below.refl _ _).drew⟩
    · have h4 : restA a n c = a.map (·.add n) := if_neg h2
      rw [h4]
      have h6 : ¬ (c : Int) = (n : Int) := by omega
      clear h hn h4 hM
      go_enter Try.func30, Try.ntmps30
      go_wp2
      go_region
      go_wp2
      go_ret2
      exact ⟨rfl, (Below.refl _ _).drew⟩
end Go.Proofs.Ythhkhcacljgelaa

/- through. -/
namespace Go.Proofs.Ythhkhcacljgelaa
open Go.RowKit
set_option maxRecDepth 100000

theorem kept_head {b M n c : Nat} {a : Option Addr} {δ : Nat → Nat} {w : World} (h : Kept b w (.slice a M c) (ns M δ)) (hn : n ≤ M) : Kept b w (.slice a n n) (ns n δ) := fun W hW => by
  obtain ⟨a', c', e, h1, h2, h3⟩ := kept_prefix h hn W hW
  injection e with e1 e2 e3
  subst e1
  exact ⟨a, n, by rw [ns_len], h1, h2, h3⟩
theorem kept_rest {b M n c : Nat} {a : Option Addr} {δ : Nat → Nat} {w : World} (h : Kept b w (.slice a M c) (ns M δ)) (hM : M ≤ c) (hn : n ≤ M) : Kept b w (.slice (restA a n c) (M - n) (c - n)) (ns (M - n) (fun j => δ (n + j))) := by
  by_cases h0 : M - n = 0
  · rw [h0]; exact kept_zero _ _ _
  · obtain ⟨a', c', e, _, _, hc⟩ := h.rd
    injection e with e1 e2 e3
    subst e1
    obtain ⟨g, off, rfl, _⟩ := hc (by rw [ns_len]; omega)
    have hr : restA (some ⟨g, off, none⟩) n c = some ⟨g, off + n, none⟩ := by
      unfold restA; rw [if_neg (by omega), Option.map_some, Addr.add_mid]
    rw [hr]
    exact kept_suffix h hn
/-- A cut, of rows that were there at w0. -/
theorem kcut_any (b : Nat) (a : Option Addr) (M c n n0 : Nat) (δ : Nat → Nat) (w0 w : World) (hM : M ≤ c) (hn : n = min n0 M) (h : Kept b w0 (.slice a M c) (ns M δ)) :
    Calls Try.prog 30 #[.slice a M c, .int .i64 n0] w fun e w' => ∃ a', e = .returned (.tuple #[.slice a n n, .slice a' (M - n) (c - n)]) ∧
      Kept b w0 (.slice a n n) (ns n δ) ∧ Kept b w0 (.slice a' (M - n) (c - n)) (ns (M - n) (fun j => δ (n + j))) ∧ Below w.heap.size w w' := by
  refine (mcut_any a M c n n0 w hM hn).mono ?_
  rintro e w' ⟨rfl, hlow⟩
  exact ⟨_, rfl, kept_head h (by omega), kept_rest h hM (by omega), hlow⟩
theorem kcut16_any (b : Nat) (a : Option Addr) (M c n : Nat) (δ : Nat → Nat) (w0 w : World) (hM : M ≤ c) (hn : n = min 16 M) (h : Kept b w0 (.slice a M c) (ns M δ)) :
    Calls Try.prog 30 #[.slice a M c, .int .i64 16] w fun e w' => ∃ a', e = .returned (.tuple #[.slice a n n, .slice a' (M - n) (c - n)]) ∧
      Kept b w0 (.slice a n n) (ns n δ) ∧ Kept b w0 (.slice a' (M - n) (c - n)) (ns (M - n) (fun j => δ (n + j))) ∧ Below w.heap.size w w' := kcut_any b a M c n 16 δ w0 w hM hn h

/-- Blocks gone through: k of them; the next one, of n bytes; and m bytes behind it. -/
structure Th (w0 w : World) (d b c cap R R1 : Nat) (Y : Nat → Nat → Nat) (s δ : Nat → Nat) (M : Nat) (wr : World) (k : Nat) (a a' : Option Addr) (n m e : Nat) : Prop where
  base : Gc w d b c cap R R1 Y
  gc : Gc wr d b c cap R R1 Y
  low : Only b w wr
  var : At wr w.heap.size 16 22 (cbF Y R s δ k)
  out : At wr (w.heap.size + 1) 16 22 (fun _ => 0)
  cut : 16 * k + n + m = M ∧ n ≤ 16 ∧ (0 < m → n = 16) ∧ (k = 0 ∨ 0 < n) ∧ m ≤ e
  blk : Kept b w0 (.slice a n n) (ns n (fun j => δ (16 * k + j)))
  rest : Kept b w0 (.slice a' m e) (ns m (fun j => δ (16 * k + n + j)))
section
variable {w0 w wr w1 : World} {d b c cap R R1 M k n m e : Nat} {Y : Nat → Nat → Nat} {s δ : Nat → Nat} {a a' : Option Addr}
theorem Th.asked (h : Th w0 w d b c cap R R1 Y s δ M wr k a a' n m e) (hg : Gc w1 d b c cap R R1 Y) (o : Only b wr w1) : Th w0 w d b c cap R R1 Y s δ M w1 k a a' n m e :=
  ⟨h.base, hg, h.low.trans o, (o.block _ h.var.lt (by have := h.base.lt; omega)).trans h.var, (o.block _ h.out.lt (by have := h.base.lt; omega)).trans h.out, h.cut, h.blk, h.rest⟩
theorem Th.self (h : Th w0 w d b c cap R R1 Y s δ M wr k a a' n m e) (hb : Below wr.heap.size wr w1) : Th w0 w d b c cap R R1 Y s δ M w1 k a a' n m e := h.asked (h.gc.self hb) (Only.of_below hb)
/-- One block more is gone through, and the next one is cut off. -/
theorem Th.next (h : Th w0 w d b c cap R R1 Y s δ M wr k a a' 16 m e) (hm : 0 < m) {f : Nat → Nat} (hf : f = cbF Y R s δ (k + 1)) {n' : Nat} (hn : n' = min 16 m) {a2 : Option Addr} {w2 : World}
    (h1 : Kept b w0 (.slice a' n' n') (ns n' (fun j => δ (16 * k + 16 + j)))) (h2 : Kept b w0 (.slice a2 (m - n') (e - n')) (ns (m - n') (fun j => δ (16 * k + 16 + (n' + j)))))
    (hb : Below (wr.setRow w.heap.size (ba 16 f)).heap.size (wr.setRow w.heap.size (ba 16 f)) w2) : Th w0 w d b c cap R R1 Y s δ M w2 (k + 1) a' a2 n' (m - n') (e - n') := by
  have hr := h.base.row h.gc h.low (Nat.le_refl _) (ba 16 f)
  have hc := h.cut
  have hv : At (wr.setRow w.heap.size (ba 16 f)) w.heap.size 16 22 f := h.var.row f
  have ho : At (wr.setRow w.heap.size (ba 16 f)) (w.heap.size + 1) 16 22 (fun _ => 0) := h.out.rowApart (by omega) _
  subst hf
  refine ⟨h.base, hr.1.self hb, hr.2.trans (Only.of_below hb), hv.self hb, ho.self hb, by omega, ?_, ?_⟩
  · rw [show 16 * (k + 1) = 16 * k + 16 by omega]; exact h1
  · rw [show (fun j => δ (16 * (k + 1) + n' + j)) = (fun j => δ (16 * k + 16 + (n' + j))) from funext fun j => by rw [show 16 * (k + 1) + n' + j = 16 * k + 16 + (n' + j) by omega]]; exact h2
end

set_option maxHeartbeats 1600000 in
theorem through_any (d b c cap R R1 M e : Nat) (Y : Nat → Nat → Nat) (s δ : Nat → Nat) (a : Option Addr) (w0 w : World) (hob : Only b w0 w) (h : Gc w d b c cap R R1 Y) (hs : B16 s) (hδ : ∀ j, j < M → δ j < 256) (hM : M ≤ e) (hv : Kept b w0 (.slice a M e) (ns M δ)) :
    Calls Try.prog 31 #[.pointer (some ⟨d, 0, none⟩), .agg (ba 16 s), .slice a M e] w fun x w' => ∃ a', x = .returned (.tuple #[.agg (ba 16 (cbF Y R s δ (bkN M))), .slice a' (M - 16 * bkN M) (M - 16 * bkN M)]) ∧
      Kept b w0 (.slice a' (M - 16 * bkN M) (M - 16 * bkN M)) (ns (M - 16 * bkN M) (fun j => δ (16 * bkN M + j))) ∧ Gc w' d b c cap R R1 Y ∧ Only b w w' := by
  have HX := hid (bx2_zero w s)
  have HG := hid (h.self HX.out.low)
  have HG0 := hid h
  have HC := hid (fun W => kcut16_any b a M e (min 16 M) δ w0 W hM rfl hv)
  have HB : Hid (∀ k, 16 * k ≤ M → B16 (cbF Y R s δ k)) := hid (fun k hk => cbF_b h.yb hs k fun j hj => hδ j (by omega))
  have HD := hid hδ
  have HLT := hid h.lt
  have HOB := hid hob
  have HME := hid hM
  clear h hs hδ hM hv hob
  go_enter Try.func31, Try.ntmps31
  go_wp2_with (first
    | (go_at_call 30; (with_reducible refine (HC.out _).mono ?_); rintro x w1 ⟨a', rfl, hk1, hk2, hlow⟩
       have HT : Hid (Th w0 w d b c cap R R1 Y s δ M w1 0 a a' (min 16 M) (M - min 16 M) (e - min 16 M)) := hid (by
         refine ⟨HG0.out, HG.out.self hlow, (Only.of_below HX.out.low).trans (Only.of_below hlow), HX.out.key.self hlow, HX.out.beg.self hlow, by have := HME.out; omega, ?_, ?_⟩
         · simpa using hk1
         · simpa using hk2)
       clear hk1 hk2 hlow))
  go_loopw [8, 9] (fun x y wr => ∃ (k n m e1 : Nat) (a1 a2 : Option Addr), x = .slice a1 n n ∧ y = .slice a2 m e1 ∧ Th w0 w d b c cap R R1 Y s δ M wr k a1 a2 n m e1) (fun _ y _ => match y with | .slice _ L _ => L | _ => 0)
  case atStart => exact ⟨0, _, _, _, _, _, rfl, rfl, HT.out⟩
  case round =>
    obtain ⟨k, n, m, e1, a1, a2, rfl, rfl, hT⟩ := hrel
    have HI := hid hT
    clear hT HT HX HG HC
    by_cases h0 : 0 < m
    · obtain rfl : n = 16 := HI.out.cut.2.2.1 h0
      have h1 : (m : Int) > 0 := by omega
      have hcut := HI.out.cut
      have HS := hid (HB.out k (by omega))
      have HBD : Hid (B16 (fun j => δ (16 * k + j))) := hid (fun j hj => HD.out _ (by omega))
      have HF : Hid (cbF Y R s δ (k + 1) = blkF Y R (xorF (cbF Y R s δ k) (fun j => δ (16 * k + j)))) := hid rfl
      have HC := hid (fun W => kcut16_any b a2 m e1 (min 16 m) (fun j => δ (16 * k + 16 + j)) w0 W hcut.2.2.2.2 rfl HI.out.rest)
      have HRD := hid (HI.out.blk wr (HOB.out.trans HI.out.low))
      have H0 := hid h0
      clear hcut h0
      go_wp2_with (first
        | (refine step_load_ba rfl 22 _ rfl w.heap.size 16 22 5 (cbF Y R s δ k) rfl HI.out.var Try.underlying22 infoa ?_)
        | (go_at_call 32; (with_reducible refine (entered_any d b c cap R R1 Y (cbF Y R s δ k) (fun j => δ (16 * k + j)) _ wr HI.out.gc HS.out HBD.out HRD.out).mono ?_); rintro x w2 ⟨rfl, hg2, ho⟩
           have HI2 := hid (HI.out.asked hg2 ho)
           clear hg2 ho)
        | (refine step_store_ba rfl 22 (.tmp 4) (.tmp 21) rfl w.heap.size 16 22 (cbF Y R s δ k) (blkF Y R (xorF (cbF Y R s δ k) (fun j => δ (16 * k + j)))) rfl rfl HI2.out.var infoa ?_)
        | (go_at_call 30; (with_reducible refine (HC.out _).mono ?_); rintro x w4 ⟨a4, rfl, hk1, hk2, hlow⟩
           have HI4 := hid (HI2.out.next H0.out HF.out.symm rfl hk1 hk2 hlow)
           clear hk1 hk2 hlow))
      go_roundw
      case rel => exact ⟨k + 1, _, _, _, _, _, rfl, rfl, HI4.out⟩
      case measure => have := H0.out; show m - min 16 m < m; omega
    · obtain rfl : m = 0 := by omega
      have hcut := HI.out.cut
      have HM : Hid (bkN M = k ∧ M - 16 * k = n) := hid (by
        have hq := bkN_of hcut.2.1 hcut.2.2.2.1
        have hM : M = 16 * k + n := by omega
        rw [hM, hq]; omega)
      clear hcut h0
      go_wp2_with (first
        | (refine step_load_ba rfl 22 _ rfl w.heap.size 16 22 5 (cbF Y R s δ k) rfl HI.out.var Try.underlying22 infoa ?_)
        | (refine step_store_ba rfl 22 _ _ rfl (w.heap.size + 1) 16 22 (fun _ => 0) (cbF Y R s δ k) rfl rfl HI.out.out infoa ?_))
      have hr := HG0.out.row HI.out.gc HI.out.low (show w.heap.size ≤ w.heap.size + 1 by omega) (ba 16 (cbF Y R s δ k))
      refine ret_ba_tmp rfl rfl Try.underlying22 infoa rfl (HI.out.out.row (cbF Y R s δ k)) ?_
      rw [HM.out.1, HM.out.2]
      exact ⟨a1, rfl, HI.out.blk, hr.1, hr.2⟩
end Go.Proofs.Ythhkhcacljgelaa

/- filled, tagOf, Sum. -/
namespace Go.Proofs.Ythhkhcacljgelaa
open Go.RowKit
set_option maxRecDepth 100000

theorem pad_ns {n k : Nat} (l : Nat → Nat) (h : n + 1 + k = 16) : (ns n l ++ [(128 : Int)]) ++ List.replicate k 0 = ns 16 (padF n l) := by
  apply List.ext_getElem?
  intro i
  by_cases hi : i < 16
  · rw [ns_at _ hi]
    unfold padF
    by_cases h1 : i < n
    · rw [List.getElem?_append_left (by simp [ns_len]; omega), List.getElem?_append_left (by rw [ns_len]; exact h1), ns_at l h1, if_pos h1]
    · rw [if_neg h1]
      by_cases h2 : i = n
      · subst h2
        rw [List.getElem?_append_left (by simp [ns_len]), List.getElem?_append_right (by rw [ns_len]; omega), ns_len, if_pos rfl]
        simp
      · rw [List.getElem?_append_right (by simp [ns_len]; omega), if_neg h2, List.getElem?_replicate, if_pos (by simp [ns_len]; omega)]
        rfl
  · rw [List.getElem?_eq_none (by simp [ns_len]; omega), List.getElem?_eq_none (by rw [ns_len]; omega)]

set_option maxHeartbeats 800000 in
theorem filled_any (a : Option Addr) (n : Nat) (l : Nat → Nat) (w : World) (hn : n < 16) (h : Rd .u8 w (.slice a n n) (ns n l)) :
    Calls Try.prog 45 #[.slice a n n] w fun e w' => ∃ g c, e = .returned (.slice (some ⟨g, 0, none⟩) 16 c) ∧ Own .u8 w.heap.size 5 w' (.slice (some ⟨g, 0, none⟩) 16 c) (ns 16 (padF n l)) ∧ Below w.heap.size w w' := by
  have hb1 : Below w.heap.size w (w.alloc (.cells #[.int .u8 128] 5)) := (Below.refl _ _).alloc (Nat.le_refl _) _
  have h1 := h.self hb1
  obtain ⟨g, c, w2, hr1, ho1, hb2⟩ := run_append_full_at (P := Try.prog) (w.alloc (.cells #[.int .u8 128] 5)) .u8 23 23 5 Try.underlying23 info8 (by decide) a (ns n l) n (ns_len n l) h1 ⟨w.heap.size, 0, none⟩ 1 1 [(128 : Int)] rfl (cell_new_int w .u8 128 5) (by decide)
    (by show (n + 1) * 1 ≤ _; omega)
  obtain ⟨k, hk⟩ : ∃ k, n + 1 + k = 16 := ⟨15 - n, by omega⟩
  obtain ⟨g3, c3, w3, hr2, ho2, hg3⟩ := run_append_own_zeros (P := Try.prog) w2 (w.alloc (.cells #[.int .u8 128] 5)).heap.size 23 3 23 5 .i64 .i64 Try.underlying23 Try.underlying3 info8 g (n + 1) c (ns n l ++ [(128 : Int)]) (by simp [ns_len]) ho1 k (by omega) hb2.size
  rw [pad_ns l hk, hk] at ho2
  rw [hk] at hr2
  have HO : Hid (Own .u8 w.heap.size 5 w3 (.slice (some ⟨g3, 0, none⟩) 16 c3) (ns 16 (padF n l))) := hid (own_base ho2 (by simp))
  have HL : Hid (Below w.heap.size w w3) := hid (by
    have hgl := (ho1.lt g rfl).1
    simp only [World.size_alloc] at hgl
    exact (hb1.trans (hb2.mono (by simp))).grown hg3 (Nat.le_trans hb1.size hb2.size) (fun j e => by injection e with e; subst e; omega))
  have HR1 := hid hr1
  have HR2 := hid hr2
  obtain ⟨p, hp⟩ : ∃ p, n + 1 = p := ⟨_, rfl⟩
  rw [hp] at HR1 HR2
  have e1 : (16 : Int) - (p : Int) = (k : Int) := by omega
  have e2 : IntKind.i64.wrap (k : Int) = (k : Int) := by rw [IntKind.wrap_i64]; omega
  clear hb1 h1 hr1 ho1 hb2 hr2 ho2 hg3 h hk hp hn
  go_enter Try.func45, Try.ntmps45
  go_wp2_with (first
    | (at_builtin; refine wpList_append_run rfl (.tmp 4) (.tmp 5) 23 23 23 rfl rfl _ _ _ rfl rfl HR1.out ?_)
    | (at_builtin; refine wpList_append_run rfl (.tmp 7) (.tmp 10) 23 3 23 rfl rfl _ _ _ rfl rfl HR2.out ?_))
  go_ret
  exact ⟨g3, c3, rfl, HO.out, HL.out⟩
end Go.Proofs.Ythhkhcacljgelaa

/- tagOf, Sum. -/
namespace Go.Proofs.Ythhkhcacljgelaa
open Go.RowKit
set_option maxRecDepth 100000

/-- tagOf at its end: x what the blocks came to, in its variable; the last block's row and the mask. -/
structure Tz (w wr : World) (d b c cap R R1 : Nat) (Y : Nat → Nat → Nat) (x y m : Nat → Nat) (yv mv : Value) : Prop where
  base : Gc w d b c cap R R1 Y
  gc : Gc wr d b c cap R R1 Y
  low : Only b w wr
  var : At wr w.heap.size 16 22 x
  last : Rd .u8 wr yv (ns 16 y)
  mask : Rd .u8 wr mv (ns 16 m)
section
variable {w wr w1 : World} {d b c cap R R1 : Nat} {Y : Nat → Nat → Nat} {x y m : Nat → Nat} {yv mv : Value}
theorem Tz.self (h : Tz w wr d b c cap R R1 Y x y m yv mv) (hb : Below wr.heap.size wr w1) : Tz w w1 d b c cap R R1 Y x y m yv mv :=
  ⟨h.base, h.gc.self hb, h.low.trans (Only.of_below hb), h.var.self hb, h.last.self hb, h.mask.self hb⟩
theorem Tz.drew (h : Tz w wr d b c cap R R1 Y x y m yv mv) : Tz w wr.drew d b c cap R R1 Y x y m yv mv := h.self (Below.refl _ _).drew
end
/-- What is told at tagOf's end. -/
structure Te (w wr : World) (d b c cap R R1 : Nat) (Y : Nat → Nat → Nat) (g : Nat) (z : Nat → Nat) : Prop where
  gc : Gc wr d b c cap R R1 Y
  low : Only b w wr
  tag : At wr g 16 22 z
  new : w.heap.size ≤ g
theorem Te.row {w wr : World} {d b c cap R R1 g : Nat} {Y : Nat → Nat → Nat} {z z' : Nat → Nat} (h : Gc w d b c cap R R1 Y) (hg : Gc wr d b c cap R R1 Y) (o : Only b w wr) (ha : At wr g 16 22 z) (hn : w.heap.size ≤ g) : Te w (wr.setRow g (ba 16 z')) d b c cap R R1 Y g z' :=
  ⟨(h.row hg o hn _).1, (h.row hg o hn _).2, ha.row z', hn⟩

set_option maxHeartbeats 6400000 in
theorem tagOf_short (d b c cap R R1 M e n : Nat) (Y : Nat → Nat → Nat) (s δ : Nat → Nat) (a : Option Addr) (w : World) (h : Gc w d b c cap R R1 Y) (hs : B16 s) (hδ : ∀ j, j < M → δ j < 256) (hM : M ≤ e) (hv : Kept b w (.slice a M e) (ns M δ)) (hn : M - 16 * bkN M = n) (hn2 : n < 16) :
    Calls Try.prog 34 #[.pointer (some ⟨d, 0, none⟩), .agg (ba 16 s), .slice a M e] w fun x w' => ∃ g, x = .returned (.slice (some ⟨g, 0, none⟩) 16 16) ∧ Te w w' d b c cap R R1 Y g (tagF Y R s M δ) := by
  have hlow : Below w.heap.size w (w.alloc (.cells (ba 16 s) 22)) := (Below.refl _ _).alloc (Nat.le_refl _) _
  have HA := hid (At.new w 16 22 s)
  have HLW := hid hlow
  have HG0 := hid h
  have hT := through_any d b c cap R R1 M e Y s δ a w (w.alloc (.cells (ba 16 s) 22)) (Only.of_below hlow) (h.self hlow) hs hδ hM hv
  rw [hn] at hT
  have HT := hid hT
  have HXB : Hid (B16 (cbF Y R s δ (bkN M))) := hid (cbF_b h.yb hs _ fun j hj => hδ j (Nat.lt_of_lt_of_le hj (bkN_le M)))
  have HLB : Hid (∀ j, j < n → (fun j => δ (16 * bkN M + j)) j < 256) := hid (fun j hj => hδ _ (by have := bkN_le M; omega))
  have HMB : Hid (B16 (m2F Y R)) := hid (m2F_b h.yb)
  have HZ : Hid (blkF Y R (xorF (cbF Y R s δ (bkN M)) (xorF (padF n (fun j => δ (16 * bkN M + j))) (m2F Y R))) = tagF Y R s M δ) := hid (by
    unfold tagF endF
    rw [hn, if_pos hn2])
  have HYB : Hid (B16 (padF n (fun j => δ (16 * bkN M + j)))) := hid (fun j _ => padF_b HLB.out j)
  have HLT := hid h.lt
  have hn3 : (n : Int) < 16 := by omega
  have HN2 := hid hn2
  clear h hs hδ hM hv hn hT hlow hn2
  generalize cbF Y R s δ (bkN M) = x at *
  generalize (fun j => δ (16 * bkN M + j)) = l at *
  generalize hy : padF n l = y at *
  have HY := hid hy
  clear hy
  generalize tagF Y R s M δ = z at *
  have HMM := hid (fun W (hW : Gc W d b c cap R R1 Y) => masks_any d b c cap R R1 Y W hW)
  generalize m2F Y R = m at *
  have HYM := hid (xorF_16 HYB.out HMB.out)
  go_enter Try.func34, Try.ntmps34
  go_wp2_with (first
    | (refine step_load_ba rfl 22 _ rfl w.heap.size 16 22 5 s rfl HA.out Try.underlying22 infoa ?_)
    | (go_at_call 31; (with_reducible refine HT.out.mono ?_); rintro q w2 ⟨a', rfl, hk, hg, ho⟩
       have HK2 := hid hk
       have HG2 := hid hg
       have HA2 := hid (at_asked HA.out ho (by have := HLT.out; omega))
       have HO2 := hid ((Only.of_below HLW.out).trans ho)
       clear hk hg ho)
    | (refine step_store_ba rfl 22 _ _ rfl w.heap.size 16 22 s x rfl rfl HA2.out infoa ?_
       have HA3 := hid (HA2.out.row x)
       have HG3 := hid (HG0.out.row HG2.out HO2.out (Nat.le_refl _) (ba 16 x))
       generalize w2.setRow w.heap.size (ba 16 x) = w3 at *)
    | (go_at_call 44; (with_reducible refine (HMM.out w3 HG3.out.1).mono ?_); rintro q w4 ⟨g1, c1, g2, c2, rfl, hm1, hm2, hl1, hl2, hg, ho⟩
       have HO4 := hid (HG3.out.2.trans ho)
       have HG4 := hid hg
       have HM4 := hid (hm2.rd c2 (by decide))
       have HA4 := hid (at_asked HA3.out ho (by have := HLT.out; omega))
       clear hm1 hm2 hl1 hl2 hg ho)
    | (go_at_call 45; (with_reducible refine (filled_any a' n l w4 HN2.out ((HK2.out.later HO4.out).rd)).mono ?_); rintro q w5 ⟨gy, cy, rfl, hown, hlow⟩
       rw [HY.out] at hown
       have HT5 : Hid (Tz w w5 d b c cap R R1 Y x y m (.slice (some ⟨gy, 0, none⟩) 16 cy) (.slice (some ⟨g2, 0, none⟩) 16 c2)) := hid ⟨HG0.out, HG4.out.self hlow, HO4.out.trans (Only.of_below hlow), HA4.out.self hlow, (wd_own hown HYB.out).1.rd cy (by decide), HM4.out.self hlow⟩
       clear hown hlow))
  have HT0 := hid HT5.out.drew
  refine wp_region_noPanic ?_
  refine wp_region_held_drew (S := fun w' => At w' w.heap.size 16 22 x) (by kernel_rfl) (HT0.out.var) (fun h0 => ?_)
  generalize w5.drew = wa at *
  refine wpAnyH_take (i := 0) (v := .pointer (some ⟨d, 0, none⟩)) rfl (by kernel_rfl) (by kernel_rfl) (by kernel_rfl) (fun _ _ _ h => h) (.inl ⟨by rfl, fun w hw => by clear hw; go_simp⟩) h0 ?_
  try simp only [Act.put, lay_out]
  refine wpAnyH_take (i := 1) (v := .agg (ba 16 x)) rfl (by kernel_rfl) (by kernel_rfl) (by kernel_rfl) (fun _ _ _ h => h) (yields_load_ba (by rfl) 22 _ rfl w.heap.size 16 22 5 x rfl (fun w h => h) Try.underlying22 infoa) h0 ?_
  try simp only [Act.put, lay_out]
  refine wpAnyH_take (i := 2) (v := .slice (some ⟨gy, 0, none⟩) 16 cy) rfl (by kernel_rfl) (by kernel_rfl) (by kernel_rfl) (fun _ _ _ h => h) (.inl ⟨by rfl, fun w hw => by clear hw; go_simp⟩) h0 ?_
  try simp only [Act.put, lay_out]
  refine wpAnyH_take (i := 3) (v := .slice (some ⟨g2, 0, none⟩) 16 c2) rfl (by kernel_rfl) (by kernel_rfl) (by kernel_rfl) (fun _ _ _ h => h) (.inl ⟨by rfl, fun w hw => by clear hw; go_simp⟩) h0 ?_
  try simp only [Act.put, lay_out]
  refine wpAnyH_ready (rs := [4, 6]) (by kernel_rfl) (by simp) (AllReadyH.cons rfl (fun K hK => ?_) (AllReadyH.cons rfl (fun K hK => ?_) AllReadyH.nil))
  · rw [if_pos (by rfl)]
    go_simp
    go_at_call 39
    (with_reducible refine (xor_16 (.slice (some ⟨gy, 0, none⟩) 16 cy) (.slice (some ⟨g2, 0, none⟩) 16 c2) y m wa HT0.out.last HT0.out.mask HYB.out HMB.out).mono ?_); rintro e wb ⟨gx, cx, rfl, hown, hlow⟩
    have HT1 := hid (HT0.out.self hlow)
    have HWHT1 := hid ((wd_own hown HYM.out).1.rd cx (by decide))
    clear hown hlow
    refine hK.out _ _ (HT1.out.var) (fun h1x => ?_)
    clear hK K
    try simp only [Act.put, lay_out]
    refine wpAnyH_ready (rs := [5, 6]) (by kernel_rfl) (by simp) (AllReadyH.cons rfl (fun K hK => ?_) (AllReadyH.cons rfl (fun K hK => ?_) AllReadyH.nil))
    · rw [if_pos (by rfl)]
      go_simp
      go_at_call 32
      (with_reducible refine (entered_any d b c cap R R1 Y x (xorF y m) _ wb HT1.out.gc HXB.out HYM.out HWHT1.out).mono ?_); rintro e wc ⟨rfl, hg, ho⟩
      have HG2 : Hid (Gc wc d b c cap R R1 Y ∧ Only b w wc ∧ At wc w.heap.size 16 22 x) := hid ⟨hg, HT1.out.low.trans ho, at_asked HT1.out.var ho (by have := HT1.out.base.lt; omega)⟩
      clear hg ho
      refine hK.out _ _ (HG2.out.2.2) (fun h2x => ?_)
      clear hK K
      try simp only [Act.put, lay_out]
      refine wpAnyH_ready (rs := [6]) (by kernel_rfl) (by simp) (AllReadyH.cons rfl (fun K hK => ?_) AllReadyH.nil)
      rw [if_pos (by rfl)]
      go_simp
      have HA3 := hid (at_zero wc)
      have hlow : Below wc.heap.size wc (wc.alloc (.cells z16 22)) := (Below.refl _ _).alloc (Nat.le_refl _) _
      have HG3 : Hid (Gc (wc.alloc (.cells z16 22)) d b c cap R R1 Y ∧ Only b w (wc.alloc (.cells z16 22)) ∧ At (wc.alloc (.cells z16 22)) w.heap.size 16 22 x) := hid ⟨HG2.out.1.self hlow, HG2.out.2.1.trans (Only.of_below hlow), HG2.out.2.2.alloc _⟩
      have HNA : Hid (w.heap.size < wc.heap.size) := hid HG2.out.2.2.lt
      clear hlow
      refine hK.out _ _ (HG3.out.2.2) (fun h3x => ?_)
      clear hK K
      try simp only [Act.put, lay_out]
      refine wpAnyH_ready (rs := [7]) (by kernel_rfl) (by simp) (AllReadyH.cons rfl (fun K hK => ?_) AllReadyH.nil)
      rw [if_pos (by rfl)]
      refine wp_store_row 22 (.tmp 10) (.tmp 34) rfl wc.heap.size (ba 16 (blkF Y R (xorF x (xorF y m)))) rfl rfl 22 _ HA3.out (by rw [ba_size]; exact infoa) (by rw [ba_size, ba_size]) (ba_one 16 _) ?_
      have HE := hid (Te.row (z' := blkF Y R (xorF x (xorF y m))) HT0.out.base HG3.out.1 HG3.out.2.1 HA3.out (by have := HG3.out.2.1.size; have := HNA.out; omega))
      refine hK.out _ _ (HG3.out.2.2.rowApart (by have := HNA.out; omega) _) (fun h4x => ?_)
      clear hK K
      try simp only [Act.put, lay_out]
      refine wpAnyH_done (by kernel_rfl) ?_ _
      refine NoPanic.normal ?_
      clear h0 h1x h2x h3x h4x
      try simp only [Act.put, lay_out]
      generalize (wc.alloc (.cells z16 22)).setRow wc.heap.size (ba 16 (blkF Y R (xorF x (xorF y m)))) = we at *
      rw [HZ.out] at HE
      go_wp2
      go_ret
      exact ⟨wc.heap.size, rfl, HE.out⟩
    · rw [if_pos (by rfl)]
      go_simp
      have HA3 := hid (at_zero wb)
      have hlow : Below wb.heap.size wb (wb.alloc (.cells z16 22)) := (Below.refl _ _).alloc (Nat.le_refl _) _
      have HT3 := hid (HT1.out.self hlow)
      have HW3 := hid (HWHT1.out.self hlow)
      have HNA : Hid (w.heap.size < wb.heap.size ∧ b < wb.heap.size) := hid ⟨HT1.out.var.lt, by have := HT1.out.gc.lt; omega⟩
      clear hlow
      refine hK.out _ _ (HT3.out.var) (fun h2x => ?_)
      clear hK K
      try simp only [Act.put, lay_out]
      refine wpAnyH_ready (rs := [5]) (by kernel_rfl) (by simp) (AllReadyH.cons rfl (fun K hK => ?_) AllReadyH.nil)
      rw [if_pos (by rfl)]
      go_simp
      go_at_call 32
      (with_reducible refine (entered_any d b c cap R R1 Y x (xorF y m) _ (wb.alloc (.cells z16 22)) HT3.out.gc HXB.out HYM.out HW3.out).mono ?_); rintro e wc ⟨rfl, hg, ho⟩
      have HG2 : Hid (Gc wc d b c cap R R1 Y ∧ Only b w wc ∧ At wc w.heap.size 16 22 x) := hid ⟨hg, HT3.out.low.trans ho, at_asked HT3.out.var ho (by have := HT3.out.base.lt; omega)⟩
      have HA4 := hid (at_asked HA3.out ho (by have := HNA.out; omega))
      clear hg ho
      refine hK.out _ _ (HG2.out.2.2) (fun h3x => ?_)
      clear hK K
      try simp only [Act.put, lay_out]
      refine wpAnyH_ready (rs := [7]) (by kernel_rfl) (by simp) (AllReadyH.cons rfl (fun K hK => ?_) AllReadyH.nil)
      rw [if_pos (by rfl)]
      refine wp_store_row 22 (.tmp 10) (.tmp 34) rfl wb.heap.size (ba 16 (blkF Y R (xorF x (xorF y m)))) rfl rfl 22 _ HA4.out (by rw [ba_size]; exact infoa) (by rw [ba_size, ba_size]) (ba_one 16 _) ?_
      have HE := hid (Te.row (z' := blkF Y R (xorF x (xorF y m))) HT0.out.base HG2.out.1 HG2.out.2.1 HA4.out (by have := HG2.out.2.1.size; have := HNA.out; omega))
      refine hK.out _ _ (HG2.out.2.2.rowApart (by have := HNA.out; omega) _) (fun h4x => ?_)
      clear hK K
      try simp only [Act.put, lay_out]
      refine wpAnyH_done (by kernel_rfl) ?_ _
      refine NoPanic.normal ?_
      clear h0 h1x h2x h3x h4x
      try simp only [Act.put, lay_out]
      generalize wc.setRow wb.heap.size (ba 16 (blkF Y R (xorF x (xorF y m)))) = we at *
      rw [HZ.out] at HE
      go_wp2
      go_ret
      exact ⟨wb.heap.size, rfl, HE.out⟩
  · rw [if_pos (by rfl)]
    go_simp
    have HA3 := hid (at_zero wa)
    have hlow : Below wa.heap.size wa (wa.alloc (.cells z16 22)) := (Below.refl _ _).alloc (Nat.le_refl _) _
    have HT3 := hid (HT0.out.self hlow)
    have HNA : Hid (w.heap.size < wa.heap.size ∧ b < wa.heap.size) := hid ⟨HT0.out.var.lt, by have := HT0.out.gc.lt; omega⟩
    clear hlow
    refine hK.out _ _ (HT3.out.var) (fun h1x => ?_)
    clear hK K
    try simp only [Act.put, lay_out]
    refine wpAnyH_ready (rs := [4]) (by kernel_rfl) (by simp) (AllReadyH.cons rfl (fun K hK => ?_) AllReadyH.nil)
    rw [if_pos (by rfl)]
    go_simp
    go_at_call 39
    (with_reducible refine (xor_16 (.slice (some ⟨gy, 0, none⟩) 16 cy) (.slice (some ⟨g2, 0, none⟩) 16 c2) y m (wa.alloc (.cells z16 22)) HT3.out.last HT3.out.mask HYB.out HMB.out).mono ?_); rintro e wb ⟨gx, cx, rfl, hown, hlow⟩
    have HT1 := hid (HT3.out.self hlow)
    have HWHT1 := hid ((wd_own hown HYM.out).1.rd cx (by decide))
    have HA4 := hid (HA3.out.self hlow)
    clear hown hlow
    refine hK.out _ _ (HT1.out.var) (fun h2x => ?_)
    clear hK K
    try simp only [Act.put, lay_out]
    refine wpAnyH_ready (rs := [5]) (by kernel_rfl) (by simp) (AllReadyH.cons rfl (fun K hK => ?_) AllReadyH.nil)
    rw [if_pos (by rfl)]
    go_simp
    go_at_call 32
    (with_reducible refine (entered_any d b c cap R R1 Y x (xorF y m) _ wb HT1.out.gc HXB.out HYM.out HWHT1.out).mono ?_); rintro e wc ⟨rfl, hg, ho⟩
    have HG2 : Hid (Gc wc d b c cap R R1 Y ∧ Only b w wc ∧ At wc w.heap.size 16 22 x) := hid ⟨hg, HT1.out.low.trans ho, at_asked HT1.out.var ho (by have := HT1.out.base.lt; omega)⟩
    have HA5 := hid (at_asked HA4.out ho (by have := HNA.out; omega))
    clear hg ho
    refine hK.out _ _ (HG2.out.2.2) (fun h3x => ?_)
    clear hK K
    try simp only [Act.put, lay_out]
    refine wpAnyH_ready (rs := [7]) (by kernel_rfl) (by simp) (AllReadyH.cons rfl (fun K hK => ?_) AllReadyH.nil)
    rw [if_pos (by rfl)]
    refine wp_store_row 22 (.tmp 10) (.tmp 34) rfl wa.heap.size (ba 16 (blkF Y R (xorF x (xorF y m)))) rfl rfl 22 _ HA5.out (by rw [ba_size]; exact infoa) (by rw [ba_size, ba_size]) (ba_one 16 _) ?_
    have HE := hid (Te.row (z' := blkF Y R (xorF x (xorF y m))) HT0.out.base HG2.out.1 HG2.out.2.1 HA5.out (by have := HG2.out.2.1.size; have := HNA.out; omega))
    refine hK.out _ _ (HG2.out.2.2.rowApart (by have := HNA.out; omega) _) (fun h4x => ?_)
    clear hK K
    try simp only [Act.put, lay_out]
    refine wpAnyH_done (by kernel_rfl) ?_ _
    refine NoPanic.normal ?_
    clear h0 h1x h2x h3x h4x
    try simp only [Act.put, lay_out]
    generalize wc.setRow wa.heap.size (ba 16 (blkF Y R (xorF x (xorF y m)))) = we at *
    rw [HZ.out] at HE
    go_wp2
    go_ret
    exact ⟨wa.heap.size, rfl, HE.out⟩

set_option maxHeartbeats 6400000 in
theorem tagOf_full (d b c cap R R1 M e : Nat) (Y : Nat → Nat → Nat) (s δ : Nat → Nat) (a : Option Addr) (w : World) (h : Gc w d b c cap R R1 Y) (hs : B16 s) (hδ : ∀ j, j < M → δ j < 256) (hM : M ≤ e) (hv : Kept b w (.slice a M e) (ns M δ)) (hn : M - 16 * bkN M = 16) :
    Calls Try.prog 34 #[.pointer (some ⟨d, 0, none⟩), .agg (ba 16 s), .slice a M e] w fun x w' => ∃ g, x = .returned (.slice (some ⟨g, 0, none⟩) 16 16) ∧ Te w w' d b c cap R R1 Y g (tagF Y R s M δ) := by
  have hlow : Below w.heap.size w (w.alloc (.cells (ba 16 s) 22)) := (Below.refl _ _).alloc (Nat.le_refl _) _
  have HA := hid (At.new w 16 22 s)
  have HLW := hid hlow
  have HG0 := hid h
  have hT := through_any d b c cap R R1 M e Y s δ a w (w.alloc (.cells (ba 16 s) 22)) (Only.of_below hlow) (h.self hlow) hs hδ hM hv
  rw [hn] at hT
  have HT := hid hT
  have HXB : Hid (B16 (cbF Y R s δ (bkN M))) := hid (cbF_b h.yb hs _ fun j hj => hδ j (Nat.lt_of_lt_of_le hj (bkN_le M)))
  have HLB : Hid (∀ j, j < 16 → (fun j => δ (16 * bkN M + j)) j < 256) := hid (fun j hj => hδ _ (by have := bkN_le M; omega))
  have HMB : Hid (B16 (m1F Y R)) := hid (m1F_b h.yb)
  have HZ : Hid (blkF Y R (xorF (cbF Y R s δ (bkN M)) (xorF ((fun j => δ (16 * bkN M + j))) (m1F Y R))) = tagF Y R s M δ) := hid (by
    unfold tagF endF
    rw [hn, if_neg (by decide)])
  have HYB : Hid (B16 (fun j => δ (16 * bkN M + j))) := hid HLB.out
  have HLT := hid h.lt
  clear h hs hδ hM hv hn hT hlow
  generalize cbF Y R s δ (bkN M) = x at *
  generalize (fun j => δ (16 * bkN M + j)) = l at *
  generalize hy : l = y at *
  clear hy
  generalize tagF Y R s M δ = z at *
  have HMM := hid (fun W (hW : Gc W d b c cap R R1 Y) => masks_any d b c cap R R1 Y W hW)
  generalize m1F Y R = m at *
  have HYM := hid (xorF_16 HYB.out HMB.out)
  go_enter Try.func34, Try.ntmps34
  go_wp2_with (first
    | (refine step_load_ba rfl 22 _ rfl w.heap.size 16 22 5 s rfl HA.out Try.underlying22 infoa ?_)
    | (go_at_call 31; (with_reducible refine HT.out.mono ?_); rintro q w2 ⟨a', rfl, hk, hg, ho⟩
       have HK2 := hid hk
       have HG2 := hid hg
       have HA2 := hid (at_asked HA.out ho (by have := HLT.out; omega))
       have HO2 := hid ((Only.of_below HLW.out).trans ho)
       clear hk hg ho)
    | (refine step_store_ba rfl 22 _ _ rfl w.heap.size 16 22 s x rfl rfl HA2.out infoa ?_
       have HA3 := hid (HA2.out.row x)
       have HG3 := hid (HG0.out.row HG2.out HO2.out (Nat.le_refl _) (ba 16 x))
       generalize w2.setRow w.heap.size (ba 16 x) = w3 at *)
    | (go_at_call 44; (with_reducible refine (HMM.out w3 HG3.out.1).mono ?_); rintro q w4 ⟨g1, c1, g2, c2, rfl, hm1, hm2, hl1, hl2, hg, ho⟩
       have HO4 := hid (HG3.out.2.trans ho)
       have HG4 := hid hg
       have HM4 := hid (hm1.rd c1 (by decide))
       have HA4 := hid (at_asked HA3.out ho (by have := HLT.out; omega))
       have HT5 : Hid (Tz w w4 d b c cap R R1 Y x y m (.slice a' 16 16) (.slice (some ⟨g1, 0, none⟩) 16 c1)) := hid ⟨HG0.out, HG4.out, HO4.out, HA4.out, (HK2.out.later HO4.out).rd, HM4.out⟩
       clear hm1 hm2 hl1 hl2 hg ho)
    )
  have HT0 := hid HT5.out.drew
  refine wp_region_noPanic ?_
  refine wp_region_held_drew (S := fun w' => At w' w.heap.size 16 22 x) (by kernel_rfl) (HT0.out.var) (fun h0 => ?_)
  generalize w4.drew = wa at *
  refine wpAnyH_take (i := 0) (v := .pointer (some ⟨d, 0, none⟩)) rfl (by kernel_rfl) (by kernel_rfl) (by kernel_rfl) (fun _ _ _ h => h) (.inl ⟨by rfl, fun w hw => by clear hw; go_simp⟩) h0 ?_
  try simp only [Act.put, lay_out]
  refine wpAnyH_take (i := 1) (v := .agg (ba 16 x)) rfl (by kernel_rfl) (by kernel_rfl) (by kernel_rfl) (fun _ _ _ h => h) (yields_load_ba (by rfl) 22 _ rfl w.heap.size 16 22 5 x rfl (fun w h => h) Try.underlying22 infoa) h0 ?_
  try simp only [Act.put, lay_out]
  refine wpAnyH_take (i := 2) (v := .slice a' 16 16) rfl (by kernel_rfl) (by kernel_rfl) (by kernel_rfl) (fun _ _ _ h => h) (.inl ⟨by rfl, fun w hw => by clear hw; go_simp⟩) h0 ?_
  try simp only [Act.put, lay_out]
  refine wpAnyH_take (i := 3) (v := .slice (some ⟨g1, 0, none⟩) 16 c1) rfl (by kernel_rfl) (by kernel_rfl) (by kernel_rfl) (fun _ _ _ h => h) (.inl ⟨by rfl, fun w hw => by clear hw; go_simp⟩) h0 ?_
  try simp only [Act.put, lay_out]
  refine wpAnyH_ready (rs := [4, 6]) (by kernel_rfl) (by simp) (AllReadyH.cons rfl (fun K hK => ?_) (AllReadyH.cons rfl (fun K hK => ?_) AllReadyH.nil))
  · rw [if_pos (by rfl)]
    go_simp
    go_at_call 39
    (with_reducible refine (xor_16 (.slice a' 16 16) (.slice (some ⟨g1, 0, none⟩) 16 c1) y m wa HT0.out.last HT0.out.mask HYB.out HMB.out).mono ?_); rintro e wb ⟨gx, cx, rfl, hown, hlow⟩
    have HT1 := hid (HT0.out.self hlow)
    have HWHT1 := hid ((wd_own hown HYM.out).1.rd cx (by decide))
    clear hown hlow
    refine hK.out _ _ (HT1.out.var) (fun h1x => ?_)
    clear hK K
    try simp only [Act.put, lay_out]
    refine wpAnyH_ready (rs := [5, 6]) (by kernel_rfl) (by simp) (AllReadyH.cons rfl (fun K hK => ?_) (AllReadyH.cons rfl (fun K hK => ?_) AllReadyH.nil))
    · rw [if_pos (by rfl)]
      go_simp
      go_at_call 32
      (with_reducible refine (entered_any d b c cap R R1 Y x (xorF y m) _ wb HT1.out.gc HXB.out HYM.out HWHT1.out).mono ?_); rintro e wc ⟨rfl, hg, ho⟩
      have HG2 : Hid (Gc wc d b c cap R R1 Y ∧ Only b w wc ∧ At wc w.heap.size 16 22 x) := hid ⟨hg, HT1.out.low.trans ho, at_asked HT1.out.var ho (by have := HT1.out.base.lt; omega)⟩
      clear hg ho
      refine hK.out _ _ (HG2.out.2.2) (fun h2x => ?_)
      clear hK K
      try simp only [Act.put, lay_out]
      refine wpAnyH_ready (rs := [6]) (by kernel_rfl) (by simp) (AllReadyH.cons rfl (fun K hK => ?_) AllReadyH.nil)
      rw [if_pos (by rfl)]
      go_simp
      have HA3 := hid (at_zero wc)
      have hlow : Below wc.heap.size wc (wc.alloc (.cells z16 22)) := (Below.refl _ _).alloc (Nat.le_refl _) _
      have HG3 : Hid (Gc (wc.alloc (.cells z16 22)) d b c cap R R1 Y ∧ Only b w (wc.alloc (.cells z16 22)) ∧ At (wc.alloc (.cells z16 22)) w.heap.size 16 22 x) := hid ⟨HG2.out.1.self hlow, HG2.out.2.1.trans (Only.of_below hlow), HG2.out.2.2.alloc _⟩
      have HNA : Hid (w.heap.size < wc.heap.size) := hid HG2.out.2.2.lt
      clear hlow
      refine hK.out _ _ (HG3.out.2.2) (fun h3x => ?_)
      clear hK K
      try simp only [Act.put, lay_out]
      refine wpAnyH_ready (rs := [7]) (by kernel_rfl) (by simp) (AllReadyH.cons rfl (fun K hK => ?_) AllReadyH.nil)
      rw [if_pos (by rfl)]
      refine wp_store_row 22 (.tmp 10) (.tmp 34) rfl wc.heap.size (ba 16 (blkF Y R (xorF x (xorF y m)))) rfl rfl 22 _ HA3.out (by rw [ba_size]; exact infoa) (by rw [ba_size, ba_size]) (ba_one 16 _) ?_
      have HE := hid (Te.row (z' := blkF Y R (xorF x (xorF y m))) HT0.out.base HG3.out.1 HG3.out.2.1 HA3.out (by have := HG3.out.2.1.size; have := HNA.out; omega))
      refine hK.out _ _ (HG3.out.2.2.rowApart (by have := HNA.out; omega) _) (fun h4x => ?_)
      clear hK K
      try simp only [Act.put, lay_out]
      refine wpAnyH_done (by kernel_rfl) ?_ _
      refine NoPanic.normal ?_
      clear h0 h1x h2x h3x h4x
      try simp only [Act.put, lay_out]
      generalize (wc.alloc (.cells z16 22)).setRow wc.heap.size (ba 16 (blkF Y R (xorF x (xorF y m)))) = we at *
      rw [HZ.out] at HE
      go_wp2
      go_ret
      exact ⟨wc.heap.size, rfl, HE.out⟩
    · rw [if_pos (by rfl)]
      go_simp
      have HA3 := hid (at_zero wb)
      have hlow : Below wb.heap.size wb (wb.alloc (.cells z16 22)) := (Below.refl _ _).alloc (Nat.le_refl _) _
      have HT3 := hid (HT1.out.self hlow)
      have HW3 := hid (HWHT1.out.self hlow)
      have HNA : Hid (w.heap.size < wb.heap.size ∧ b < wb.heap.size) := hid ⟨HT1.out.var.lt, by have := HT1.out.gc.lt; omega⟩
      clear hlow
      refine hK.out _ _ (HT3.out.var) (fun h2x => ?_)
      clear hK K
      try simp only [Act.put, lay_out]
      refine wpAnyH_ready (rs := [5]) (by kernel_rfl) (by simp) (AllReadyH.cons rfl (fun K hK => ?_) AllReadyH.nil)
      rw [if_pos (by rfl)]
      go_simp
      go_at_call 32
      (with_reducible refine (entered_any d b c cap R R1 Y x (xorF y m) _ (wb.alloc (.cells z16 22)) HT3.out.gc HXB.out HYM.out HW3.out).mono ?_); rintro e wc ⟨rfl, hg, ho⟩
      have HG2 : Hid (Gc wc d b c cap R R1 Y ∧ Only b w wc ∧ At wc w.heap.size 16 22 x) := hid ⟨hg, HT3.out.low.trans ho, at_asked HT3.out.var ho (by have := HT3.out.base.lt; omega)⟩
      have HA4 := hid (at_asked HA3.out ho (by have := HNA.out; omega))
      clear hg ho
      refine hK.out _ _ (HG2.out.2.2) (fun h3x => ?_)
      clear hK K
      try simp only [Act.put, lay_out]
      refine wpAnyH_ready (rs := [7]) (by kernel_rfl) (by simp) (AllReadyH.cons rfl (fun K hK => ?_) AllReadyH.nil)
      rw [if_pos (by rfl)]
      refine wp_store_row 22 (.tmp 10) (.tmp 34) rfl wb.heap.size (ba 16 (blkF Y R (xorF x (xorF y m)))) rfl rfl 22 _ HA4.out (by rw [ba_size]; exact infoa) (by rw [ba_size, ba_size]) (ba_one 16 _) ?_
      have HE := hid (Te.row (z' := blkF Y R (xorF x (xorF y m))) HT0.out.base HG2.out.1 HG2.out.2.1 HA4.out (by have := HG2.out.2.1.size; have := HNA.out; omega))
      refine hK.out _ _ (HG2.out.2.2.rowApart (by have := HNA.out; omega) _) (fun h4x => ?_)
      clear hK K
      try simp only [Act.put, lay_out]
      refine wpAnyH_done (by kernel_rfl) ?_ _
      refine NoPanic.normal ?_
      clear h0 h1x h2x h3x h4x
      try simp only [Act.put, lay_out]
      generalize wc.setRow wb.heap.size (ba 16 (blkF Y R (xorF x (xorF y m)))) = we at *
      rw [HZ.out] at HE
      go_wp2
      go_ret
      exact ⟨wb.heap.size, rfl, HE.out⟩
  · rw [if_pos (by rfl)]
    go_simp
    have HA3 := hid (at_zero wa)
    have hlow : Below wa.heap.size wa (wa.alloc (.cells z16 22)) := (Below.refl _ _).alloc (Nat.le_refl _) _
    have HT3 := hid (HT0.out.self hlow)
    have HNA : Hid (w.heap.size < wa.heap.size ∧ b < wa.heap.size) := hid ⟨HT0.out.var.lt, by have := HT0.out.gc.lt; omega⟩
    clear hlow
    refine hK.out _ _ (HT3.out.var) (fun h1x => ?_)
    clear hK K
    try simp only [Act.put, lay_out]
    refine wpAnyH_ready (rs := [4]) (by kernel_rfl) (by simp) (AllReadyH.cons rfl (fun K hK => ?_) AllReadyH.nil)
    rw [if_pos (by rfl)]
    go_simp
    go_at_call 39
    (with_reducible refine (xor_16 (.slice a' 16 16) (.slice (some ⟨g1, 0, none⟩) 16 c1) y m (wa.alloc (.cells z16 22)) HT3.out.last HT3.out.mask HYB.out HMB.out).mono ?_); rintro e wb ⟨gx, cx, rfl, hown, hlow⟩
    have HT1 := hid (HT3.out.self hlow)
    have HWHT1 := hid ((wd_own hown HYM.out).1.rd cx (by decide))
    have HA4 := hid (HA3.out.self hlow)
    clear hown hlow
    refine hK.out _ _ (HT1.out.var) (fun h2x => ?_)
    clear hK K
    try simp only [Act.put, lay_out]
    refine wpAnyH_ready (rs := [5]) (by kernel_rfl) (by simp) (AllReadyH.cons rfl (fun K hK => ?_) AllReadyH.nil)
    rw [if_pos (by rfl)]
    go_simp
    go_at_call 32
    (with_reducible refine (entered_any d b c cap R R1 Y x (xorF y m) _ wb HT1.out.gc HXB.out HYM.out HWHT1.out).mono ?_); rintro e wc ⟨rfl, hg, ho⟩
    have HG2 : Hid (Gc wc d b c cap R R1 Y ∧ Only b w wc ∧ At wc w.heap.size 16 22 x) := hid ⟨hg, HT1.out.low.trans ho, at_asked HT1.out.var ho (by have := HT1.out.base.lt; omega)⟩
    have HA5 := hid (at_asked HA4.out ho (by have := HNA.out; omega))
    clear hg ho
    refine hK.out _ _ (HG2.out.2.2) (fun h3x => ?_)
    clear hK K
    try simp only [Act.put, lay_out]
    refine wpAnyH_ready (rs := [7]) (by kernel_rfl) (by simp) (AllReadyH.cons rfl (fun K hK => ?_) AllReadyH.nil)
    rw [if_pos (by rfl)]
    refine wp_store_row 22 (.tmp 10) (.tmp 34) rfl wa.heap.size (ba 16 (blkF Y R (xorF x (xorF y m)))) rfl rfl 22 _ HA5.out (by rw [ba_size]; exact infoa) (by rw [ba_size, ba_size]) (ba_one 16 _) ?_
    have HE := hid (Te.row (z' := blkF Y R (xorF x (xorF y m))) HT0.out.base HG2.out.1 HG2.out.2.1 HA5.out (by have := HG2.out.2.1.size; have := HNA.out; omega))
    refine hK.out _ _ (HG2.out.2.2.rowApart (by have := HNA.out; omega) _) (fun h4x => ?_)
    clear hK K
    try simp only [Act.put, lay_out]
    refine wpAnyH_done (by kernel_rfl) ?_ _
    refine NoPanic.normal ?_
    clear h0 h1x h2x h3x h4x
    try simp only [Act.put, lay_out]
    generalize wc.setRow wa.heap.size (ba 16 (blkF Y R (xorF x (xorF y m)))) = we at *
    rw [HZ.out] at HE
    go_wp2
    go_ret
    exact ⟨wa.heap.size, rfl, HE.out⟩
theorem tagOf_any (d b c cap R R1 M e : Nat) (Y : Nat → Nat → Nat) (s δ : Nat → Nat) (a : Option Addr) (w : World) (h : Gc w d b c cap R R1 Y) (hs : B16 s) (hδ : ∀ j, j < M → δ j < 256) (hM : M ≤ e) (hv : Kept b w (.slice a M e) (ns M δ)) :
    Calls Try.prog 34 #[.pointer (some ⟨d, 0, none⟩), .agg (ba 16 s), .slice a M e] w fun x w' => ∃ g, x = .returned (.slice (some ⟨g, 0, none⟩) 16 16) ∧ Te w w' d b c cap R R1 Y g (tagF Y R s M δ) := by
  by_cases hn : M - 16 * bkN M = 16
  · exact tagOf_full d b c cap R R1 M e Y s δ a w h hs hδ hM hv hn
  · exact tagOf_short d b c cap R R1 M e _ Y s δ a w h hs hδ hM hv rfl (by have := bkN_rest M; omega)
theorem tagOf_zero (d b c cap R R1 M e : Nat) (Y : Nat → Nat → Nat) (δ : Nat → Nat) (a : Option Addr) (w : World) (h : Gc w d b c cap R R1 Y) (hδ : ∀ j, j < M → δ j < 256) (hM : M ≤ e) (hv : Kept b w (.slice a M e) (ns M δ)) :
    Calls Try.prog 34 #[.pointer (some ⟨d, 0, none⟩), .agg z16, .slice a M e] w fun x w' => ∃ g, x = .returned (.slice (some ⟨g, 0, none⟩) 16 16) ∧ Te w w' d b c cap R R1 Y g (tagF Y R (fun _ => 0) M δ) :=
  tagOf_any d b c cap R R1 M e Y (fun _ => 0) δ a w h B16.zero hδ hM hv
end Go.Proofs.Ythhkhcacljgelaa

/- A tag at work: its block; New; two blocks that are turned. -/
namespace Go.Proofs.Ythhkhcacljgelaa
open Go.RowKit
set_option maxRecDepth 100000

/-- The nineteen cells of a tag at work: the cipher, what the blocks came to, the last one, the size. -/
def mcs (d : Nat) (x : Nat → Nat) (lv : Value) (n : Int) : Array Value := #[.pointer (some ⟨d, 0, none⟩)] ++ (ba 16 x ++ #[lv, .int .i64 n])
theorem mcs_size (d : Nat) (x : Nat → Nat) (lv : Value) (n : Int) : (mcs d x lv n).size = 19 := by simp [mcs, ba_size]
theorem mcs_d (d : Nat) (x : Nat → Nat) (lv : Value) (n : Int) : (mcs d x lv n)[0]? = some (.pointer (some ⟨d, 0, none⟩)) := by
  unfold mcs; rw [Array.getElem?_append_left (by simp)]; rfl
theorem mcs_x (d : Nat) (x : Nat → Nat) (lv : Value) (n : Int) {i : Nat} (hi : i < 16) : (mcs d x lv n)[1 + i]? = some (.int .u8 (x i : Int)) := by
  unfold mcs
  rw [Array.getElem?_append_right (by simp), Array.getElem?_append_left (by simp [ba_size] <;> omega), ← ba_get x hi]
  simp
theorem mcs_l (d : Nat) (x : Nat → Nat) (lv : Value) (n : Int) : (mcs d x lv n)[17]? = some lv := by
  unfold mcs
  rw [Array.getElem?_append_right (by simp), Array.getElem?_append_right (by simp [ba_size])]
  simp [ba_size]
theorem mcs_n (d : Nat) (x : Nat → Nat) (lv : Value) (n : Int) : (mcs d x lv n)[18]? = some (.int .i64 n) := by
  unfold mcs
  rw [Array.getElem?_append_right (by simp), Array.getElem?_append_right (by simp [ba_size])]
  simp [ba_size]
theorem mcs_setl (d : Nat) (x : Nat → Nat) (lv v : Value) (n : Int) : (mcs d x lv n).setIfInBounds 17 v = mcs d x v n := by
  unfold mcs
  rw [Array.setIfInBounds_append_right (by simp), Array.setIfInBounds_append_right (by simp [ba_size])]
  simp [ba_size]
theorem mcs_setn (d : Nat) (x : Nat → Nat) (lv : Value) (n m : Int) : (mcs d x lv n).setIfInBounds 18 (.int .i64 m) = mcs d x lv m := by
  unfold mcs
  rw [Array.setIfInBounds_append_right (by simp), Array.setIfInBounds_append_right (by simp [ba_size])]
  simp [ba_size]
/-- What cells hold that are set one by one. -/
theorem heap_setCells (b : Nat) (t : TypeId) : ∀ (vs : List Value) (o : Nat) (cur : Array Value) (w : World), w.heap[b]? = some (.cells cur t (0, 0)) →
    ∃ cur' : Array Value, (w.setCells b o vs).heap[b]? = some (.cells cur' t (0, 0)) ∧ cur'.size = cur.size ∧ ∀ j, j < cur.size → cur'[j]? = if o ≤ j ∧ j < o + vs.length then vs[j - o]? else cur[j]?
  | [], o, cur, w, h => ⟨cur, h, rfl, fun j _ => by rw [if_neg (by simp)]⟩
  | v :: r, o, cur, w, h => by
    obtain ⟨cur', h1, h2, h3⟩ := heap_setCells b t r (o + 1) _ _ (heap_setCell_same w b o cur t v h)
    refine ⟨cur', h1, by rw [h2, Array.size_setIfInBounds], fun j hj => ?_⟩
    rw [h3 j (by rw [Array.size_setIfInBounds]; exact hj)]
    by_cases e : j = o
    · subst e
      rw [if_neg (by omega), if_pos (by simp), Nat.sub_self]
      simp [hj]
    · by_cases e2 : o + 1 ≤ j ∧ j < o + 1 + r.length
      · rw [if_pos e2, if_pos (by simp; omega), show j - o = (j - (o + 1)) + 1 by omega]
        simp
      · rw [if_neg e2, if_neg (by simp; omega)]
        simp [Ne.symm e]
/-- Block m is a tag at work. -/
def MAt (w : World) (m d : Nat) (x : Nat → Nat) (lv : Value) (n : Int) : Prop := w.heap[m]? = some (.cells (mcs d x lv n) 83 (0, 0))
section
variable {w w' : World} {m d b B : Nat} {x : Nat → Nat} {lv : Value} {n : Int}
theorem MAt.lt (h : MAt w m d x lv n) : m < w.heap.size := (Array.getElem?_eq_some_iff.1 h).1
theorem MAt.free (h : MAt w m d x lv n) (o : Nat) : w.frozen? ⟨m, o, none⟩ = false := frozen_of_row w m o _ 83 h
theorem MAt.at (h : MAt w m d x lv n) (o : Nat) : w.cell? ⟨m, o, none⟩ = (mcs d x lv n)[o]? := cell_of_row w m o _ 83 _ h
theorem MAt.c0 (h : MAt w m d x lv n) : w.cell? ⟨m, 0, none⟩ = some (.pointer (some ⟨d, 0, none⟩)) := (h.at 0).trans (mcs_d d x lv n)
theorem MAt.cl (h : MAt w m d x lv n) : w.cell? ⟨m, 17, none⟩ = some lv := (h.at 17).trans (mcs_l d x lv n)
theorem MAt.cn (h : MAt w m d x lv n) : w.cell? ⟨m, 18, none⟩ = some (.int .i64 n) := (h.at 18).trans (mcs_n d x lv n)
theorem MAt.range (h : MAt w m d x lv n) : w.rangeAt m 1 (ba 16 x).toList := fun j v hv => by
  have hj : j < 16 := by have := (List.getElem?_eq_some_iff.1 hv).1; rwa [Array.length_toList, ba_size] at this
  rw [Array.getElem?_toList, ba_get _ hj] at hv
  injection hv with hv
  rw [← hv]; exact (h.at _).trans (mcs_x d x lv n hj)
theorem MAt.there (h : MAt w m d x lv n) : w.there m 1 16 := fun j hj => ⟨by rw [h.at, mcs_x d x lv n hj]; rfl, h.free _⟩
theorem MAt.setl (h : MAt w m d x lv n) (v : Value) : MAt (w.setCell ⟨m, 17, none⟩ v) m d x v n := by
  have := heap_setCell_same w m 17 _ 83 v h; rw [mcs_setl] at this; exact this
theorem MAt.setn (h : MAt w m d x lv n) (k : Int) : MAt (w.setCell ⟨m, 18, none⟩ (.int .i64 k)) m d x lv k := by
  have := heap_setCell_same w m 18 _ 83 (.int .i64 k) h; rw [mcs_setn] at this; exact this
theorem MAt.setx (h : MAt w m d x lv n) (y : Nat → Nat) : MAt (w.setCells m 1 (ba 16 y).toList) m d y lv n := by
  obtain ⟨cur, h1, h2, h3⟩ := heap_setCells m 83 (ba 16 y).toList 1 _ w h
  have hs := mcs_size d x lv n
  have hs' := mcs_size d y lv n
  have e : cur = mcs d y lv n := by
    apply Array.ext_getElem?
    intro j
    by_cases hj : j < 19
    · rw [h3 j (by omega), Array.length_toList, ba_size]
      by_cases h4 : 1 ≤ j ∧ j < 1 + 16
      · rw [if_pos h4, Array.getElem?_toList, ba_get _ (by omega)]
        have := mcs_x d y lv n (i := j - 1) (by omega)
        rw [← this, show 1 + (j - 1) = j by omega]
      · rw [if_neg h4]
        have : j = 0 ∨ j = 17 ∨ j = 18 := by omega
        rcases this with rfl | rfl | rfl
        · rw [mcs_d, mcs_d]
        · rw [mcs_l, mcs_l]
        · rw [mcs_n, mcs_n]
    · rw [Array.getElem?_eq_none (by omega), Array.getElem?_eq_none (by omega)]
  unfold MAt
  rw [h1, e]
theorem MAt.below (h : MAt w m d x lv n) (hb : Below B w w') (hB : m < B) : MAt w' m d x lv n := (hb.block m hB).trans h
theorem MAt.self (h : MAt w m d x lv n) (hb : Below w.heap.size w w') : MAt w' m d x lv n := h.below hb h.lt
theorem MAt.drew (h : MAt w m d x lv n) : MAt w.drew m d x lv n := h
theorem MAt.only (h : MAt w m d x lv n) (o : Only b w w') (hb : m ≠ b) : MAt w' m d x lv n := (o.block m h.lt hb).trans h
end
theorem MAt.new (w : World) (d : Nat) : MAt (w.alloc (.cells (mcs d (fun _ => 0) (.slice none 0 0) 0) 83)) w.heap.size d (fun _ => 0) (.slice none 0 0) 0 := heap_alloc_new w _
theorem only_cells (b : Nat) : ∀ (vs : List Value) (o : Nat) (w : World), Only b w (w.setCells b o vs)
  | [], _, w => Only.refl b w
  | v :: r, o, w => (Only.set w (p := ⟨b, o, none⟩) rfl v).trans (only_cells b r (o + 1) _)
/-- But for blocks b and m (and new ones) w' is as w was. -/
structure But (b m : Nat) (w w' : World) : Prop where
  os : w'.os = w.os
  tape : w'.tape = w.tape
  output : w'.output = w.output
  size : w.heap.size ≤ w'.heap.size
  block : ∀ j, j < w.heap.size → j ≠ b → j ≠ m → w'.heap[j]? = w.heap[j]?
section
variable {b m : Nat} {w w' w2 : World}
theorem But.trans (h : But b m w w') (k : But b m w' w2) : But b m w w2 :=
  ⟨k.os.trans h.os, k.tape.trans h.tape, k.output.trans h.output, Nat.le_trans h.size k.size, fun j hj h1 h2 => (k.block j (Nat.lt_of_lt_of_le hj h.size) h1 h2).trans (h.block j hj h1 h2)⟩
theorem But.of (o : Only b w w') : But b m w w' := ⟨o.os, o.tape, o.output, o.size, fun j hj h1 _ => o.block j hj h1⟩
theorem But.of2 (o : Only m w w') : But b m w w' := ⟨o.os, o.tape, o.output, o.size, fun j hj _ h2 => o.block j hj h2⟩
theorem But.self (h : Below w.heap.size w w') : But b m w w' := But.of (Only.of_below h)
theorem But.refl : But b m w w := But.self (Below.refl _ _)
theorem But.only (h : But b m w w') (hm : w.heap.size ≤ m) : Only b w w' := ⟨h.os, h.tape, h.output, h.size, fun j hj h1 => h.block j hj h1 (by omega)⟩
theorem But.below {B : Nat} (h : But b m w w') (hb : B ≤ b) (hm : B ≤ m) (hB : B ≤ w.heap.size) : Below B w w' := ⟨h.os, h.tape, h.output, h.size, fun j hj => h.block j (by omega) (by omega) (by omega)⟩
end
/-- v reads as xs, whatever is done that turns blocks b and m alone. -/
def Kb (b m : Nat) (w : World) (v : Value) (xs : List Int) : Prop := ∀ W, But b m w W → Rd .u8 W v xs
section
variable {b m : Nat} {w w' : World} {v : Value} {xs : List Int}
theorem Kb.rd (h : Kb b m w v xs) : Rd .u8 w v xs := h w But.refl
theorem Kb.later (h : Kb b m w v xs) (o : But b m w w') : Kb b m w' v xs := fun W hW => h W (o.trans hW)
theorem Kb.kept (h : Kb b m w v xs) : Kept b w v xs := fun W hW => h W (But.of hW)
theorem kb_wd {n g off c : Nat} {f : Nat → Nat} (h : Wd w n g off f) (h1 : g ≠ b) (h2 : g ≠ m) (hn : n ≤ 65536) : Kb b m w (.slice (some ⟨g, off, none⟩) n c) (ns n f) := fun _ hW => (h.same hW.size (hW.block g h.lt h1 h2)).rd c hn
theorem kb_zero (a : Option Addr) (c : Nat) (f : Nat → Nat) : Kb b m w (.slice a 0 c) (ns 0 f) := fun W _ => rd_zero a c f W
theorem kb_own {B n : Nat} {E : TypeId} {f : Nat → Nat} (h : Own .u8 B E w v (ns n f)) (hb : b < B) (hm : m < B) (hn : n ≤ 65536) (hf : ∀ j, j < n → f j < 256) : Kb b m w v (ns n f) := by
  by_cases h0 : 0 < n
  · obtain ⟨g, cap, rfl, hg, _⟩ := h.part (by rw [ns_len]; exact h0)
    rw [ns_len] at h ⊢
    exact kb_wd (wd_own h hf).1 (by omega) (by omega) hn
  · obtain rfl : n = 0 := by omega
    obtain ⟨p, cap, rfl⟩ := h.noRow
    exact kb_zero p cap f
theorem kb_rd (h : Rd .u8 w v xs) (hb : w.heap.size ≤ b) (hm : w.heap.size ≤ m) : Kb b m w v xs := fun _ hW => h.self (hW.below hb hm (Nat.le_refl _))
end

theorem mcs_new (d : Nat) : mcs d (fun _ => 0) (.slice none 0 0) 0 = #[.pointer (some ⟨d, 0, none⟩), .int .u8 0, .int .u8 0, .int .u8 0, .int .u8 0, .int .u8 0, .int .u8 0, .int .u8 0, .int .u8 0, .int .u8 0, .int .u8 0, .int .u8 0, .int .u8 0, .int .u8 0, .int .u8 0, .int .u8 0, .int .u8 0, .slice none 0 0, .int .i64 0] := by kernel_rfl
theorem mnew_any (d : Nat) (w : World) :
    Calls Try.prog 21 #[.pointer (some ⟨d, 0, none⟩)] w fun x w' => x = .returned (.pointer (some ⟨w.heap.size, 0, none⟩)) ∧ MAt w' w.heap.size d (fun _ => 0) (.slice none 0 0) 0 ∧ Below w.heap.size w w' := by
  have HM := MAt.new w d
  rw [mcs_new] at HM
  have HM := hid HM
  have HL : Hid (Below w.heap.size w (w.alloc (.cells (mcs d (fun _ => 0) (.slice none 0 0) 0) 83))) := hid ((Below.refl _ _).alloc (Nat.le_refl _) _)
  rw [mcs_new] at HL
  go_enter Try.func21, Try.ntmps21
  go_wp2
  go_ret
  exact ⟨rfl, HM.out, HL.out⟩
end Go.Proofs.Ythhkhcacljgelaa

/- Clone; Size, Tag; Write where nothing is left over. -/
namespace Go.Proofs.Ythhkhcacljgelaa
open Go.RowKit
set_option maxRecDepth 100000

theorem eq_nil (a : Addr) (n c : Nat) (w : World) : (binOp .eql 23 (.slice (some a) n c) (.slice none 0 0)).run Try.prog w = .ok (.bool false) w := by
  have h : ∀ d : Nat, (Op.equalIn (d + 1) 23 (.slice (some a) n c) (.slice none 0 0)).run Try.prog w = .ok false w := fun d => by
    simp [Op.equalIn, run_underlying Try.underlying23]
  simp only [binOp]
  simp [Op.equal, Op.maxDepth, h 9999]
theorem bclone_any (g off n e : Nat) (f : Nat → Nat) (w : World) (hn : 0 < n) (hn2 : n ≤ 65536) (h : Rd .u8 w (.slice (some ⟨g, off, none⟩) n e) (ns n f)) :
    Calls Try.prog 33 #[.slice (some ⟨g, off, none⟩) n e] w fun x w' => ∃ g' c', x = .returned (.slice (some ⟨g', 0, none⟩) n c') ∧ Own .u8 w.heap.size 5 w' (.slice (some ⟨g', 0, none⟩) n c') (ns n f) ∧ Below w.heap.size w w' := by
  have HZ := hid (h.self (w' := w.alloc (.cells #[] 5)) ((Below.refl _ _).alloc (Nat.le_refl _) _))
  have HLI := hid (show (0 + (ns n f).length) * (IntKind.u8.bits / 8) ≤ 140737488355328 by rw [ns_len]; show (0 + n) * 1 ≤ _; omega)
  have HN := hid hn
  have hnil := eq_nil ⟨g, off, none⟩ n e w
  clear h hn hn2
  go_enter Try.func33, Try.ntmps33
  go_wp2_with (refine wpList_append_rd rfl (.tmp 5) (.tmp 6) 23 rfl .u8 w.heap.size 5 Try.underlying23 info8 (by decide) _ [] rfl (own_empty w (Nat.le_refl _)) _ (ns n f) rfl HZ.out HLI.out (by simp) w.heap.size w ((Below.refl _ _).alloc (Nat.le_refl _) _) (Nat.le_refl _) ?_; intro u w1 hown hlow _; rw [List.nil_append] at hown; obtain ⟨g', cap, rfl, hgB, _, _⟩ := hown.part (by rw [ns_len]; exact HN.out); rw [ns_len] at hown ⊢; have HO := hid hown; have HL := hid hlow; clear hown hlow)
  go_ret
  exact ⟨g', cap, rfl, HO.out, HL.out⟩

/-- A tag at work, of N bytes δ: its block m, its cipher d. -/
structure Mw (w : World) (m d b c cap R R1 : Nat) (Y : Nat → Nat → Nat) (x : Nat → Nat) (a : Option Addr) (n e : Nat) (l : Nat → Nat) (N : Nat) (δ : Nat → Nat) : Prop where
  blk : MAt w m d x (.slice a n e) N
  gc : Gc w d b c cap R R1 Y
  last : Kb b m w (.slice a n e) (ns n l)
  le : n ≤ e
  st : Mst Y R x n l N δ
  xb : B16 x
  lb : ∀ j, j < n → l j < 256
  ne : m ≠ b ∧ m ≠ d ∧ m ≠ c
  all : ∀ j, j < N → δ j < 256
section
variable {w w' : World} {m d b c cap R R1 n e N : Nat} {Y : Nat → Nat → Nat} {x l δ : Nat → Nat} {a : Option Addr}
theorem Gc.set {v : Value} {p : Addr} (h : Gc w d b c cap R R1 Y) (hp : p.block ≠ b ∧ p.block ≠ d ∧ p.block ≠ c) : Gc (w.setCell p v) d b c cap R R1 Y :=
  ⟨h.num, (heap_setCell_other w p d v (fun e => hp.2.1 e.symm)).trans h.ci.blk, h.ci.box.set (fun e => hp.1 e.symm) v, h.ci.rows.same (by simp [World.setCell]) (heap_setCell_other w p c v (fun e => hp.2.2 e.symm)), h.ci.ne⟩
theorem Gc.onlyM (h : Gc w d b c cap R R1 Y) (o : Only m w w') (hm : m ≠ b ∧ m ≠ d ∧ m ≠ c) : Gc w' d b c cap R R1 Y :=
  ⟨h.num, (o.block d h.ci.blk.lt (fun e => hm.2.1 e.symm)).trans h.ci.blk, h.ci.box.only o (fun e => hm.1 e.symm), h.ci.rows.same o.size (o.block c h.ci.rows.lt (fun e => hm.2.2 e.symm)), h.ci.ne⟩
theorem Mw.self (h : Mw w m d b c cap R R1 Y x a n e l N δ) (hb : Below w.heap.size w w') : Mw w' m d b c cap R R1 Y x a n e l N δ :=
  ⟨h.blk.self hb, h.gc.self hb, h.last.later (But.self hb), h.le, h.st, h.xb, h.lb, h.ne, h.all⟩
theorem Mw.drew (h : Mw w m d b c cap R R1 Y x a n e l N δ) : Mw w.drew m d b c cap R R1 Y x a n e l N δ := h.self (Below.refl _ _).drew
theorem Mw.asked (h : Mw w m d b c cap R R1 Y x a n e l N δ) (hg : Gc w' d b c cap R R1 Y) (o : Only b w w') : Mw w' m d b c cap R R1 Y x a n e l N δ :=
  ⟨h.blk.only o h.ne.1, hg, h.last.later (But.of o), h.le, h.st, h.xb, h.lb, h.ne, h.all⟩
end
theorem tag_nil (w : World) : Calls Try.prog 23 #[.pointer none] w fun x w' => x = .returned (.slice none 0 0) ∧ w' = w := by
  go_enter Try.func23, Try.ntmps23
  go_wp2
  go_ret
  exact ⟨rfl, rfl⟩
theorem write_nil (v : Value) (w : World) : Calls Try.prog 22 #[.pointer none, v] w fun x w' => x = .returned (.tuple #[]) ∧ w' = w := by
  go_enter Try.func22, Try.ntmps22
  go_wp2
  exact bodyPost_ret (results_none rfl _ _ _) rfl ⟨rfl, rfl⟩
end Go.Proofs.Ythhkhcacljgelaa

/- Tag. -/
namespace Go.Proofs.Ythhkhcacljgelaa
open Go.RowKit
set_option maxRecDepth 100000

theorem Te.undrew {w w' : World} {d b c cap R R1 g : Nat} {Y : Nat → Nat → Nat} {z : Nat → Nat} (h : Te w.drew w' d b c cap R R1 Y g z) : Te w w' d b c cap R R1 Y g z := ⟨h.gc, h.low.undrew, h.tag, h.new⟩
set_option maxHeartbeats 800000 in
theorem tag_any (w : World) (m d b c cap R R1 n e N : Nat) (Y : Nat → Nat → Nat) (x l δ : Nat → Nat) (a : Option Addr) (h : Mw w m d b c cap R R1 Y x a n e l N δ) :
    Calls Try.prog 23 #[.pointer (some ⟨m, 0, none⟩)] w fun q w' => ∃ g z, q = .returned (.slice (some ⟨g, 0, none⟩) 16 16) ∧ Te w w' d b c cap R R1 Y g z ∧ Eq16 z (tagF Y R (fun _ => 0) N δ) := by
  have HZ := hid h.st.tag
  have hT := tagOf_any d b c cap R R1 n e Y x l a w.drew h.gc.drew h.xb h.lb h.le (h.last.kept.self (Below.refl _ _).drew)
  have HT := hid hT
  have HD := hid h.drew
  have hc0 := h.drew.blk.c0
  have hcl := h.drew.blk.cl
  clear h hT
  go_enter Try.func23, Try.ntmps23
  go_wp2
  generalize hw2 : w.drew = w2 at *
  refine region_tail 12 (by kernel_rfl) (by kernel_rfl) ?_
  simp only [List.take_succ_cons, List.take_zero, List.drop_succ_cons, List.drop_zero]
  rw [hw2]
  still_step
  still_step
  still_step
  still_step
  still_step
  still_step
  still_step
  refine still_load_mid rfl 22 (.tmp 11) rfl m 1 16 x 5 rfl HD.out.blk.range Try.underlying22 infoa ?_
  still_step
  still_step
  still_step
  still_step
  refine wpStill_nil ?_
  go_wp2_with (first
    | (go_at_call 34; (with_reducible refine HT.out.mono ?_); rintro q w3 ⟨g, rfl, ht⟩; have HE := hid ht; clear ht))
  go_ret
  subst hw2
  exact ⟨g, _, rfl, HE.out.undrew, HZ.out⟩
end Go.Proofs.Ythhkhcacljgelaa
