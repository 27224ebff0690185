/- A block's ways, as the document tells them. -/
import Derived.Test.YthkanhhpkaigoaaKey
namespace Go.Proofs.Ythkanhhpkaigoaa
open Go.RowKit

/-- The place in a column n rows further on. -/
def nb (i n : Nat) : Nat := i - i % 4 + (i + n) % 4
/-- The place to which Rows moves place i, and the place from which it comes. -/
def mvd (i : Nat) : Nat := i % 4 + 4 * ((i / 4 + 4 - i % 4) % 4)
def src (j : Nat) : Nat := j % 4 + 4 * ((j / 4 + j % 4) % 4)
theorem nb_lt {i : Nat} (h : i < 16) (n : Nat) : nb i n < 16 := by unfold nb; omega
theorem mvd_lt {i : Nat} : i < 16 → mvd i < 16 := fun _ => by unfold mvd; omega
theorem src_lt {i : Nat} : i < 16 → src i < 16 := fun _ => by unfold src; omega
theorem mvd_src : ∀ j < 16, mvd (src j) = j := by decide
theorem src_mvd : ∀ j < 16, src (mvd j) = j := by decide
theorem src3 : ∀ j < 16, src (src (src j)) = mvd j := by decide
theorem nb_nb : ∀ i < 16, ∀ n < 4, ∀ m < 4, nb (nb i n) m = nb i ((n + m) % 4) := by decide
theorem nb_zero {i : Nat} : nb i 0 = i := by unfold nb; omega

/-- 16 bytes. -/
def B16 (f : Nat → Nat) : Prop := ∀ i, i < 16 → f i < 256
/-- Two blocks are one. -/
def Eq16 (f g : Nat → Nat) : Prop := ∀ i, i < 16 → f i = g i
theorem Eq16.refl (f : Nat → Nat) : Eq16 f f := fun _ _ => rfl
theorem Eq16.symm {f g : Nat → Nat} (h : Eq16 f g) : Eq16 g f := fun i hi => (h i hi).symm
theorem Eq16.trans {f g k : Nat → Nat} (h : Eq16 f g) (h' : Eq16 g k) : Eq16 f k := fun i hi => (h i hi).trans (h' i hi)
theorem Eq16.ba {f g : Nat → Nat} (h : Eq16 f g) : ba 16 f = ba 16 g := ba_ext h
theorem Eq16.bytes {f g : Nat → Nat} (h : Eq16 f g) (hf : B16 f) : B16 g := fun i hi => h i hi ▸ hf i hi

def shR (f : Nat → Nat) : Nat → Nat := fun j => f (src j)
def shB (f : Nat → Nat) : Nat → Nat := fun j => f (mvd j)
def mxC (f : Nat → Nat) : Nat → Nat := fun i => tw (f i ^^^ f (nb i 1)) ^^^ f (nb i 1) ^^^ f (nb i 2) ^^^ f (nb i 3)
def mxB (f : Nat → Nat) : Nat → Nat := mxC (mxC (mxC f))
def addF (f g : Nat → Nat) : Nat → Nat := fun i => f i ^^^ g i
def subF (f : Nat → Nat) : Nat → Nat := fun i => sb (f i)
def unsF (f : Nat → Nat) : Nat → Nat := fun i => bk (f i)

theorem shR_b {f : Nat → Nat} (h : B16 f) : B16 (shR f) := fun _ hi => h _ (src_lt hi)
theorem shB_b {f : Nat → Nat} (h : B16 f) : B16 (shB f) := fun _ hi => h _ (mvd_lt hi)
theorem mxC_b {f : Nat → Nat} (h : B16 f) : B16 (mxC f) := fun i hi =>
  xor_lt (xor_lt (xor_lt (tw_lt (xor_lt (h i hi) (h _ (nb_lt hi 1)))) (h _ (nb_lt hi 1))) (h _ (nb_lt hi 2))) (h _ (nb_lt hi 3))
theorem mxB_b {f : Nat → Nat} (h : B16 f) : B16 (mxB f) := mxC_b (mxC_b (mxC_b h))
theorem addF_b {f g : Nat → Nat} (h : B16 f) (h' : B16 g) : B16 (addF f g) := fun i hi => xor_lt (h i hi) (h' i hi)
theorem subF_b (f : Nat → Nat) : B16 (subF f) := fun i _ => sb_lt (f i)
theorem unsF_b (f : Nat → Nat) : B16 (unsF f) := fun i _ => bk_lt (f i)
theorem shR_e {f g : Nat → Nat} (h : Eq16 f g) : Eq16 (shR f) (shR g) := fun _ hi => h _ (src_lt hi)
theorem shB_e {f g : Nat → Nat} (h : Eq16 f g) : Eq16 (shB f) (shB g) := fun _ hi => h _ (mvd_lt hi)
theorem mxC_e {f g : Nat → Nat} (h : Eq16 f g) : Eq16 (mxC f) (mxC g) := fun i hi => by
  unfold mxC; rw [h i hi, h _ (nb_lt hi 1), h _ (nb_lt hi 2), h _ (nb_lt hi 3)]
theorem mxB_e {f g : Nat → Nat} (h : Eq16 f g) : Eq16 (mxB f) (mxB g) := mxC_e (mxC_e (mxC_e h))
theorem addF_e {f g k : Nat → Nat} (h : Eq16 f g) : Eq16 (addF f k) (addF g k) := fun i hi => by unfold addF; rw [h i hi]
theorem subF_e {f g : Nat → Nat} (h : Eq16 f g) : Eq16 (subF f) (subF g) := fun i hi => by unfold subF; rw [h i hi]
theorem unsF_e {f g : Nat → Nat} (h : Eq16 f g) : Eq16 (unsF f) (unsF g) := fun i hi => by unfold unsF; rw [h i hi]
theorem back_row (f : Nat → Nat) : Eq16 (shB (shR f)) f := fun i hi => by show f (src (mvd i)) = f i; rw [src_mvd i hi]
theorem row_back (f : Nat → Nat) : Eq16 (shR (shB f)) f := fun i hi => by show f (mvd (src i)) = f i; rw [mvd_src i hi]
theorem row3 (f : Nat → Nat) : Eq16 (shR (shR (shR f))) (shB f) := fun i hi => by show f (src (src (src i))) = f (mvd i); rw [src3 i hi]
theorem uns_sub {f : Nat → Nat} (h : B16 f) : Eq16 (unsF (subF f)) f := fun i hi => bk_sb (h i hi)
theorem sub_uns {f : Nat → Nat} (h : B16 f) : Eq16 (subF (unsF f)) f := fun i hi => sb_bk (h i hi)
theorem add_add (f g : Nat → Nat) : Eq16 (addF (addF f g) g) f := fun i _ => by unfold addF; rw [Nat.xor_assoc, Nat.xor_self, Nat.xor_zero]

theorem xor_left (a b c : Nat) : a ^^^ (b ^^^ c) = b ^^^ (a ^^^ c) := by rw [← Nat.xor_assoc, Nat.xor_comm a b, Nat.xor_assoc]
theorem xor_can (a b : Nat) : a ^^^ (a ^^^ b) = b := by rw [← Nat.xor_assoc, Nat.xor_self, Nat.zero_xor]
theorem tw4 {a b c d : Nat} (ha : a < 256) (hb : b < 256) (hc : c < 256) (hd : d < 256) :
    tw (a ^^^ b ^^^ c ^^^ d) = tw a ^^^ tw b ^^^ tw c ^^^ tw d := by
  rw [tw_add (xor_lt (xor_lt ha hb) hc) hd, tw_add (xor_lt ha hb) hc, tw_add ha hb]
theorem col_at {f : Nat → Nat} (h : B16 f) {i : Nat} (hi : i < 16) {a b c d : Nat} (ha : f i = a) (hb : f (nb i 1) = b) (hc : f (nb i 2) = c) (hd : f (nb i 3) = d) :
    mxC f i = tw a ^^^ tw b ^^^ b ^^^ c ^^^ d ∧ mxC f (nb i 1) = tw b ^^^ tw c ^^^ c ^^^ d ^^^ a ∧ mxC f (nb i 2) = tw c ^^^ tw d ^^^ d ^^^ a ^^^ b ∧ mxC f (nb i 3) = tw d ^^^ tw a ^^^ a ^^^ b ^^^ c := by
  have h1 := nb_nb i hi
  have la : a < 256 := ha ▸ h i hi
  have lb : b < 256 := hb ▸ h _ (nb_lt hi 1)
  have lc : c < 256 := hc ▸ h _ (nb_lt hi 2)
  have ld : d < 256 := hd ▸ h _ (nb_lt hi 3)
  refine ⟨?_, ?_, ?_, ?_⟩
  · unfold mxC; rw [ha, hb, hc, hd, tw_add la lb]
  · unfold mxC; rw [h1 1 (by decide) 1 (by decide), h1 1 (by decide) 2 (by decide), h1 1 (by decide) 3 (by decide)]; simp only [Nat.reduceAdd, Nat.reduceMod, nb_zero]; rw [ha, hb, hc, hd, tw_add lb lc]
  · unfold mxC; rw [h1 2 (by decide) 1 (by decide), h1 2 (by decide) 2 (by decide), h1 2 (by decide) 3 (by decide)]; simp only [Nat.reduceAdd, Nat.reduceMod, nb_zero]; rw [ha, hb, hc, hd, tw_add lc ld]
  · unfold mxC; rw [h1 3 (by decide) 1 (by decide), h1 3 (by decide) 2 (by decide), h1 3 (by decide) 3 (by decide)]; simp only [Nat.reduceAdd, Nat.reduceMod, nb_zero]; rw [ha, hb, hc, hd, tw_add ld la]

/-- Columns, twice. -/
theorem col2 {f : Nat → Nat} (h : B16 f) {i : Nat} (hi : i < 16) : mxC (mxC f) i = tw (tw (f i)) ^^^ tw (tw (f (nb i 2))) ^^^ f i := by
  obtain ⟨c0, c1, c2, c3⟩ := col_at h hi rfl rfl rfl rfl
  obtain ⟨d0, _⟩ := col_at (mxC_b h) hi c0 c1 c2 c3
  have la := h i hi
  have lb := h _ (nb_lt hi 1)
  have lc := h _ (nb_lt hi 2)
  have ld := h _ (nb_lt hi 3)
  rw [d0]
  generalize f i = a at *
  generalize f (nb i 1) = b at *
  generalize f (nb i 2) = c at *
  generalize f (nb i 3) = d at *
  have ta := tw_lt la
  have tb := tw_lt lb
  have tc := tw_lt lc
  have td := tw_lt ld
  rw [tw_add (xor_lt (xor_lt (xor_lt ta tb) lb) lc) ld, tw4 ta tb lb lc, tw_add (xor_lt (xor_lt (xor_lt tb tc) lc) ld) la, tw4 tb tc lc ld]
  simp only [Nat.xor_assoc, Nat.xor_comm, xor_left, xor_can]
theorem col4 {f : Nat → Nat} (h : B16 f) : Eq16 (mxC (mxB f)) f := fun i hi => by
  show mxC (mxC (mxC (mxC f))) i = f i
  rw [col2 (mxC_b (mxC_b h)) hi, col2 h hi, col2 h (nb_lt hi 2), nb_nb i hi 2 (by decide) 2 (by decide)]
  simp only [Nat.reduceAdd, Nat.reduceMod, nb_zero]
  have la := h i hi
  have lc := h _ (nb_lt hi 2)
  generalize f i = a at *
  generalize f (nb i 2) = c at *
  have ta := tw_lt (tw_lt la)
  have tc := tw_lt (tw_lt lc)
  rw [tw_add (xor_lt ta tc) la, tw_add ta tc, tw_add (xor_lt tc ta) lc, tw_add tc ta, tw_add (xor_lt (tw_lt ta) (tw_lt tc)) (tw_lt la), tw_add (tw_lt ta) (tw_lt tc), tw_add (xor_lt (tw_lt tc) (tw_lt ta)) (tw_lt lc), tw_add (tw_lt tc) (tw_lt ta)]
  simp only [Nat.xor_comm, xor_left, Nat.xor_self, Nat.xor_zero, Nat.zero_xor]
theorem bcol_col {f : Nat → Nat} (h : B16 f) : Eq16 (mxB (mxC f)) f := col4 h
theorem col_add {f g : Nat → Nat} (h : B16 f) (h' : B16 g) : Eq16 (mxC (addF f g)) (addF (mxC f) (mxC g)) := fun i hi => by
  show tw ((f i ^^^ g i) ^^^ (f (nb i 1) ^^^ g (nb i 1))) ^^^ (f (nb i 1) ^^^ g (nb i 1)) ^^^ (f (nb i 2) ^^^ g (nb i 2)) ^^^ (f (nb i 3) ^^^ g (nb i 3)) =
    (tw (f i ^^^ f (nb i 1)) ^^^ f (nb i 1) ^^^ f (nb i 2) ^^^ f (nb i 3)) ^^^ (tw (g i ^^^ g (nb i 1)) ^^^ g (nb i 1) ^^^ g (nb i 2) ^^^ g (nb i 3))
  have la := h i hi
  have lb := h _ (nb_lt hi 1)
  have ma := h' i hi
  have mb := h' _ (nb_lt hi 1)
  rw [tw_add (xor_lt la ma) (xor_lt lb mb), tw_add la ma, tw_add lb mb, tw_add la lb, tw_add ma mb]
  simp only [Nat.xor_assoc, Nat.xor_comm, xor_left]

theorem gm_k2 {a : Nat} (h : a < 256) : gm 2 a = tw a := by rw [gm_comm (by decide) h, gm_two h]
theorem gm_k3 {a : Nat} (h : a < 256) : gm 3 a = tw a ^^^ a := by rw [show (3 : Nat) = 2 ^^^ 1 from rfl, add_gm a (by decide) (by decide), gm_k2 h, one_gm h]
theorem gm_k4 {a : Nat} (h : a < 256) : gm 4 a = tw (tw a) := by rw [gm_comm (by decide) h, show (4 : Nat) = gm 2 2 by decide +kernel, gm_assoc h (by decide) (by decide), gm_two h, gm_two (tw_lt h)]
theorem gm_k8 {a : Nat} (h : a < 256) : gm 8 a = tw (tw (tw a)) := by rw [gm_comm (by decide) h, show (8 : Nat) = gm 4 2 by decide +kernel, gm_assoc h (by decide) (by decide), gm_comm h (by decide), gm_k4 h, gm_two (tw_lt (tw_lt h))]
theorem gm_k14 {a : Nat} (h : a < 256) : gm 14 a = tw (tw (tw a)) ^^^ tw (tw a) ^^^ tw a := by
  rw [show (14 : Nat) = 8 ^^^ 4 ^^^ 2 from rfl, add_gm a (by decide) (by decide), add_gm a (by decide) (by decide), gm_k8 h, gm_k4 h, gm_k2 h]
theorem gm_k11 {a : Nat} (h : a < 256) : gm 11 a = tw (tw (tw a)) ^^^ tw a ^^^ a := by
  rw [show (11 : Nat) = 8 ^^^ 2 ^^^ 1 from rfl, add_gm a (by decide) (by decide), add_gm a (by decide) (by decide), gm_k8 h, gm_k2 h, one_gm h]
theorem gm_k13 {a : Nat} (h : a < 256) : gm 13 a = tw (tw (tw a)) ^^^ tw (tw a) ^^^ a := by
  rw [show (13 : Nat) = 8 ^^^ 4 ^^^ 1 from rfl, add_gm a (by decide) (by decide), add_gm a (by decide) (by decide), gm_k8 h, gm_k4 h, one_gm h]
theorem gm_k9 {a : Nat} (h : a < 256) : gm 9 a = tw (tw (tw a)) ^^^ a := by
  rw [show (9 : Nat) = 8 ^^^ 1 from rfl, add_gm a (by decide) (by decide), gm_k8 h, one_gm h]
theorem doc_col {f : Nat → Nat} (h : B16 f) {i : Nat} (hi : i < 16) : gm 2 (f i) ^^^ gm 3 (f (nb i 1)) ^^^ f (nb i 2) ^^^ f (nb i 3) = mxC f i := by
  unfold mxC
  rw [gm_k2 (h i hi), gm_k3 (h _ (nb_lt hi 1)), tw_add (h i hi) (h _ (nb_lt hi 1))]
  simp only [Nat.xor_assoc]
theorem doc_bcol {f : Nat → Nat} (h : B16 f) {i : Nat} (hi : i < 16) : gm 14 (f i) ^^^ gm 11 (f (nb i 1)) ^^^ gm 13 (f (nb i 2)) ^^^ gm 9 (f (nb i 3)) = mxB f i := by
  show _ = mxC (mxC (mxC f)) i
  rw [col2 (mxC_b h) hi]
  obtain ⟨c0, _, c2, _⟩ := col_at h hi rfl rfl rfl rfl
  rw [c0, c2]
  have la := h i hi
  have lb := h _ (nb_lt hi 1)
  have lc := h _ (nb_lt hi 2)
  have ld := h _ (nb_lt hi 3)
  generalize f i = a at *
  generalize f (nb i 1) = b at *
  generalize f (nb i 2) = c at *
  generalize f (nb i 3) = d at *
  rw [gm_k14 la, gm_k11 lb, gm_k13 lc, gm_k9 ld]
  have ta := tw_lt la
  have tb := tw_lt lb
  have tc := tw_lt lc
  have td := tw_lt ld
  rw [tw_add (xor_lt (xor_lt (xor_lt ta tb) lb) lc) ld, tw4 ta tb lb lc, tw_add (xor_lt (xor_lt (xor_lt tc td) ld) la) lb, tw4 tc td ld la]
  have l1 := tw_lt ta
  have l2 := tw_lt tb
  have l3 := tw_lt tc
  have l4 := tw_lt td
  rw [tw_add (xor_lt (xor_lt (xor_lt l1 l2) tb) tc) td, tw4 l1 l2 tb tc, tw_add (xor_lt (xor_lt (xor_lt l3 l4) td) ta) tb, tw4 l3 l4 td ta]
  simp only [Nat.xor_assoc, Nat.xor_comm, xor_left, xor_can]

/-! ### a block, enciphered and deciphered: keys Y 0 to Y R -/
def encR (Y : Nat → Nat → Nat) (R r : Nat) (f : Nat → Nat) : Nat → Nat :=
  addF (if r = 0 then f else if r < R then mxC (shR (subF f)) else shR (subF f)) (Y r)
def decR (Y : Nat → Nat → Nat) (R r : Nat) (f : Nat → Nat) : Nat → Nat :=
  if r = 0 then addF f (Y r) else if r < R then unsF (shB (mxB (addF f (Y r)))) else unsF (shB (addF f (Y r)))
def enc (Y : Nat → Nat → Nat) (R : Nat) (f : Nat → Nat) : Nat → Nat → Nat
  | 0 => f
  | r + 1 => encR Y R r (enc Y R f r)
def dec (Y : Nat → Nat → Nat) (R : Nat) (f : Nat → Nat) : Nat → Nat → Nat
  | 0 => f
  | k + 1 => decR Y R (R - k) (dec Y R f k)
def YB (Y : Nat → Nat → Nat) (R : Nat) : Prop := ∀ r, r ≤ R → B16 (Y r)
section
variable {Y : Nat → Nat → Nat} {R r : Nat} {f g : Nat → Nat}
theorem encR_b (hY : YB Y R) (hr : r ≤ R) (h : B16 f) : B16 (encR Y R r f) := by
  unfold encR
  refine addF_b ?_ (hY r hr)
  split
  · exact h
  · split
    · exact mxC_b (shR_b (subF_b f))
    · exact shR_b (subF_b f)
theorem decR_b (hY : YB Y R) (hr : r ≤ R) (h : B16 f) : B16 (decR Y R r f) := by
  unfold decR
  split
  · exact addF_b h (hY r hr)
  · split <;> exact unsF_b _
theorem encR_e (h : Eq16 f g) : Eq16 (encR Y R r f) (encR Y R r g) := by
  unfold encR
  refine addF_e ?_
  split
  · exact h
  · split
    · exact mxC_e (shR_e (subF_e h))
    · exact shR_e (subF_e h)
theorem decR_e (h : Eq16 f g) : Eq16 (decR Y R r f) (decR Y R r g) := by
  unfold decR
  split
  · exact addF_e h
  · split
    · exact unsF_e (shB_e (mxB_e (addF_e h)))
    · exact unsF_e (shB_e (addF_e h))
theorem dec_encR (h : B16 f) : Eq16 (decR Y R r (encR Y R r f)) f := by
  unfold decR encR
  by_cases h0 : r = 0
  · rw [if_pos h0, if_pos h0]; exact add_add _ _
  · rw [if_neg h0, if_neg h0]
    by_cases h1 : r < R
    · rw [if_pos h1, if_pos h1]
      refine Eq16.trans (unsF_e (shB_e (mxB_e (add_add _ _)))) ?_
      refine Eq16.trans (unsF_e (shB_e (bcol_col (shR_b (subF_b f))))) ?_
      exact Eq16.trans (unsF_e (back_row _)) (uns_sub h)
    · rw [if_neg h1, if_neg h1]
      refine Eq16.trans (unsF_e (shB_e (add_add _ _))) ?_
      exact Eq16.trans (unsF_e (back_row _)) (uns_sub h)
theorem enc_decR (hY : YB Y R) (hr : r ≤ R) (h : B16 f) : Eq16 (encR Y R r (decR Y R r f)) f := by
  have hA := addF_b h (hY r hr)
  unfold decR encR
  by_cases h0 : r = 0
  · rw [if_pos h0, if_pos h0]; exact add_add _ _
  · rw [if_neg h0, if_neg h0]
    by_cases h1 : r < R
    · rw [if_pos h1, if_pos h1]
      refine Eq16.trans (addF_e (mxC_e (shR_e (sub_uns (shB_b (mxB_b hA)))))) ?_
      refine Eq16.trans (addF_e (mxC_e (row_back _))) ?_
      exact Eq16.trans (addF_e (col4 hA)) (add_add _ _)
    · rw [if_neg h1, if_neg h1]
      refine Eq16.trans (addF_e (shR_e (sub_uns (shB_b hA)))) ?_
      exact Eq16.trans (addF_e (row_back _)) (add_add _ _)
theorem enc_b (hY : YB Y R) (h : B16 f) : ∀ n, n ≤ R + 1 → B16 (enc Y R f n)
  | 0, _ => h
  | n + 1, hn => encR_b hY (by omega) (enc_b hY h n (by omega))
theorem dec_b (hY : YB Y R) (h : B16 f) : ∀ n, n ≤ R + 1 → B16 (dec Y R f n)
  | 0, _ => h
  | n + 1, hn => decR_b hY (by omega) (dec_b hY h n (by omega))
/-- Block and Unblock. -/
def blkF (Y : Nat → Nat → Nat) (R : Nat) (f : Nat → Nat) : Nat → Nat := enc Y R f (R + 1)
def unbF (Y : Nat → Nat → Nat) (R : Nat) (f : Nat → Nat) : Nat → Nat := dec Y R f (R + 1)
theorem blkF_b (hY : YB Y R) (h : B16 f) : B16 (blkF Y R f) := enc_b hY h _ (Nat.le_refl _)
theorem unbF_b (hY : YB Y R) (h : B16 f) : B16 (unbF Y R f) := dec_b hY h _ (Nat.le_refl _)
theorem unb_blk_step (hY : YB Y R) (h : B16 f) : ∀ k, k ≤ R + 1 → Eq16 (dec Y R (blkF Y R f) k) (enc Y R f (R + 1 - k))
  | 0, _ => Eq16.refl _
  | k + 1, hk => by
    have ih := unb_blk_step hY h k (by omega)
    rw [show R + 1 - k = (R - k) + 1 by omega] at ih
    rw [show R + 1 - (k + 1) = R - k by omega]
    exact (decR_e ih).trans (dec_encR (enc_b hY h _ (by omega)))
theorem unb_blk (hY : YB Y R) (h : B16 f) : Eq16 (unbF Y R (blkF Y R f)) f := by
  have := unb_blk_step hY h (R + 1) (Nat.le_refl _)
  rwa [Nat.sub_self] at this
theorem blk_unb_step (hY : YB Y R) (h : B16 f) : ∀ k, k ≤ R + 1 → Eq16 (enc Y R (unbF Y R f) k) (dec Y R f (R + 1 - k))
  | 0, _ => Eq16.refl _
  | k + 1, hk => by
    have ih := blk_unb_step hY h k (by omega)
    rw [show R + 1 - k = (R - k) + 1 by omega] at ih
    rw [show R + 1 - (k + 1) = R - k by omega]
    have e : dec Y R f (R - k + 1) = decR Y R (R - (R - k)) (dec Y R f (R - k)) := rfl
    rw [e, show R - (R - k) = k by omega] at ih
    exact (encR_e ih).trans (enc_decR hY (by omega) (dec_b hY h _ (by omega)))
theorem blk_unb (hY : YB Y R) (h : B16 f) : Eq16 (blkF Y R (unbF Y R f)) f := by
  have := blk_unb_step hY h (R + 1) (Nat.le_refl _)
  rwa [Nat.sub_self] at this
theorem enc_e (h : Eq16 f g) : ∀ n, Eq16 (enc Y R f n) (enc Y R g n)
  | 0 => h
  | n + 1 => encR_e (enc_e h n)
theorem dec_e (h : Eq16 f g) : ∀ n, Eq16 (dec Y R f n) (dec Y R g n)
  | 0 => h
  | n + 1 => decR_e (dec_e h n)
theorem blk_e (h : Eq16 f g) : Eq16 (blkF Y R f) (blkF Y R g) := enc_e h _
theorem unb_e (h : Eq16 f g) : Eq16 (unbF Y R f) (unbF Y R g) := dec_e h _
theorem blk_inj (hY : YB Y R) (hf : B16 f) (hg : B16 g) : Eq16 (blkF Y R f) (blkF Y R g) ↔ Eq16 f g :=
  ⟨fun h => ((unb_blk hY hf).symm.trans (unb_e h)).trans (unb_blk hY hg), blk_e⟩
end
end Go.Proofs.Ythkanhhpkaigoaa
