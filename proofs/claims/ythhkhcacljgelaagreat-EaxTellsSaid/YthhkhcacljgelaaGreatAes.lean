import Derived.Test.YthhkhcacljgelaaGreatKey
import Derived.Test.YthhkhcacljgelaaGreatProg
import Derived.Great.BuildSlice
import Derived.Deep.LoopGhost
set_option maxRecDepth 100000
/- A block's ways, as the document tells them. -/
namespace Go.Proofs.YthhkhcacljgelaaGreat
open Go.RowKit

/-- The place in a column n rows further on. -/
def nb (i n : Nat) : Nat := i - i % 4 + (i + n) % 4
/-- The place to which Rows moves place i, and the place from which it comes. -/
def mvd (i : Nat) : Nat := i % 4 + 4 * ((i / 4 + 4 - i % 4) % 4)
def src (j : Nat) : Nat := j % 4 + 4 * ((j / 4 + j % 4) % 4)
theorem nb_lt {i : Nat} (h : i < 16) (n : Nat) : nb i n < 16 := by unfold nb; omega
theorem mvd_lt {i : Nat} : i < 16 → mvd i < 16 := fun _ => by unfold mvd; omega
theorem src_lt {i : Nat} : i < 16 → src i < 16 := fun _ => by unfold src; omega
theorem mvd_src : ∀ j < 16, mvd (src j) = j := by decide
theorem src_mvd : ∀ j < 16, src (mvd j) = j := by decide
theorem src3 : ∀ j < 16, src (src (src j)) = mvd j := by decide
theorem nb_nb : ∀ i < 16, ∀ n < 4, ∀ m < 4, nb (nb i n) m = nb i ((n + m) % 4) := by decide
theorem nb_zero {i : Nat} : nb i 0 = i := by unfold nb; omega

/-- 16 bytes. -/
def B16 (f : Nat → Nat) : Prop := ∀ i, i < 16 → f i < 256
/-- Two blocks are one. -/
def Eq16 (f g : Nat → Nat) : Prop := ∀ i, i < 16 → f i = g i
theorem Eq16.refl (f : Nat → Nat) : Eq16 f f := fun _ _ => rfl
theorem Eq16.symm {f g : Nat → Nat} (h : Eq16 f g) : Eq16 g f := fun i hi => (h i hi).symm
theorem Eq16.trans {f g k : Nat → Nat} (h : Eq16 f g) (h' : Eq16 g k) : Eq16 f k := fun i hi => (h i hi).trans (h' i hi)
theorem Eq16.ba {f g : Nat → Nat} (h : Eq16 f g) : ba 16 f = ba 16 g := ba_ext h
theorem Eq16.bytes {f g : Nat → Nat} (h : Eq16 f g) (hf : B16 f) : B16 g := fun i hi => h i hi ▸ hf i hi

def shR (f : Nat → Nat) : Nat → Nat := fun j => f (src j)
def shB (f : Nat → Nat) : Nat → Nat := fun j => f (mvd j)
def mxC (f : Nat → Nat) : Nat → Nat := fun i => tw (f i ^^^ f (nb i 1)) ^^^ f (nb i 1) ^^^ f (nb i 2) ^^^ f (nb i 3)
def mxB (f : Nat → Nat) : Nat → Nat := mxC (mxC (mxC f))
def addF (f g : Nat → Nat) : Nat → Nat := fun i => f i ^^^ g i
def subF (f : Nat → Nat) : Nat → Nat := fun i => sb (f i)
def unsF (f : Nat → Nat) : Nat → Nat := fun i => bk (f i)

theorem shR_b {f : Nat → Nat} (h : B16 f) : B16 (shR f) := fun _ hi => h _ (src_lt hi)
theorem shB_b {f : Nat → Nat} (h : B16 f) : B16 (shB f) := fun _ hi => h _ (mvd_lt hi)
theorem mxC_b {f : Nat → Nat} (h : B16 f) : B16 (mxC f) := fun i hi =>
  xor_lt (xor_lt (xor_lt (tw_lt (xor_lt (h i hi) (h _ (nb_lt hi 1)))) (h _ (nb_lt hi 1))) (h _ (nb_lt hi 2))) (h _ (nb_lt hi 3))
theorem mxB_b {f : Nat → Nat} (h : B16 f) : B16 (mxB f) := mxC_b (mxC_b (mxC_b h))
theorem addF_b {f g : Nat → Nat} (h : B16 f) (h' : B16 g) : B16 (addF f g) := fun i hi => xor_lt (h i hi) (h' i hi)
theorem subF_b (f : Nat → Nat) : B16 (subF f) := fun i _ => sb_lt (f i)
theorem unsF_b (f : Nat → Nat) : B16 (unsF f) := fun i _ => bk_lt (f i)
theorem shR_e {f g : Nat → Nat} (h : Eq16 f g) : Eq16 (shR f) (shR g) := fun _ hi => h _ (src_lt hi)
theorem shB_e {f g : Nat → Nat} (h : Eq16 f g) : Eq16 (shB f) (shB g) := fun _ hi => h _ (mvd_lt hi)
theorem mxC_e {f g : Nat → Nat} (h : Eq16 f g) : Eq16 (mxC f) (mxC g) := fun i hi => by
  unfold mxC; rw [h i hi, h _ (nb_lt hi 1), h _ (nb_lt hi 2), h _ (nb_lt hi 3)]
theorem mxB_e {f g : Nat → Nat} (h : Eq16 f g) : Eq16 (mxB f) (mxB g) := mxC_e (mxC_e (mxC_e h))
theorem addF_e {f g k : Nat → Nat} (h : Eq16 f g) : Eq16 (addF f k) (addF g k) := fun i hi => by unfold addF; rw [h i hi]
theorem subF_e {f g : Nat → Nat} (h : Eq16 f g) : Eq16 (subF f) (subF g) := fun i hi => by unfold subF; rw [h i hi]
theorem unsF_e {f g : Nat → Nat} (h : Eq16 f g) : Eq16 (unsF f) (unsF g) := fun i hi => by unfold unsF; rw [h i hi]
theorem back_row (f : Nat → Nat) : Eq16 (shB (shR f)) f := fun i hi => by show f (src (mvd i)) = f i; rw [src_mvd i hi]
theorem row_back (f : Nat → Nat) : Eq16 (shR (shB f)) f := fun i hi => by show f (mvd (src i)) = f i; rw [mvd_src i hi]
theorem row3 (f : Nat → Nat) : Eq16 (shR (shR (shR f))) (shB f) := fun i hi => by show f (src (src (src i))) = f (mvd i); rw [src3 i hi]
theorem uns_sub {f : Nat → Nat} (h : B16 f) : Eq16 (unsF (subF f)) f := fun i hi => bk_sb (h i hi)
theorem sub_uns {f : Nat → Nat} (h : B16 f) : Eq16 (subF (unsF f)) f := fun i hi => sb_bk (h i hi)
theorem add_add (f g : Nat → Nat) : Eq16 (addF (addF f g) g) f := fun i _ => by unfold addF; rw [Nat.xor_assoc, Nat.xor_self, Nat.xor_zero]

theorem xor_left (a b c : Nat) : a ^^^ (b ^^^ c) = b ^^^ (a ^^^ c) := by rw [← Nat.xor_assoc, Nat.xor_comm a b, Nat.xor_assoc]
theorem xor_can (a b : Nat) : a ^^^ (a ^^^ b) = b := by rw [← Nat.xor_assoc, Nat.xor_self, Nat.zero_xor]
theorem tw4 {a b c d : Nat} (ha : a < 256) (hb : b < 256) (hc : c < 256) (hd : d < 256) :
    tw (a ^^^ b ^^^ c ^^^ d) = tw a ^^^ tw b ^^^ tw c ^^^ tw d := by
  rw [tw_add (xor_lt (xor_lt ha hb) hc) hd, tw_add (xor_lt ha hb) hc, tw_add ha hb]
theorem col_at {f : Nat → Nat} (h : B16 f) {i : Nat} (hi : i < 16) {a b c d : Nat} (ha : f i = a) (hb : f (nb i 1) = b) (hc : f (nb i 2) = c) (hd : f (nb i 3) = d) :
    mxC f i = tw a ^^^ tw b ^^^ b ^^^ c ^^^ d ∧ mxC f (nb i 1) = tw b ^^^ tw c ^^^ c ^^^ d ^^^ a ∧ mxC f (nb i 2) = tw c ^^^ tw d ^^^ d ^^^ a ^^^ b ∧ mxC f (nb i 3) = tw d ^^^ tw a ^^^ a ^^^ b ^^^ c := by
  have h1 := nb_nb i hi
  have la : a < 256 := ha ▸ h i hi
  have lb : b < 256 := hb ▸ h _ (nb_lt hi 1)
  have lc : c < 256 := hc ▸ h _ (nb_lt hi 2)
  have ld : d < 256 := hd ▸ h _ (nb_lt hi 3)
  refine ⟨?_, ?_, ?_, ?_⟩
  · unfold mxC; rw [ha, hb, hc, hd, tw_add la lb]
  · unfold mxC; rw [h1 1 (by decide) 1 (by decide), h1 1 (by decide) 2 (by decide), h1 1 (by decide) 3 (by decide)]; simp only [Nat.reduceAdd, Nat.reduceMod, nb_zero]; rw [ha, hb, hc, hd, tw_add lb lc]
  · unfold mxC; rw [h1 2 (by decide) 1 (by decide), h1 2 (by decide) 2 (by decide), h1 2 (by decide) 3 (by decide)]; simp only [Nat.reduceAdd, Nat.reduceMod, nb_zero]; rw [ha, hb, hc, hd, tw_add lc ld]
  · unfold mxC; rw [h1 3 (by decide) 1 (by decide), h1 3 (by decide) 2 (by decide), h1 3 (by decide) 3 (by decide)]; simp only [Nat.reduceAdd, Nat.reduceMod, nb_zero]; rw [ha, hb, hc, hd, tw_add ld la]

/-- Columns, twice. -/
theorem col2 {f : Nat → Nat} (h : B16 f) {i : Nat} (hi : i < 16) : mxC (mxC f) i = tw (tw (f i)) ^^^ tw (tw (f (nb i 2))) ^^^ f i := by
  obtain ⟨c0, c1, c2, c3⟩ := col_at h hi rfl rfl rfl rfl
  obtain ⟨d0, _⟩ := col_at (mxC_b h) hi c0 c1 c2 c3
  have la := h i hi
  have lb := h _ (nb_lt hi 1)
  have lc := h _ (nb_lt hi 2)
  have ld := h _ (nb_lt hi 3)
  rw [d0]
  generalize f i = a at *
  generalize f (nb i 1) = b at *
  generalize f (nb i 2) = c at *
  generalize f (nb i 3) = d at *
  have ta := tw_lt la
  have tb := tw_lt lb
  have tc := tw_lt lc
  have td := tw_lt ld
  rw [tw_add (xor_lt (xor_lt (xor_lt ta tb) lb) lc) ld, tw4 ta tb lb lc, tw_add (xor_lt (xor_lt (xor_lt tb tc) lc) ld) la, tw4 tb tc lc ld]
  simp only [Nat.xor_assoc, Nat.xor_comm, xor_left, xor_can]
theorem col4 {f : Nat → Nat} (h : B16 f) : Eq16 (mxC (mxB f)) f := fun i hi => by
  show mxC (mxC (mxC (mxC f))) i = f i
  rw [col2 (mxC_b (mxC_b h)) hi, col2 h hi, col2 h (nb_lt hi 2), nb_nb i hi 2 (by decide) 2 (by decide)]
  simp only [Nat.reduceAdd, Nat.reduceMod, nb_zero]
  have la := h i hi
  have lc := h _ (nb_lt hi 2)
  generalize f i = a at *
  generalize f (nb i 2) = c at *
  have ta := tw_lt (tw_lt la)
  have tc := tw_lt (tw_lt lc)
  rw [tw_add (xor_lt ta tc) la, tw_add ta tc, tw_add (xor_lt tc ta) lc, tw_add tc ta, tw_add (xor_lt (tw_lt ta) (tw_lt tc)) (tw_lt la), tw_add (tw_lt ta) (tw_lt tc), tw_add (xor_lt (tw_lt tc) (tw_lt ta)) (tw_lt lc), tw_add (tw_lt tc) (tw_lt ta)]
  simp only [Nat.xor_comm, xor_left, Nat.xor_self, Nat.xor_zero, Nat.zero_xor]
theorem bcol_col {f : Nat → Nat} (h : B16 f) : Eq16 (mxB (mxC f)) f := col4 h
theorem col_add {f g : Nat → Nat} (h : B16 f) (h' : B16 g) : Eq16 (mxC (addF f g)) (addF (mxC f) (mxC g)) := fun i hi => by
  show tw ((f i ^^^ g i) ^^^ (f (nb i 1) ^^^ g (nb i 1))) ^^^ (f (nb i 1) ^^^ g (nb i 1)) ^^^ (f (nb i 2) ^^^ g (nb i 2)) ^^^ (f (nb i 3) ^^^ g (nb i 3)) =
    (tw (f i ^^^ f (nb i 1)) ^^^ f (nb i 1) ^^^ f (nb i 2) ^^^ f (nb i 3)) ^^^ (tw (g i ^^^ g (nb i 1)) ^^^ g (nb i 1) ^^^ g (nb i 2) ^^^ g (nb i 3))
  have la := h i hi
  have lb := h _ (nb_lt hi 1)
  have ma := h' i hi
  have mb := h' _ (nb_lt hi 1)
  rw [tw_add (xor_lt la ma) (xor_lt lb mb), tw_add la ma, tw_add lb mb, tw_add la lb, tw_add ma mb]
  simp only [Nat.xor_assoc, Nat.xor_comm, xor_left]

theorem gm_k2 {a : Nat} (h : a < 256) : gm 2 a = tw a := by rw [gm_comm (by decide) h, gm_two h]
theorem gm_k3 {a : Nat} (h : a < 256) : gm 3 a = tw a ^^^ a := by rw [show (3 : Nat) = 2 ^^^ 1 from rfl, add_gm a (by decide) (by decide), gm_k2 h, one_gm h]
theorem gm_k4 {a : Nat} (h : a < 256) : gm 4 a = tw (tw a) := by rw [gm_comm (by decide) h, show (4 : Nat) = gm 2 2 by decide +kernel, gm_assoc h (by decide) (by decide), gm_two h, gm_two (tw_lt h)]
theorem gm_k8 {a : Nat} (h : a < 256) : gm 8 a = tw (tw (tw a)) := by rw [gm_comm (by decide) h, show (8 : Nat) = gm 4 2 by decide +kernel, gm_assoc h (by decide) (by decide), gm_comm h (by decide), gm_k4 h, gm_two (tw_lt (tw_lt h))]
theorem gm_k14 {a : Nat} (h : a < 256) : gm 14 a = tw (tw (tw a)) ^^^ tw (tw a) ^^^ tw a := by
  rw [show (14 : Nat) = 8 ^^^ 4 ^^^ 2 from rfl, add_gm a (by decide) (by decide), add_gm a (by decide) (by decide), gm_k8 h, gm_k4 h, gm_k2 h]
theorem gm_k11 {a : Nat} (h : a < 256) : gm 11 a = tw (tw (tw a)) ^^^ tw a ^^^ a := by
  rw [show (11 : Nat) = 8 ^^^ 2 ^^^ 1 from rfl, add_gm a (by decide) (by decide), add_gm a (by decide) (by decide), gm_k8 h, gm_k2 h, one_gm h]
theorem gm_k13 {a : Nat} (h : a < 256) : gm 13 a = tw (tw (tw a)) ^^^ tw (tw a) ^^^ a := by
  rw [show (13 : Nat) = 8 ^^^ 4 ^^^ 1 from rfl, add_gm a (by decide) (by decide), add_gm a (by decide) (by decide), gm_k8 h, gm_k4 h, one_gm h]
theorem gm_k9 {a : Nat} (h : a < 256) : gm 9 a = tw (tw (tw a)) ^^^ a := by
  rw [show (9 : Nat) = 8 ^^^ 1 from rfl, add_gm a (by decide) (by decide), gm_k8 h, one_gm h]
theorem doc_col {f : Nat → Nat} (h : B16 f) {i : Nat} (hi : i < 16) : gm 2 (f i) ^^^ gm 3 (f (nb i 1)) ^^^ f (nb i 2) ^^^ f (nb i 3) = mxC f i := by
  unfold mxC
  rw [gm_k2 (h i hi), gm_k3 (h _ (nb_lt hi 1)), tw_add (h i hi) (h _ (nb_lt hi 1))]
  simp only [Nat.xor_assoc]
theorem doc_bcol {f : Nat → Nat} (h : B16 f) {i : Nat} (hi : i < 16) : gm 14 (f i) ^^^ gm 11 (f (nb i 1)) ^^^ gm 13 (f (nb i 2)) ^^^ gm 9 (f (nb i 3)) = mxB f i := by
  show _ = mxC (mxC (mxC f)) i
  rw [col2 (mxC_b h) hi]
  obtain ⟨c0, _, c2, _⟩ := col_at h hi rfl rfl rfl rfl
  rw [c0, c2]
  have la := h i hi
  have lb := h _ (nb_lt hi 1)
  have lc := h _ (nb_lt hi 2)
  have ld := h _ (nb_lt hi 3)
  generalize f i = a at *
  generalize f (nb i 1) = b at *
  generalize f (nb i 2) = c at *
  generalize f (nb i 3) = d at *
  rw [gm_k14 la, gm_k11 lb, gm_k13 lc, gm_k9 ld]
  have ta := tw_lt la
  have tb := tw_lt lb
  have tc := tw_lt lc
  have td := tw_lt ld
  rw [tw_add (xor_lt (xor_lt (xor_lt ta tb) lb) lc) ld, tw4 ta tb lb lc, tw_add (xor_lt (xor_lt (xor_lt tc td) ld) la) lb, tw4 tc td ld la]
  have l1 := tw_lt ta
  have l2 := tw_lt tb
  have l3 := tw_lt tc
  have l4 := tw_lt td
  rw [tw_add (xor_lt (xor_lt (xor_lt l1 l2) tb) tc) td, tw4 l1 l2 tb tc, tw_add (xor_lt (xor_lt (xor_lt l3 l4) td) ta) tb, tw4 l3 l4 td ta]
  simp only [Nat.xor_assoc, Nat.xor_comm, xor_left, xor_can]

/-! ### a block, enciphered and deciphered: keys Y 0 to Y R -/
def encR (Y : Nat → Nat → Nat) (R r : Nat) (f : Nat → Nat) : Nat → Nat :=
  addF (if r = 0 then f else if r < R then mxC (shR (subF f)) else shR (subF f)) (Y r)
def decR (Y : Nat → Nat → Nat) (R r : Nat) (f : Nat → Nat) : Nat → Nat :=
  if r = 0 then addF f (Y r) else if r < R then unsF (shB (mxB (addF f (Y r)))) else unsF (shB (addF f (Y r)))
def enc (Y : Nat → Nat → Nat) (R : Nat) (f : Nat → Nat) : Nat → Nat → Nat
  | 0 => f
  | r + 1 => encR Y R r (enc Y R f r)
def dec (Y : Nat → Nat → Nat) (R : Nat) (f : Nat → Nat) : Nat → Nat → Nat
  | 0 => f
  | k + 1 => decR Y R (R - k) (dec Y R f k)
def YB (Y : Nat → Nat → Nat) (R : Nat) : Prop := ∀ r, r ≤ R → B16 (Y r)
section
variable {Y : Nat → Nat → Nat} {R r : Nat} {f g : Nat → Nat}
theorem encR_b (hY : YB Y R) (hr : r ≤ R) (h : B16 f) : B16 (encR Y R r f) := by
  unfold encR
  refine addF_b ?_ (hY r hr)
  split
  · exact h
  · split
    · exact mxC_b (shR_b (subF_b f))
    · exact shR_b (subF_b f)
theorem decR_b (hY : YB Y R) (hr : r ≤ R) (h : B16 f) : B16 (decR Y R r f) := by
  unfold decR
  split
  · exact addF_b h (hY r hr)
  · split <;> exact unsF_b _
theorem encR_e (h : Eq16 f g) : Eq16 (encR Y R r f) (encR Y R r g) := by
  unfold encR
  refine addF_e ?_
  split
  · exact h
  · split
    · exact mxC_e (shR_e (subF_e h))
    · exact shR_e (subF_e h)
theorem decR_e (h : Eq16 f g) : Eq16 (decR Y R r f) (decR Y R r g) := by
  unfold decR
  split
  · exact addF_e h
  · split
    · exact unsF_e (shB_e (mxB_e (addF_e h)))
    · exact unsF_e (shB_e (addF_e h))
theorem dec_encR (h : B16 f) : Eq16 (decR Y R r (encR Y R r f)) f := by
  unfold decR encR
  by_cases h0 : r = 0
  · rw [if_pos h0, if_pos h0]; exact add_add _ _
  · rw [if_neg h0, if_neg h0]
    by_cases h1 : r < R
    · rw [if_pos h1, if_pos h1]
      refine Eq16.trans (unsF_e (shB_e (mxB_e (add_add _ _)))) ?_
      refine Eq16.trans (unsF_e (shB_e (bcol_col (shR_b (subF_b f))))) ?_
      exact Eq16.trans (unsF_e (back_row _)) (uns_sub h)
    · rw [if_neg h1, if_neg h1]
      refine Eq16.trans (unsF_e (shB_e (add_add _ _))) ?_
      exact Eq16.trans (unsF_e (back_row _)) (uns_sub h)
theorem enc_decR (hY : YB Y R) (hr : r ≤ R) (h : B16 f) : Eq16 (encR Y R r (decR Y R r f)) f := by
  have hA := addF_b h (hY r hr)
  unfold decR encR
  by_cases h0 : r = 0
  · rw [if_pos h0, if_pos h0]; exact add_add _ _
  · rw [if_neg h0, if_neg h0]
    by_cases h1 : r < R
    · rw [if_pos h1, if_pos h1]
      refine Eq16.trans (addF_e (mxC_e (shR_e (sub_uns (shB_b (mxB_b hA)))))) ?_
      refine Eq16.trans (addF_e (mxC_e (row_back _))) ?_
      exact Eq16.trans (addF_e (col4 hA)) (add_add _ _)
    · rw [if_neg h1, if_neg h1]
      refine Eq16.trans (addF_e (shR_e (sub_uns (shB_b hA)))) ?_
      exact Eq16.trans (addF_e (row_back _)) (add_add _ _)
theorem enc_b (hY : YB Y R) (h : B16 f) : ∀ n, n ≤ R + 1 → B16 (enc Y R f n)
  | 0, _ => h
  | n + 1, hn => encR_b hY (by omega) (enc_b hY h n (by omega))
theorem dec_b (hY : YB Y R) (h : B16 f) : ∀ n, n ≤ R + 1 → B16 (dec Y R f n)
  | 0, _ => h
  | n + 1, hn => decR_b hY (by omega) (dec_b hY h n (by omega))
/-- Block and Unblock. -/
def blkF (Y : Nat → Nat → Nat) (R : Nat) (f : Nat → Nat) : Nat → Nat := enc Y R f (R + 1)
def unbF (Y : Nat → Nat → Nat) (R : Nat) (f : Nat → Nat) : Nat → Nat := dec Y R f (R + 1)
theorem blkF_b (hY : YB Y R) (h : B16 f) : B16 (blkF Y R f) := enc_b hY h _ (Nat.le_refl _)
theorem unbF_b (hY : YB Y R) (h : B16 f) : B16 (unbF Y R f) := dec_b hY h _ (Nat.le_refl _)
theorem unb_blk_step (hY : YB Y R) (h : B16 f) : ∀ k, k ≤ R + 1 → Eq16 (dec Y R (blkF Y R f) k) (enc Y R f (R + 1 - k))
  | 0, _ => Eq16.refl _
  | k + 1, hk => by
    have ih := unb_blk_step hY h k (by omega)
    rw [show R + 1 - k = (R - k) + 1 by omega] at ih
    rw [show R + 1 - (k + 1) = R - k by omega]
    exact (decR_e ih).trans (dec_encR (enc_b hY h _ (by omega)))
theorem unb_blk (hY : YB Y R) (h : B16 f) : Eq16 (unbF Y R (blkF Y R f)) f := by
  have := unb_blk_step hY h (R + 1) (Nat.le_refl _)
  rwa [Nat.sub_self] at this
theorem blk_unb_step (hY : YB Y R) (h : B16 f) : ∀ k, k ≤ R + 1 → Eq16 (enc Y R (unbF Y R f) k) (dec Y R f (R + 1 - k))
  | 0, _ => Eq16.refl _
  | k + 1, hk => by
    have ih := blk_unb_step hY h k (by omega)
    rw [show R + 1 - k = (R - k) + 1 by omega] at ih
    rw [show R + 1 - (k + 1) = R - k by omega]
    have e : dec Y R f (R - k + 1) = decR Y R (R - (R - k)) (dec Y R f (R - k)) := rfl
    rw [e, show R - (R - k) = k by omega] at ih
    exact (encR_e ih).trans (enc_decR hY (by omega) (dec_b hY h _ (by omega)))
theorem blk_unb (hY : YB Y R) (h : B16 f) : Eq16 (blkF Y R (unbF Y R f)) f := by
  have := blk_unb_step hY h (R + 1) (Nat.le_refl _)
  rwa [Nat.sub_self] at this
theorem enc_e (h : Eq16 f g) : ∀ n, Eq16 (enc Y R f n) (enc Y R g n)
  | 0 => h
  | n + 1 => encR_e (enc_e h n)
theorem dec_e (h : Eq16 f g) : ∀ n, Eq16 (dec Y R f n) (dec Y R g n)
  | 0 => h
  | n + 1 => decR_e (dec_e h n)
theorem blk_e (h : Eq16 f g) : Eq16 (blkF Y R f) (blkF Y R g) := enc_e h _
theorem unb_e (h : Eq16 f g) : Eq16 (unbF Y R f) (unbF Y R g) := dec_e h _
theorem blk_inj (hY : YB Y R) (hf : B16 f) (hg : B16 g) : Eq16 (blkF Y R f) (blkF Y R g) ↔ Eq16 f g :=
  ⟨fun h => ((unb_blk hY hf).symm.trans (unb_e h)).trans (unb_blk hY hg), blk_e⟩
end
end Go.Proofs.YthhkhcacljgelaaGreat

namespace Go.Proofs.YthhkhcacljgelaaGreat
open Go.RowKit

theorem infoa : (Tryz.prog.info? 48).map (·.size) = some 16 := by kernel_rfl
theorem idxa (f : Nat → Nat) {j : Nat} (hj : j < 16) (w : World) : (Instr.index 48 (.agg (ba 16 f)) (.int .i64 (j : Int))).run Tryz.prog w = .ok (.int .u8 (f j : Int)) w :=
  run_index_ba w 48 5 16 f j Tryz.underlying48 Tryz.underlying5 info5 hj

set_option maxRecDepth 100000 in
theorem moved_any (i : Nat) (w : World) (h : i < 16) : Calls Tryz.prog 85 #[.int .i64 (i : Int)] w fun e w' => e = .returned (.int .i64 (mvd i : Nat)) ∧ w' = w := by
  obtain ⟨a, ha, la⟩ : ∃ a, i % 4 = a ∧ a < 4 := ⟨_, rfl, by omega⟩
  obtain ⟨c, hc, lc⟩ : ∃ c, i / 4 = c ∧ c < 4 := ⟨_, rfl, by omega⟩
  obtain ⟨s, hs⟩ : ∃ s, c + 4 = s := ⟨_, rfl⟩
  obtain ⟨d, hd⟩ : ∃ d, s - a = d := ⟨_, rfl⟩
  obtain ⟨e, he, le⟩ : ∃ e, d % 4 = e ∧ e < 4 := ⟨_, rfl, by omega⟩
  obtain ⟨p, hp⟩ : ∃ p, 4 * e = p := ⟨_, rfl⟩
  obtain ⟨r, hr⟩ : ∃ r, a + p = r := ⟨_, rfl⟩
  have HR : Hid (mvd i = r) := hid (by unfold mvd; rw [ha, hc, hs, hd, he, hp, hr])
  have e1 : (i : Int) % 4 = (a : Int) := by omega
  have e2 : (i : Int) / 4 = (c : Int) := by omega
  have e3 : (c : Int) + 4 = (s : Int) := by omega
  have e4 : (s : Int) - (a : Int) = (d : Int) := by omega
  have e5 : (d : Int) % 4 = (e : Int) := by omega
  have e6 : 4 * (e : Int) = (p : Int) := by omega
  have e7 : (a : Int) + (p : Int) = (r : Int) := by omega
  have w3 : IntKind.i64.wrap (s : Int) = s := by rw [IntKind.wrap_i64]; omega
  have w4 : IntKind.i64.wrap (d : Int) = d := by rw [IntKind.wrap_i64]; omega
  have w6 : IntKind.i64.wrap (p : Int) = p := by rw [IntKind.wrap_i64]; omega
  have w7 : IntKind.i64.wrap (r : Int) = r := by rw [IntKind.wrap_i64]; omega
  have w1 : IntKind.i64.wrap (a : Int) = a := by rw [IntKind.wrap_i64]; omega
  have w2 : IntKind.i64.wrap (c : Int) = c := by rw [IntKind.wrap_i64]; omega
  have w5 : IntKind.i64.wrap (e : Int) = e := by rw [IntKind.wrap_i64]; omega
  have d0 : (0 : Int) ≤ (d : Int) := by omega
  clear ha hc hs hd he hp hr
  go_enter Tryz.func85, Tryz.ntmps85
  go_wp2
  go_ret
  exact ⟨by rw [HR.out]; rfl, rfl⟩

set_option maxRecDepth 100000 in
theorem below_any (i n : Nat) (w : World) (h : i < 16) (hn : n < 4) : Calls Tryz.prog 86 #[.int .i64 (i : Int), .int .i64 (n : Int)] w fun e w' => e = .returned (.int .i64 (nb i n : Nat)) ∧ w' = w := by
  obtain ⟨a, ha, la⟩ : ∃ a, i % 4 = a ∧ a < 4 := ⟨_, rfl, by omega⟩
  obtain ⟨c, hc, lc⟩ : ∃ c, i - a = c ∧ c < 16 := ⟨_, rfl, by omega⟩
  obtain ⟨s, hs⟩ : ∃ s, i + n = s := ⟨_, rfl⟩
  obtain ⟨d, hd⟩ : ∃ d, s % 4 = d := ⟨_, rfl⟩
  obtain ⟨r, hr⟩ : ∃ r, c + d = r := ⟨_, rfl⟩
  have HR : Hid (nb i n = r) := hid (by unfold nb; rw [ha, hc, hs, hd, hr])
  have e1 : (i : Int) % 4 = (a : Int) := by omega
  have e2 : (i : Int) - (a : Int) = (c : Int) := by omega
  have e3 : (i : Int) + (n : Int) = (s : Int) := by omega
  have e4 : (s : Int) % 4 = (d : Int) := by omega
  have e5 : (c : Int) + (d : Int) = (r : Int) := by omega
  have w1 : IntKind.i64.wrap (a : Int) = a := by rw [IntKind.wrap_i64]; omega
  have w2 : IntKind.i64.wrap (c : Int) = c := by rw [IntKind.wrap_i64]; omega
  have w3 : IntKind.i64.wrap (s : Int) = s := by rw [IntKind.wrap_i64]; omega
  have w4 : IntKind.i64.wrap (d : Int) = d := by rw [IntKind.wrap_i64]; omega
  have w5 : IntKind.i64.wrap (r : Int) = r := by rw [IntKind.wrap_i64]; omega
  clear ha hc hs hd hr
  go_enter Tryz.func86, Tryz.ntmps86
  go_wp2
  go_ret
  exact ⟨by rw [HR.out]; rfl, rfl⟩

/-! ### Rows, there and back -/
/-- What was boxed, the result and the block that is being made. -/
structure Tri (w wr : World) (f g : Nat → Nat) : Prop where
  arg : At wr w.heap.size 16 48 f
  out : At wr (w.heap.size + 1) 16 48 (fun _ => 0)
  var : At wr (w.heap.size + 2) 16 48 g
  low : Below w.heap.size w wr
theorem Tri.start (w : World) (f : Nat → Nat) : Tri w (((w.alloc (.cells (ba 16 f) 48)).alloc (.cells (ba 16 (fun _ => 0)) 48)).alloc (.cells (ba 16 (fun _ => 0)) 48)) f (fun _ => 0) := by
  have h1 := At.new w 16 48 f
  have h2 := At.new (w.alloc (.cells (ba 16 f) 48)) 16 48 (fun _ => 0)
  have h3 := At.new ((w.alloc (.cells (ba 16 f) 48)).alloc (.cells (ba 16 (fun _ => 0)) 48)) 16 48 (fun _ => 0)
  rw [World.size_alloc] at h2
  rw [World.size_alloc, World.size_alloc] at h3
  exact ⟨(h1.alloc _).alloc _, h2.alloc _, h3, (((Below.refl _ _).alloc (Nat.le_refl _) _).alloc (by simp) _).alloc (by simp; omega) _⟩
section
variable {w wr w1 : World} {f g g' : Nat → Nat}
theorem Tri.set (h : Tri w wr f g) (j z : Nat) : Tri w (wr.setCell ⟨w.heap.size + 2, j, none⟩ (.int .u8 (z : Int))) f (upd g j z) :=
  ⟨h.arg.apart (by simp) _, h.out.apart (by simp) _, h.var.set j z, h.low.setCell (by simp) _⟩
theorem Tri.ext (h : Tri w wr f g) (e : Eq16 g g') : Tri w wr f g' := ⟨h.arg, h.out, h.var.ext e, h.low⟩
theorem Tri.drew (h : Tri w wr f g) : Tri w wr.drew f g := ⟨h.arg.drew, h.out.drew, h.var.drew, h.low.drew⟩
theorem Tri.self (h : Tri w wr f g) (hb : Below wr.heap.size wr w1) : Tri w w1 f g := ⟨h.arg.self hb, h.out.self hb, h.var.self hb, h.low.trans (hb.mono h.low.size)⟩
theorem Tri.row (h : Tri w wr f g) (k : Nat → Nat) : Tri w (wr.setRow (w.heap.size + 2) (ba 16 k)) f k :=
  ⟨h.arg.rowApart (by omega) _, h.out.rowApart (by omega) _, h.var.row k, below_setRow h.low (by omega) _⟩
theorem Tri.done (h : Tri w wr f g) (k : Nat → Nat) : At (wr.setRow (w.heap.size + 1) (ba 16 k)) (w.heap.size + 1) 16 48 k ∧ Below w.heap.size w (wr.setRow (w.heap.size + 1) (ba 16 k)) :=
  ⟨h.out.row k, below_setRow h.low (by omega) _⟩
end
/-- Places written so far. -/
def shTo (f : Nat → Nat) (i : Nat) : Nat → Nat := fun j => if src j < i then f (src j) else 0
theorem shTo_zero (f : Nat → Nat) : Eq16 (fun _ => 0) (shTo f 0) := fun _ _ => (if_neg (by omega)).symm
theorem shTo_all (f : Nat → Nat) : Eq16 (shTo f 16) (shR f) := fun _ hj => if_pos (src_lt hj)
theorem shTo_step (f : Nat → Nat) {i : Nat} (hi : i < 16) : Eq16 (upd (shTo f i) (mvd i) (f i)) (shTo f (i + 1)) := fun j hj => by
  unfold upd shTo
  by_cases e : j = mvd i
  · subst e; rw [if_pos rfl, src_mvd i hi, if_pos (by omega)]
  · rw [if_neg e]
    by_cases h : src j < i
    · rw [if_pos h, if_pos (by omega)]
    · have : src j ≠ i := fun h' => e (by rw [← h', mvd_src j hj])
      rw [if_neg h, if_neg (by omega)]
def upF (g : Nat → Nat) (i : Nat) : Nat → Nat := fun j => if j < i then g j else 0
theorem upF_zero (g : Nat → Nat) : Eq16 (fun _ => 0) (upF g 0) := fun _ _ => (if_neg (by omega)).symm
theorem upF_all (g : Nat → Nat) : Eq16 (upF g 16) g := fun _ hj => if_pos hj
theorem upF_step (g : Nat → Nat) {i z : Nat} (hz : g i = z) : Eq16 (upd (upF g i) i z) (upF g (i + 1)) := fun j _ => by
  unfold upd upF
  by_cases e : j = i
  · subst e; rw [if_pos rfl, if_pos (by omega), hz]
  · rw [if_neg e]
    by_cases h : j < i
    · rw [if_pos h, if_pos (by omega)]
    · rw [if_neg h, if_neg (by omega)]

set_option maxRecDepth 100000 in
set_option maxHeartbeats 800000 in
theorem rows_any (f : Nat → Nat) (w : World) : Calls Tryz.prog 72 #[.agg (ba 16 f)] w fun e w' => e = .returned (.agg (ba 16 (shR f))) ∧ Below w.heap.size w w' := by
  have HS := hid (Tri.start w f)
  go_enter Tryz.func72, Tryz.ntmps72
  go_wp2_with (refine step_load_ba rfl 48 _ rfl w.heap.size 16 48 5 f rfl HS.out.arg Tryz.underlying48 infoa ?_)
  go_loopw [7] (fun i wr => ∃ j : Nat, j ≤ 16 ∧ i = .int .i64 j ∧ Tri w wr f (shTo f j)) (fun i _ => 16 - (intOf i).toNat)
  case atStart => exact ⟨0, by omega, rfl, HS.out.ext (shTo_zero f)⟩
  case round =>
    obtain ⟨j, hj, rfl, hI⟩ := hrel
    have HI := hid hI
    clear hI
    by_cases hlt : j < 16
    · have hi := idxa f hlt
      have HM := hid (fun w => moved_any j w hlt)
      have hm := mvd_lt hlt
      have HT := hid (fun z => HI.out.set (mvd j) z)
      have HE := hid (shTo_step f hlt)
      have hc := HI.out.var.cell hm
      have hf := HI.out.var.free (mvd j)
      generalize mvd j = m at *
      generalize shTo f j = g at *
      generalize f j = x at *
      go_wp2_with (first | (go_at_call 85; (with_reducible refine (HM.out _).mono ?_); rintro e w1 ⟨rfl, rfl⟩))
      go_roundw
      case rel => exact ⟨j + 1, by omega, by go_num, (HT.out x).ext HE.out⟩
      case measure => simp [intOf]; omega
    · obtain rfl : j = 16 := by omega
      have HD := hid (HI.out.ext (shTo_all f))
      go_wp2_with (first
        | (refine step_load_ba rfl 48 _ rfl (w.heap.size + 2) 16 48 5 _ rfl HD.out.var Tryz.underlying48 infoa ?_)
        | (refine step_store_ba rfl 48 _ _ rfl (w.heap.size + 1) 16 48 (fun _ => 0) _ rfl rfl HD.out.out infoa ?_))
      exact ret_ba rfl rfl Tryz.underlying48 infoa rfl (HD.out.done _).1 ⟨rfl, (HD.out.done _).2⟩

end Go.Proofs.YthhkhcacljgelaaGreat

namespace Go.Proofs.YthhkhcacljgelaaGreat
open Go.RowKit

/-- h in the places done, f behind. -/
def mkTo (h f : Nat → Nat) (j : Nat) : Nat → Nat := fun x => if x < j then h x else f x
theorem mkTo_zero (h f : Nat → Nat) : Eq16 f (mkTo h f 0) := fun _ _ => (if_neg (by omega)).symm
theorem mkTo_all (h f : Nat → Nat) : Eq16 (mkTo h f 16) h := fun _ hj => if_pos hj
theorem mkTo_at (h f : Nat → Nat) (j : Nat) : mkTo h f j j = f j := if_neg (by omega)
theorem mkTo_step (h f : Nat → Nat) {i z : Nat} (hz : h i = z) : Eq16 (upd (mkTo h f i) i z) (mkTo h f (i + 1)) := fun j _ => by
  unfold upd mkTo
  by_cases e : j = i
  · subst e; rw [if_pos rfl, if_pos (by omega), hz]
  · rw [if_neg e]
    by_cases h : j < i
    · rw [if_pos h, if_pos (by omega)]
    · rw [if_neg h, if_neg (by omega)]

/-- A boxed block that is turned, and the result's block n further on. -/
structure Var (n : Nat) (w wr : World) (g : Nat → Nat) : Prop where
  var : At wr w.heap.size 16 48 g
  out : At wr (w.heap.size + n) 16 48 (fun _ => 0)
  low : Below w.heap.size w wr
section
variable {n : Nat} {w wr w1 : World} {g g' : Nat → Nat}
theorem Var.start1 (w : World) (f : Nat → Nat) : Var 1 w ((w.alloc (.cells (ba 16 f) 48)).alloc (.cells (ba 16 (fun _ => 0)) 48)) f := by
  have h1 := At.new w 16 48 f
  have h2 := At.new (w.alloc (.cells (ba 16 f) 48)) 16 48 (fun _ => 0)
  rw [World.size_alloc] at h2
  exact ⟨h1.alloc _, h2, ((Below.refl _ _).alloc (Nat.le_refl _) _).alloc (by simp) _⟩
theorem Var.start2 (w : World) (f k : Nat → Nat) : Var 2 w (((w.alloc (.cells (ba 16 f) 48)).alloc (.cells (ba 16 k) 48)).alloc (.cells (ba 16 (fun _ => 0)) 48)) f := by
  have h1 := At.new w 16 48 f
  have h3 := At.new ((w.alloc (.cells (ba 16 f) 48)).alloc (.cells (ba 16 k) 48)) 16 48 (fun _ => 0)
  rw [World.size_alloc, World.size_alloc] at h3
  exact ⟨(h1.alloc _).alloc _, h3, (((Below.refl _ _).alloc (Nat.le_refl _) _).alloc (by simp) _).alloc (by simp; omega) _⟩
theorem Var.set (hn : 0 < n) (h : Var n w wr g) (j z : Nat) : Var n w (wr.setCell ⟨w.heap.size, j, none⟩ (.int .u8 (z : Int))) (upd g j z) :=
  ⟨h.var.set j z, h.out.apart (by simp; omega) _, h.low.setCell (by simp) _⟩
theorem Var.ext (h : Var n w wr g) (e : Eq16 g g') : Var n w wr g' := ⟨h.var.ext e, h.out, h.low⟩
theorem Var.drew (h : Var n w wr g) : Var n w wr.drew g := ⟨h.var.drew, h.out.drew, h.low.drew⟩
theorem Var.self (h : Var n w wr g) (hb : Below wr.heap.size wr w1) : Var n w w1 g := ⟨h.var.self hb, h.out.self hb, h.low.trans (hb.mono h.low.size)⟩
theorem Var.row (hn : 0 < n) (h : Var n w wr g) (k : Nat → Nat) : Var n w (wr.setRow w.heap.size (ba 16 k)) k :=
  ⟨h.var.row k, h.out.rowApart (by omega) _, below_setRow h.low (by omega) _⟩
theorem Var.done (h : Var n w wr g) (k : Nat → Nat) : At (wr.setRow (w.heap.size + n) (ba 16 k)) (w.heap.size + n) 16 48 k ∧ Below w.heap.size w (wr.setRow (w.heap.size + n) (ba 16 k)) :=
  ⟨h.out.row k, below_setRow h.low (by omega) _⟩
end
/-- .. where a box is asked. -/
structure VarB (b : Nat) (w wr : World) (g : Nat → Nat) : Prop where
  var : At wr w.heap.size 16 48 g
  out : At wr (w.heap.size + 1) 16 48 (fun _ => 0)
  box : Box wr b
  low : Only b w wr
section
variable {b : Nat} {w wr w1 : World} {g g' : Nat → Nat}
theorem VarB.start (w : World) (f : Nat → Nat) (hB : Box w b) : VarB b w ((w.alloc (.cells (ba 16 f) 48)).alloc (.cells (ba 16 (fun _ => 0)) 48)) f := by
  have h := Var.start1 w f
  exact ⟨h.var, h.out, hB.self h.low, Only.of_below h.low⟩
theorem VarB.on (h : VarB b w wr g) (hb : b < w.heap.size) (hB : Box w1 b) (ho : Only b wr w1) : VarB b w w1 g :=
  ⟨(ho.block _ h.var.lt (by omega)).trans h.var, (ho.block _ h.out.lt (by omega)).trans h.out, hB, h.low.trans ho⟩
theorem VarB.set (h : VarB b w wr g) (hb : b < w.heap.size) (j z : Nat) : VarB b w (wr.setCell ⟨w.heap.size, j, none⟩ (.int .u8 (z : Int))) (upd g j z) :=
  ⟨h.var.set j z, h.out.apart (by simp) _, h.box.set (by simp; omega) _, below_only h.low _ _ (by simp)⟩
theorem VarB.ext (h : VarB b w wr g) (e : Eq16 g g') : VarB b w wr g' := ⟨h.var.ext e, h.out, h.box, h.low⟩
theorem VarB.done (h : VarB b w wr g) (hb : b < w.heap.size) (k : Nat → Nat) :
    At (wr.setRow (w.heap.size + 1) (ba 16 k)) (w.heap.size + 1) 16 48 k ∧ Box (wr.setRow (w.heap.size + 1) (ba 16 k)) b ∧ Only b w (wr.setRow (w.heap.size + 1) (ba 16 k)) :=
  ⟨h.out.row k, h.box.same (setRow_other wr _ b _ (by omega)), ⟨h.low.os, h.low.tape, h.low.output, by simpa using h.low.size, fun j hj hn => (setRow_other wr _ j _ (by omega)).trans (h.low.block j hj hn)⟩⟩
end

set_option maxRecDepth 100000 in
set_option maxHeartbeats 800000 in
theorem sum16_any (f k : Nat → Nat) (w : World) (hf : B16 f) (hk : B16 k) : Calls Tryz.prog 76 #[.agg (ba 16 f), .agg (ba 16 k)] w fun e w' => e = .returned (.agg (ba 16 (addF f k))) ∧ Below w.heap.size w w' := by
  have HS := hid (Var.start2 w f k)
  have HK : Hid (At (((w.alloc (.cells (ba 16 f) 48)).alloc (.cells (ba 16 k) 48)).alloc (.cells (ba 16 (fun _ => 0)) 48)) (w.heap.size + 1) 16 48 k) := hid (by
    have h2 := At.new (w.alloc (.cells (ba 16 f) 48)) 16 48 k
    rw [World.size_alloc] at h2
    exact h2.alloc _)
  have HF := hid hf
  have HG := hid hk
  clear hf hk
  go_enter Tryz.func76, Tryz.ntmps76
  go_wp2_with (refine step_load_ba rfl 48 _ rfl (w.heap.size + 1) 16 48 5 k rfl HK.out Tryz.underlying48 infoa ?_)
  go_loopw [8] (fun i wr => ∃ j : Nat, j ≤ 16 ∧ i = .int .i64 j ∧ Var 2 w wr (mkTo (addF f k) f j)) (fun i _ => 16 - (intOf i).toNat)
  case atStart => exact ⟨0, by omega, rfl, HS.out.ext (mkTo_zero _ _)⟩
  case round =>
    obtain ⟨j, hj, rfl, hI⟩ := hrel
    have HI := hid hI
    clear hI
    by_cases hlt : j < 16
    · have hi := idxa k hlt
      have HT := hid (fun z => HI.out.set (by decide) j z)
      have HE := hid (fun (z : Nat) (hz : addF f k j = z) => mkTo_step (addF f k) f hz)
      have hc := HI.out.var.cell hlt
      rw [mkTo_at] at hc
      have hfz := HI.out.var.free j
      have HX := hid (xor8 (HF.out j hlt) (HG.out j hlt))
      have HV : Hid (addF f k j = f j ^^^ k j) := hid rfl
      generalize mkTo (addF f k) f j = g at *
      generalize f j = x at *
      generalize k j = y at *
      go_wp2
      go_roundw
      case rel => exact ⟨j + 1, by omega, by go_num, by rw [HX.out]; exact (HT.out _).ext (HE.out _ HV.out)⟩
      case measure => simp [intOf]; omega
    · obtain rfl : j = 16 := by omega
      have HD := hid (HI.out.ext (mkTo_all _ _))
      go_wp2_with (first
        | (refine step_load_ba rfl 48 _ rfl w.heap.size 16 48 5 _ rfl HD.out.var Tryz.underlying48 infoa ?_)
        | (refine step_store_ba rfl 48 _ _ rfl (w.heap.size + 2) 16 48 (fun _ => 0) _ rfl rfl HD.out.out infoa ?_))
      exact ret_ba rfl rfl Tryz.underlying48 infoa rfl (HD.out.done _).1 ⟨rfl, (HD.out.done _).2⟩

set_option maxRecDepth 100000 in
set_option maxHeartbeats 800000 in
theorem each_sub (b : Nat) (f : Nat → Nat) (w : World) (hf : B16 f) (hB : Box w b) :
    Calls Tryz.prog 73 #[.agg (ba 16 f), .func (.func 70) #[.pointer (some ⟨b, 0, none⟩)] #[]] w fun e w' => e = .returned (.agg (ba 16 (subF f))) ∧ Box w' b ∧ Only b w w' := by
  have HS := hid (VarB.start w f hB)
  have HA : Hid (At ((w.alloc (.cells (ba 16 f) 48)).alloc (.cells (ba 16 (fun _ => 0)) 48)) w.heap.size 16 48 f) := hid HS.out.var
  have HF := hid hf
  have hb := hB.lt
  clear hf hB
  go_enter Tryz.func73, Tryz.ntmps73
  go_wp2_with (refine step_load_ba rfl 48 _ rfl w.heap.size 16 48 5 f rfl HA.out Tryz.underlying48 infoa ?_)
  go_loopw [8] (fun i wr => ∃ j : Nat, j ≤ 16 ∧ i = .int .i64 j ∧ VarB b w wr (mkTo (subF f) f j)) (fun i _ => 16 - (intOf i).toNat)
  case atStart => exact ⟨0, by omega, rfl, HS.out.ext (mkTo_zero _ _)⟩
  case round =>
    obtain ⟨j, hj, rfl, hI⟩ := hrel
    have HI := hid hI
    clear hI
    by_cases hlt : j < 16
    · have hi := idxa f hlt
      have HC := hid (sub_box b (f j) wr (HF.out j hlt) HI.out.box)
      have HE := hid (fun (z : Nat) (hz : subF f j = z) => mkTo_step (subF f) f hz)
      have HV : Hid (subF f j = sb (f j)) := hid rfl
      generalize mkTo (subF f) f j = g at *
      generalize sb (f j) = z at *
      generalize f j = x at *
      go_wp2_with (first | (go_at_call 70; (with_reducible refine (HC.out).mono ?_); rintro e w1 ⟨rfl, hbx, ho⟩; have HJ := hid (HI.out.on hb hbx ho); have hc := HJ.out.var.cell hlt; have hfz := HJ.out.var.free j; clear hbx ho))
      go_roundw
      case rel => exact ⟨j + 1, by omega, by go_num, (HJ.out.set hb j z).ext (HE.out _ HV.out)⟩
      case measure => simp [intOf]; omega
    · obtain rfl : j = 16 := by omega
      have HD := hid (HI.out.ext (mkTo_all _ _))
      go_wp2_with (first
        | (refine step_load_ba rfl 48 _ rfl w.heap.size 16 48 5 _ rfl HD.out.var Tryz.underlying48 infoa ?_)
        | (refine step_store_ba rfl 48 _ _ rfl (w.heap.size + 1) 16 48 (fun _ => 0) _ rfl rfl HD.out.out infoa ?_))
      exact ret_ba rfl rfl Tryz.underlying48 infoa rfl (HD.out.done hb _).1 ⟨rfl, (HD.out.done hb _).2⟩

/-! ### the box's Back -/
end Go.Proofs.YthhkhcacljgelaaGreat

namespace Go.Proofs.YthhkhcacljgelaaGreat
open Go.RowKit

/-- m rows of 16 bytes, one behind the other. -/
def flt (m : Nat) (F : Nat → Nat → Nat) : List Value := (ba (16 * m) (fun x => F (x / 16) (x % 16))).toList
theorem flt_len (m : Nat) (F : Nat → Nat → Nat) : (flt m F).length = m * 16 := by unfold flt; rw [Array.length_toList, ba_size, Nat.mul_comm]
theorem flt_at {m : Nat} (F : Nat → Nat → Nat) {x : Nat} (h : x < 16 * m) : (flt m F)[x]? = some (.int .u8 (F (x / 16) (x % 16) : Int)) := by
  unfold flt; rw [Array.getElem?_toList, ba_get _ h]
theorem flt_snoc (m : Nat) (F : Nat → Nat → Nat) (f : Nat → Nat) : flt m F ++ (ba 16 f).toList = flt (m + 1) (updR F m f) := by
  apply List.ext_getElem?
  intro x
  by_cases h1 : x < 16 * m
  · rw [List.getElem?_append_left (by rw [flt_len]; omega), flt_at _ h1, flt_at _ (by omega)]
    unfold updR
    rw [if_neg (by omega)]
  · rw [List.getElem?_append_right (by rw [flt_len]; omega), flt_len]
    by_cases h2 : x < 16 * (m + 1)
    · rw [flt_at _ h2, Array.getElem?_toList, ba_get _ (by omega)]
      unfold updR
      rw [if_pos (by omega), show x - m * 16 = x % 16 by omega]
    · rw [List.getElem?_eq_none (by rw [Array.length_toList, ba_size]; omega), List.getElem?_eq_none (by rw [flt_len]; omega)]
theorem flt_ext {m : Nat} {F G : Nat → Nat → Nat} (h : ∀ i, i < m → ∀ j, j < 16 → F i j = G i j) : flt m F = flt m G := by
  unfold flt
  rw [ba_ext (fun x hx => h (x / 16) (by omega) (x % 16) (by omega))]

/-- Block c reads, from its beginning on, as rows of 16 bytes. -/
structure R16 (w : World) (c m : Nat) (F : Nat → Nat → Nat) : Prop where
  lt : c < w.heap.size
  cell : ∀ i, i < m → ∀ j, j < 16 → w.cell? ⟨c, i * 16 + j, none⟩ = some (.int .u8 (F i j : Int))
  byte : ∀ i, i < m → B16 (F i)
theorem R16.same {w w' : World} {c m : Nat} {F : Nat → Nat → Nat} (h : R16 w c m F) (hs : w.heap.size ≤ w'.heap.size) (hb : w'.heap[c]? = w.heap[c]?) : R16 w' c m F :=
  ⟨Nat.lt_of_lt_of_le h.lt hs, fun i hi j hj => (World.cell?_of_block (w := w) hb).trans (h.cell i hi j hj), h.byte⟩
theorem R16.range {w : World} {c m : Nat} {F : Nat → Nat → Nat} (h : R16 w c m F) {i : Nat} (hi : i < m) : w.rangeAt c (i * 16) (ba 16 (F i)).toList := by
  intro j v hv
  have hj : j < 16 := by have := (List.getElem?_eq_some_iff.1 hv).1; rwa [Array.length_toList, ba_size] at this
  rw [Array.getElem?_toList, ba_get _ hj] at hv
  injection hv with hv
  rw [← hv]; exact h.cell i hi j hj
theorem Wd.range {w : World} {g o : Nat} {f : Nat → Nat} (h : Wd w 16 g o f) : w.rangeAt g o (ba 16 f).toList := by
  intro j v hv
  have hj : j < 16 := by have := (List.getElem?_eq_some_iff.1 hv).1; rwa [Array.length_toList, ba_size] at this
  rw [Array.getElem?_toList, ba_get _ hj] at hv
  injection hv with hv
  rw [← hv]; exact h.cell j hj

/-- A list of rows of 16 bytes, the call's own. -/
structure LB (w : World) (B : Nat) (v : Value) (m : Nat) (F : Nat → Nat → Nat) : Prop where
  own : w.ownsRow B 48 16 v m (flt m F)
  byte : ∀ i, i < m → B16 (F i)
theorem LB.r16 {w : World} {B c cap m : Nat} {F : Nat → Nat → Nat} (h : LB w B (.slice (some ⟨c, 0, none⟩) m cap) m F) (hm : 0 < m) : R16 w c m F := by
  obtain ⟨g, cap', e, hb, hlt⟩ := h.own.form hm
  injection e with e1 _ _
  injection e1 with e1
  injection e1 with e1
  subst e1
  refine ⟨hlt, fun i hi j hj => ?_, h.byte⟩
  have := h.own.cells (g := c) rfl (i * 16 + j) _ (flt_at F (by omega))
  rw [Addr.add_mid, Nat.zero_add] at this
  rw [this, show (i * 16 + j) / 16 = i by omega, show (i * 16 + j) % 16 = j by omega]
theorem LB.same {w w' : World} {B : Nat} {v : Value} {m : Nat} {F : Nat → Nat → Nat} (h : LB w B v m F) (hb : ∀ g, B ≤ g → g < w.heap.size → w'.heap[g]? = w.heap[g]?) : LB w' B v m F := by
  refine ⟨⟨h.own.1, ?_⟩, h.byte⟩
  rcases h.own.2 with h1 | ⟨g, cap, cur, e, h1, h2, h3⟩
  · exact .inl h1
  · exact .inr ⟨g, cap, cur, e, h1, (hb g h1 (Array.getElem?_eq_some_iff.1 h2).1).trans h2, h3⟩
theorem LB.ext {w : World} {B : Nat} {v : Value} {m : Nat} {F G : Nat → Nat → Nat} (h : LB w B v m F) (e : ∀ i, i < m → ∀ j, j < 16 → F i j = G i j) : LB w B v m G :=
  ⟨by rw [← flt_ext e]; exact h.own, fun i hi j hj => by rw [← e i hi j hj]; exact h.byte i hi j hj⟩

theorem info16 : (Tryz.prog.info? 48).map (fun i => (i.zero, i.size, i.bytes)) = some (some (.agg (ba 16 (fun _ => 0))), 16, 16) := by kernel_rfl
set_option maxRecDepth 100000 in
theorem wp_append_lb {w : World} {o : Oper} {a : Act} {Kk : Act → World → Prop} {Q : Exit → Act → World → Prop} (s x : Operand)
    (ho : o.op = .call { callee := .builtin .append, args := #[s, x], argTypes := #[45, 45] }) (B : Nat) (v : Value) (m : Nat) (F : Nat → Nat → Nat) (hs : a.eval s = v) (hown : LB w B v m F)
    (ad : Addr) (c : Nat) (f : Nat → Nat) (hx : a.eval x = .slice (some ad) 1 c) (hu : ∀ j, j < 16 → w.cell? (ad.add j) = some (.int .u8 (f j : Int))) (hf : B16 f)
    (hlim : m ≤ 1048576) (hB : B ≤ w.heap.size) (B0 : Nat) (w0 : World) (hb : Below B0 w0 w) (hBB : B0 ≤ B)
    (h : ∀ v' w', LB w' B v' (m + 1) (updR F m f) → Below B0 w0 w' → w.heap.size ≤ w'.heap.size → Kk (a.put o.dst v') w') : o.wp Tryz.prog a w Kk Q := by
  obtain ⟨i0, hi, hz0, hz1, hz2⟩ := info_parts info16
  refine wp_append_own w s x 45 ho B 48 i0 _ 16 16 Tryz.underlying45 hi hz0 hz1 hz2 (ba_size _ _) (by decide) v m (flt m F) hs hown.own ad 1 c (ba 16 f).toList hx (by rw [Array.length_toList, ba_size]) ?_ ?_ (by unfold maxLen; omega) (by omega) hB ?_
  · intro j y hj
    have hj4 : j < 16 := by have := (List.getElem?_eq_some_iff.1 hj).1; rwa [Array.length_toList, ba_size] at this
    rw [Array.getElem?_toList, ba_get _ hj4] at hj
    injection hj with hj
    rw [← hj]; exact hu j hj4
  · intro y hy
    obtain ⟨j, hj, e⟩ := List.mem_iff_getElem.1 hy
    have hj4 : j < 16 := by rwa [Array.length_toList, ba_size] at hj
    have : (ba 16 f).toList[j]? = some y := by rw [List.getElem?_eq_getElem hj, e]
    rw [Array.getElem?_toList, ba_get _ hj4] at this
    injection this with this
    rw [← this]; rfl
  · intro v' w' h2 h3 _
    refine h v' w' ⟨by rw [← flt_snoc]; exact h2, fun i hi j hj => ?_⟩ (hb.grown h3 (by omega) (fun j hj => by have := (World.ownsRow.lt hown.own j hj).1; omega)) h3.size
    unfold updR
    split
    · exact hf j hj
    · exact hown.byte i (by omega) j hj
theorem step_append_lb {w : World} {ops : Array Oper} {o : Oper} {a : Act} {Kk : Act → World → Prop} {Q : Exit → Act → World → Prop} {X : Prop} (hgd : o.guard = none) (s x : Operand)
    (ho : o.op = .call { callee := .builtin .append, args := #[s, x], argTypes := #[45, 45] }) (B : Nat) (v : Value) (m : Nat) (F : Nat → Nat → Nat) (hs : a.eval s = v) (hown : LB w B v m F)
    (ad : Addr) (c : Nat) (f : Nat → Nat) (hx : a.eval x = .slice (some ad) 1 c) (hu : ∀ j, j < 16 → w.cell? (ad.add j) = some (.int .u8 (f j : Int))) (hf : B16 f)
    (hlim : m ≤ 1048576) (hB : B ≤ w.heap.size) (B0 : Nat) (w0 : World) (hb : Below B0 w0 w) (hBB : B0 ≤ B)
    (h : ∀ v' w', LB w' B v' (m + 1) (updR F m f) → Below B0 w0 w' → w.heap.size ≤ w'.heap.size → Kk (a.put o.dst v') w') :
    if Region.wanted o (yielded ops a.tmps) = true then Oper.wp Tryz.prog o a w Kk Q else X := by
  have hw : Region.wanted o (yielded ops a.tmps) = true := by simp [Region.wanted, hgd]
  rw [if_pos hw]
  exact wp_append_lb s x ho B v m F hs hown ad c f hx hu hf hlim hB B0 w0 hb hBB h
theorem cells_new16 (w : World) (f : Nat → Nat) (E : TypeId) : ∀ j, j < 16 → (w.alloc (.cells (ba 16 f) E)).cell? (Addr.add ⟨w.heap.size, 0, none⟩ j) = some (.int .u8 (f j : Int)) := by
  intro j hj
  rw [Addr.add_mid, Nat.zero_add]
  exact (At.new w 16 E f).cell hj

/-- A cipher in block d: its box in b, its round keys in c. -/
def CAt (w : World) (d b : Nat) (v : Value) : Prop := w.heap[d]? = some (.cells #[.pointer (some ⟨b, 0, none⟩), v] 47 (0, 0))
theorem CAt.c0 {w : World} {d b : Nat} {v : Value} (h : CAt w d b v) : w.cell? ⟨d, 0, none⟩ = some (.pointer (some ⟨b, 0, none⟩)) := cell_of_row w d 0 _ 47 _ h
theorem CAt.c1 {w : World} {d b : Nat} {v : Value} (h : CAt w d b v) : w.cell? ⟨d, 1, none⟩ = some v := cell_of_row w d 1 _ 47 _ h
theorem CAt.free {w : World} {d b : Nat} {v : Value} (h : CAt w d b v) (o : Nat) : w.frozen? ⟨d, o, none⟩ = false := frozen_of_row w d o _ 47 h
theorem CAt.lt {w : World} {d b : Nat} {v : Value} (h : CAt w d b v) : d < w.heap.size := (Array.getElem?_eq_some_iff.1 h).1
theorem CAt.set {w : World} {d b : Nat} {v : Value} (h : CAt w d b v) (v' : Value) : CAt (w.setCell ⟨d, 1, none⟩ v') d b v' := by
  unfold CAt
  rw [heap_setCell_same w d 1 _ 47 _ h]
  rfl
structure Ci (w : World) (d b c cap n : Nat) (Y : Nat → Nat → Nat) : Prop where
  blk : CAt w d b (.slice (some ⟨c, 0, none⟩) n cap)
  box : Box w b
  rows : R16 w c n Y
  ne : d ≠ b ∧ c ≠ b
section
variable {w w' : World} {d b c cap n : Nat} {Y : Nat → Nat → Nat}
theorem Ci.self (h : Ci w d b c cap n Y) (hb : Below w.heap.size w w') : Ci w' d b c cap n Y :=
  ⟨(hb.block d h.blk.lt).trans h.blk, h.box.self hb, h.rows.same hb.size (hb.block c h.rows.lt), h.ne⟩
theorem Ci.only (h : Ci w d b c cap n Y) (o : Only b w w') (hB : Box w' b) : Ci w' d b c cap n Y :=
  ⟨(o.block d h.blk.lt h.ne.1).trans h.blk, hB, h.rows.same o.size (o.block c h.rows.lt h.ne.2), h.ne⟩
theorem Ci.drew (h : Ci w d b c cap n Y) : Ci w.drew d b c cap n Y := ⟨h.blk, h.box, ⟨h.rows.lt, h.rows.cell, h.rows.byte⟩, h.ne⟩
end

/-- While a cipher is made: wl the world from which the loop starts. -/
structure NInv (wl wr : World) (d b n : Nat) (v : Value) (Y : Nat → Nat → Nat) : Prop where
  blk : CAt wr d b v
  rows : LB wr wl.heap.size v n Y
  low : Only d wl wr
  lt : d < wl.heap.size
section
variable {wl wr w1 : World} {d b n : Nat} {v v' : Value} {Y : Nat → Nat → Nat}
theorem NInv.drew (h : NInv wl wr d b n v Y) : NInv wl wr.drew d b n v Y := ⟨h.blk, ⟨h.rows.own, h.rows.byte⟩, h.low.drew, h.lt⟩
theorem NInv.alloc (h : NInv wl wr d b n v Y) (o : Obj) : NInv wl (wr.alloc o) d b n v Y :=
  ⟨(heap_alloc_old wr o h.blk.lt).trans h.blk, h.rows.same (fun _ _ hg => heap_alloc_old wr o hg), h.low.trans (Only.of_below ((Below.refl _ _).alloc (Nat.le_refl _) _)), h.lt⟩
/-- .. what append leaves of the cipher's block. -/
theorem NInv.blk' (h : NInv wl wr d b n v Y) (hb : Below wl.heap.size wr w1) : CAt w1 d b v := (hb.block d h.lt).trans h.blk
theorem NInv.more (h : NInv wl wr d b n v Y) (hb : Below wl.heap.size wr w1) (hl : LB w1 wl.heap.size v' (n + 1) (updR Y n (Y n))) : NInv wl (w1.setCell ⟨d, 1, none⟩ v') d b (n + 1) v' Y := by
  have ho : Only d wl w1 := ⟨hb.os.trans h.low.os, hb.tape.trans h.low.tape, hb.output.trans h.low.output, Nat.le_trans h.low.size hb.size, fun j hj hn => (hb.block j hj).trans (h.low.block j hj hn)⟩
  refine ⟨(h.blk' hb).set v', ?_, ho.trans (Only.set (p := ⟨d, 1, none⟩) _ rfl _), h.lt⟩
  exact (hl.ext (fun i _ j _ => by unfold updR; split; (rename_i e; rw [e]); rfl)).same (fun g hg _ => heap_setCell_other w1 ⟨d, 1, none⟩ g _ (by show g ≠ d; have := h.lt; omega))
end

theorem expand_bad' (v : Value) (L : Nat) (w : World) (hv : ∃ a c, v = .slice a L c) (h : rnd (L : Int) = 0) :
    Calls Tryz.prog 14 #[v] w fun e w' => e = .returned (.tuple #[.slice none 0 0, .int .i64 5]) ∧ w' = w := by
  obtain ⟨a, c, rfl⟩ := hv
  have HR := hid (fun w => by have := rounds_any (L : Int) w; rw [h] at this; exact this)
  clear h
  go_enter Tryz.func14, Tryz.ntmps14
  go_wp2_with (first | (go_at_call 25; (with_reducible refine (HR.out _).mono ?_); rintro e u1 ⟨rfl, rfl⟩))
  go_ret2
  exact ⟨rfl, rfl⟩
set_option maxRecDepth 100000 in
theorem new_bad (a : Option Addr) (L c : Nat) (w : World) (h : rnd (L : Int) = 0) :
    Calls Tryz.prog 6 #[.slice a L c] w fun e w' => e = .returned (.tuple #[.pointer none, .int .i64 5]) ∧ w' = w := by
  have HE := hid (fun w => expand_bad' (.slice a L c) L w ⟨a, c, rfl⟩ h)
  clear h
  go_enter Tryz.func6, Tryz.ntmps6
  go_wp2_with (first | (go_at_call 14; (with_reducible refine (HE.out _).mono ?_); rintro e u1 ⟨rfl, rfl⟩))
  go_ret2
  exact ⟨rfl, rfl⟩

theorem row16_filled (f : Nat → Nat) : Instr.fill (fun i => some (i * 16, 16)) ((Array.range (1 * 16)).map ((Value.agg (ba 16 (fun _ => 0))).cells[· % (Value.agg (ba 16 (fun _ => 0))).cells.size]!)) [(0, .agg (ba 16 f))] = some (ba 16 f) := by kernel_rfl
theorem step_row16 {w : World} {ops : Array Oper} {rest : List Oper} {o : Oper} {a : Act} {Q : Exit → Act → World → Prop} (hgd : o.guard = none) (x : Operand) (ho : o.op = .buildSlice 45 1 #[(0, x)])
    (f : Nat → Nat) (h0 : a.eval x = .agg (ba 16 f))
    (k : wpList Tryz.prog ops Q rest (a.put o.dst (.slice (some ⟨w.heap.size, 0, none⟩) 1 1)) (w.alloc (.cells (ba 16 f) 48))) : wpList Tryz.prog ops Q (o :: rest) a w := by
  obtain ⟨i0, hi, hz0, hz1, hz2⟩ := info_parts info16
  refine wpList_buildSlice hgd 45 48 1 _ ho (ba 16 f) i0 _ Tryz.underlying45 hi hz0 (by rw [hz1]; decide) (by rw [hz1]; decide) ?_ k
  have e : ((#[(0, x)] : Array (Nat × Operand)).map fun (i, x) => (i, a.eval x)).toList = [(0, .agg (ba 16 f))] := by simp [h0]
  rw [e, hz1]; exact row16_filled f
theorem wp_row16 {w : World} {o : Oper} {a : Act} {K : Act → World → Prop} {Q : Exit → Act → World → Prop} (x : Operand) (ho : o.op = .buildSlice 45 1 #[(0, x)])
    (f : Nat → Nat) (h0 : a.eval x = .agg (ba 16 f)) (k : K (a.put o.dst (.slice (some ⟨w.heap.size, 0, none⟩) 1 1)) (w.alloc (.cells (ba 16 f) 48))) : o.wp Tryz.prog a w K Q := by
  obtain ⟨i0, hi, hz0, hz1, hz2⟩ := info_parts info16
  refine wp_buildSlice 45 48 1 _ ho (ba 16 f) i0 _ Tryz.underlying45 hi hz0 (by rw [hz1]; decide) (by rw [hz1]; decide) ?_ k
  have e : ((#[(0, x)] : Array (Nat × Operand)).map fun (i, x) => (i, a.eval x)).toList = [(0, .agg (ba 16 f))] := by simp [h0]
  rw [e, hz1]; exact row16_filled f
theorem wpList_append_lb {w : World} {ops : Array Oper} {rest : List Oper} {o : Oper} {a : Act} {Q : Exit → Act → World → Prop} (hgd : o.guard = none) (s x : Operand)
    (ho : o.op = .call { callee := .builtin .append, args := #[s, x], argTypes := #[45, 45] }) (B : Nat) (v : Value) (m : Nat) (F : Nat → Nat → Nat) (hs : a.eval s = v) (hown : LB w B v m F)
    (ad : Addr) (c : Nat) (f : Nat → Nat) (hx : a.eval x = .slice (some ad) 1 c) (hu : ∀ j, j < 16 → w.cell? (ad.add j) = some (.int .u8 (f j : Int))) (hf : B16 f)
    (hlim : m ≤ 1048576) (hB : B ≤ w.heap.size) (B0 : Nat) (w0 : World) (hb : Below B0 w0 w) (hBB : B0 ≤ B)
    (h : ∀ v' w', LB w' B v' (m + 1) (updR F m f) → Below B0 w0 w' → w.heap.size ≤ w'.heap.size → wpList Tryz.prog ops Q rest (a.put o.dst v') w') : wpList Tryz.prog ops Q (o :: rest) a w :=
  wpList_plain hgd fun _ hK => wp_append_lb s x ho B v m F hs hown ad c f hx hu hf hlim hB B0 w0 hb hBB fun v' w' h2 h3 h4 => hK _ _ (h v' w' h2 h3 h4)

theorem still_load_mid {P : Program} {ops : Array Oper} {rest : List Oper} {o : Oper} {a : Act} {w : World} {Q : Act → Prop} (hgd : o.guard = none) (ty : TypeId) (x : Operand) (ho : o.op = .load ty x)
    (b off n : Nat) (f : Nat → Nat) (e : TypeId) (hx : a.eval x = .pointer (some ⟨b, off, none⟩)) (hc : w.rangeAt b off (ba n f).toList) (hu : P.underlying ty = some (.array n e)) (hi : (P.info? ty).map (·.size) = some n)
    (h : wpStill P ops w Q rest (a.put o.dst (.agg (ba n f)))) : wpStill P ops w Q (o :: rest) a := by
  unfold wpStill
  rw [if_pos (by simp [Region.wanted, hgd])]
  have hr := run_loadVar_mid (P := P) w b off ty _ _ hc hu rfl (by rw [Array.length_toList, ba_size]; exact hi)
  unfold Oper.still execOp
  simp only [ho, hx, Instr.loadAt, Instr.sureAddr, Sem.run_bind, Sem.run_pure, Result.andThen_ok, hr]
  rw [Oper.stillUpon_value]
  simpa using h
theorem arr_at (g c : Nat) (w : World) : (Instr.arrayAt 48 (.slice (some ⟨g, 0, none⟩) 16 c)).run Tryz.prog w = .ok (.pointer (some ⟨g, 0, none⟩)) w := by
  simp [Instr.arrayAt, run_underlying Tryz.underlying48]
theorem build47 (p : Option Addr) : Tryz.prog.built 47 [(0, .pointer p)] = some #[.pointer p, .slice none 0 0] := by kernel_rfl
set_option maxRecDepth 100000 in
set_option maxHeartbeats 1600000 in
theorem new_ok (kb ko kc K L R R1 M N : Nat) (k : Nat → Nat) (w : World) (hL : L = 4 * K) (hR : rnd (L : Int) = R) (hR1 : R1 = R + 1) (hM : M = 4 * R1) (hMN : M = K + N) (hK : 4 ≤ K) (hK8 : K ≤ 8) (hN : N ≤ 900) (hR0 : 0 < R) (hc : L ≤ kc) (hkc : kc ≤ maxLen)
    (hk : ∀ x, k x < 256) (hA : Wd w L kb ko k) :
    Calls Tryz.prog 6 #[.slice (some ⟨kb, ko, none⟩) L kc] w fun e w' =>
      ∃ d b c cap, e = .returned (.tuple #[.pointer (some ⟨d, 0, none⟩), .int .i64 0]) ∧ Ci w' d b c cap R1 (rkey K k N) ∧ w.heap.size ≤ b ∧ Below w.heap.size w w' := by
  have HE := hid (expand_ok kb ko kc K L R R1 M N k w hL hR hR1 hM hMN hK hK8 hN hR0 hc hkc hk hA)
  have HRR : Hid (R1 = R + 1 ∧ M = 4 * R1 ∧ M = K + N ∧ K ≤ 8 ∧ N ≤ 900) := hid ⟨hR1, hM, hMN, hK8, hN⟩
  clear hL hR hR1 hM hMN hK hK8 hN hR0 hc hkc hk hA
  generalize rkey K k N = Y at *
  go_enter Tryz.func6, Tryz.ntmps6
  go_wp2_with (first
    | (go_at_call 14; (with_reducible refine (HE.out).mono ?_); rintro e w1 ⟨c, gs, cs, rfl, hr, hl⟩; have HR := hid hr; have HL := hid hl; clear hr hl)
    | (go_at_call 15; (with_reducible refine (box_made _).mono ?_); rintro e w2 ⟨b, rfl, hb, hbx, hl⟩; have HB := hid hb; have HBX := hid hbx; have HL2 := hid hl; clear hb hbx hl))
  have HS : Hid (NInv (w2.alloc (.cells #[.pointer (some ⟨b, 0, none⟩), .slice none 0 0] 47)) (w2.alloc (.cells #[.pointer (some ⟨b, 0, none⟩), .slice none 0 0] 47)) w2.heap.size b 0 (.slice none 0 0) Y) :=
    hid ⟨heap_alloc_new w2 _, ⟨⟨rfl, .inl ⟨rfl, rfl⟩⟩, fun i hi => absurd hi (by omega)⟩, Only.refl _ _, by simp⟩
  have HRL : Hid (RL (w2.alloc (.cells #[.pointer (some ⟨b, 0, none⟩), .slice none 0 0] 47)) c R1 16 gs (fun _ => 0) cs Y) := hid ((HR.out.self HL2.out).self ((Below.refl _ _).alloc (Nat.le_refl _) _))
  have HBB : Hid (Box (w2.alloc (.cells #[.pointer (some ⟨b, 0, none⟩), .slice none 0 0] 47)) b ∧ b ≠ w2.heap.size) :=
    hid (by obtain ⟨p, hp⟩ := HBX.out; exact ⟨⟨0, p, .inl (hp.alloc _)⟩, Nat.ne_of_lt hp.lt⟩)
  have HLow : Hid (Below w.heap.size w (w2.alloc (.cells #[.pointer (some ⟨b, 0, none⟩), .slice none 0 0] 47))) :=
    hid ((HL.out.trans (HL2.out.mono HL.out.size)).alloc (Nat.le_trans HL.out.size HL2.out.size) _)
  have HDS : Hid (c < w2.heap.size ∧ (∀ i, i < R1 → gs i < w2.heap.size) ∧ w.heap.size ≤ w2.heap.size ∧ w.heap.size ≤ b) :=
    hid ⟨Nat.lt_of_lt_of_le HR.out.lt HL2.out.size, fun i hi => Nat.lt_of_lt_of_le (HR.out.each i hi).lt HL2.out.size, Nat.le_trans HL.out.size HL2.out.size, Nat.le_trans HL.out.size HB.out⟩
  clear HR HL HL2 HBX HB
  generalize w2.heap.size = d at *
  generalize w2.alloc (.cells #[.pointer (some ⟨b, 0, none⟩), .slice none 0 0] 47) = wl at *
  go_loopw [22] (fun i wr => ∃ (j : Nat) (v : Value), j ≤ R1 ∧ i = .int .i64 j ∧ NInv wl wr d b j v Y) (fun i _ => R1 - (intOf i).toNat)
  case atStart => exact ⟨0, _, by omega, rfl, HS.out⟩
  case round =>
    obtain ⟨j, v, hj, rfl, hI⟩ := hrel
    have HI := hid hI
    clear hI
    by_cases hlt : j < R1
    · have hHR := HRR.out
      have c1 : (0 : Int) ≤ (j : Int) := by omega
      have c2 : (j : Int) < (R1 : Int) := by omega
      have hlim : j ≤ 1000 := by omega
      clear hHR
      have hc1 : wr.cell? ⟨c, j, none⟩ = some (.slice (some ⟨gs j, 0, none⟩) 16 (cs j)) :=
        (HI.out.low.cell (p := ⟨c, j, none⟩) HRL.out.lt (by show c ≠ d; have := HDS.out.1; omega)).trans (HRL.out.cell j hlt)
      have HW : Hid (Wd wr.drew 16 (gs j) 0 (Y j)) := hid (((HRL.out.each j hlt).only HI.out.low (by have := HDS.out.2.1 j hlt; omega)).drew)
      have hd1 := HI.out.drew.blk.c1
      have HLV : Hid ((loadVar 48 ⟨gs j, 0, none⟩).run Tryz.prog wr.drew = .ok (.agg (ba 16 (Y j))) wr.drew) := hid (by
        have := run_loadVar_mid (P := Tryz.prog) wr.drew (gs j) 0 48 (ba 16 (Y j)).toList _ HW.out.range Tryz.underlying48 rfl (by rw [Array.length_toList, ba_size]; exact infoa)
        simpa using this)
      have HAR := hid (arr_at (gs j) (cs j))
      have HID := hid HI.out.drew
      have HYb := hid HW.out.byte
      go_wp2
      generalize hw5 : wr.drew = w5 at *
      have harr := HAR.out
      refine wp_region_noPanic ?_
      refine wp_region_held_drew (S := fun w' => w'.rangeAt (gs j) 0 (ba 16 (Y j)).toList) (by kernel_rfl) (by rw [hw5]; exact HW.out.range) (fun h0 => ?_)
      rw [hw5] at h0 ⊢
      refine wpAnyH_take (i := 0) (v := .pointer (some ⟨d, 0, none⟩)) rfl (by kernel_rfl) (by kernel_rfl) (by kernel_rfl) (fun _ _ _ h => h) (.inl ⟨by rfl, fun w hw => by clear hw; go_simp⟩) h0 ?_
      try simp only [Act.put, lay_out]
      refine wpAnyH_take (i := 1) (v := .pointer (some ⟨d, 0, none⟩)) rfl (by kernel_rfl) (by kernel_rfl) (by kernel_rfl) (fun _ _ _ h => h) (.inl ⟨by rfl, fun w hw => by clear hw; go_simp⟩) h0 ?_
      try simp only [Act.put, lay_out]
      refine wpAnyH_take (i := 2) (v := .pointer (some ⟨d, 0, none⟩)) rfl (by kernel_rfl) (by kernel_rfl) (by kernel_rfl) (fun _ _ _ h => h) (.inl ⟨by rfl, fun w hw => by clear hw; go_simp⟩) h0 ?_
      try simp only [Act.put, lay_out]
      refine wpAnyH_take (i := 3) (v := .pointer (some ⟨d, 1, none⟩)) rfl (by kernel_rfl) (by kernel_rfl) (by kernel_rfl) (fun _ _ _ h => h) (.inl ⟨by rfl, fun w hw => by clear hw; go_simp⟩) h0 ?_
      try simp only [Act.put, lay_out]
      refine wpAnyH_take (i := 5) (v := .slice (some ⟨gs j, 0, none⟩) 16 (cs j)) rfl (by kernel_rfl) (by kernel_rfl) (by kernel_rfl) (fun _ _ _ h => h) (.inl ⟨by rfl, fun w hw => by clear hw; go_simp⟩) h0 ?_
      try simp only [Act.put, lay_out]
      refine wpAnyH_take (i := 6) (v := .pointer (some ⟨gs j, 0, none⟩)) rfl (by kernel_rfl) (by kernel_rfl) (by kernel_rfl) (fun _ _ _ h => h) (.inl ⟨by rfl, fun w hw => by clear hw; go_simp⟩) h0 ?_
      try simp only [Act.put, lay_out]
      refine wpAnyH_take (i := 7) (v := .agg (ba 16 (Y j)).toList.toArray) rfl (by kernel_rfl) (by kernel_rfl) (by kernel_rfl) (fun _ _ _ h => h) (yieldsIf_load_mid (by rfl) 48 _ rfl (gs j) 0 rfl (ba 16 (Y j)).toList _ (fun w h => h) Tryz.underlying48 rfl (by rw [Array.length_toList, ba_size]; exact infoa)) h0 ?_
      try simp only [Act.put, lay_out]
      simp only [Array.toArray_toList]
      have HIE := hid (HID.out.alloc (.cells (ba 16 (Y j)) 48))
      have HW6 := hid (HW.out.alloc (.cells (ba 16 (Y j)) 48))
      have HGL : Hid (gs j < wl.heap.size ∧ gs j ≠ d) := hid (by have := HDS.out.2.1 j hlt; have := HID.out.lt; omega)
      clear HLV hd1
      refine wpAnyH_ready (rs := [4, 8]) (by kernel_rfl) (by simp) (AllReadyH.cons rfl (fun K hK => ?_) (AllReadyH.cons rfl (fun K hK => ?_) AllReadyH.nil))
      · have hd9 := HID.out.blk.c1
        go_simp
        refine hK.out _ _ (h0) (fun h1 => ?_)
        clear hK K
        try simp only [Act.put, lay_out]
        clear hd9
        refine wpAnyH_ready (rs := [8]) (by kernel_rfl) (by simp) (AllReadyH.cons rfl (fun K hK => ?_) AllReadyH.nil)
        rw [if_pos (by rfl)]
        refine wp_row16 (.tmp 33) rfl (Y j) rfl ?_
        refine hK.out _ _ (HW6.out.range) (fun h2 => ?_)
        clear hK K
        try simp only [Act.put, lay_out]
        refine wpAnyH_ready (rs := [9]) (by kernel_rfl) (by simp) (AllReadyH.cons rfl (fun K hK => ?_) AllReadyH.nil)
        rw [if_pos (by rfl)]
        refine wp_append_lb (.tmp 30) (.tmp 34) rfl wl.heap.size v j Y rfl HIE.out.rows ⟨w5.heap.size, 0, none⟩ 1 (Y j) rfl (cells_new16 w5 (Y j) 48) HYb.out (by omega) HIE.out.low.size wl.heap.size _ (Below.refl _ _) (Nat.le_refl _) ?_
        intro v' w' hl hb hs
        obtain ⟨g', cap', rfl, _, _⟩ := hl.own.form (by omega)
        have HN := hid (HIE.out.more hb hl)
        have hd2 := (HIE.out.blk' hb).c1
        have hf2 := (HIE.out.blk' hb).free 1
        have HW7 := hid (HW6.out.below hb HGL.out.1)
        have HW8 : Hid (Wd (w'.setCell ⟨d, 1, none⟩ (.slice (some ⟨g', 0, none⟩) (j + 1) cap')) 16 (gs j) 0 (Y j)) := hid (HW7.out.same (by simp [World.setCell]) (heap_setCell_other w' ⟨d, 1, none⟩ (gs j) _ HGL.out.2))
        clear hl hb hs
        refine hK.out _ _ (HW7.out.range) (fun h3 => ?_)
        clear hK K
        try simp only [Act.put, lay_out]
        refine wpAnyH_take (i := 10) (v := .pointer (some ⟨d, 0, none⟩)) rfl (by kernel_rfl) (by kernel_rfl) (by kernel_rfl) (fun _ _ _ h => h) (.inl ⟨by rfl, fun w hw => by clear hw; go_simp⟩) h3 ?_
        try simp only [Act.put, lay_out]
        refine wpAnyH_take (i := 11) (v := .pointer (some ⟨d, 1, none⟩)) rfl (by kernel_rfl) (by kernel_rfl) (by kernel_rfl) (fun _ _ _ h => h) (.inl ⟨by rfl, fun w hw => by clear hw; go_simp⟩) h3 ?_
        try simp only [Act.put, lay_out]
        refine wpAnyH_ready (rs := [12]) (by kernel_rfl) (by simp) (AllReadyH.cons rfl (fun K hK => ?_) AllReadyH.nil)
        go_simp
        refine hK.out _ _ (HW8.out.range) (fun h4 => ?_)
        clear hK K
        try simp only [Act.put, lay_out]
        refine wpAnyH_done (by kernel_rfl) ?_ _
        refine NoPanic.normal ?_
        clear h0 h1 h2 h3 h4 hd2 hf2
        go_wp2
        go_roundw
        case rel => exact ⟨j + 1, _, by omega, by go_num, HN.out⟩
        case measure => simp [intOf]; omega
      · rw [if_pos (by rfl)]
        refine wp_row16 (.tmp 33) rfl (Y j) rfl ?_
        refine hK.out _ _ (HW6.out.range) (fun h2 => ?_)
        clear hK K
        try simp only [Act.put, lay_out]
        refine wpAnyH_ready (rs := [4]) (by kernel_rfl) (by simp) (AllReadyH.cons rfl (fun K hK => ?_) AllReadyH.nil)
        have hd9 := HIE.out.blk.c1
        go_simp
        refine hK.out _ _ (h2) (fun h1 => ?_)
        clear hK K
        try simp only [Act.put, lay_out]
        clear hd9
        refine wpAnyH_ready (rs := [9]) (by kernel_rfl) (by simp) (AllReadyH.cons rfl (fun K hK => ?_) AllReadyH.nil)
        rw [if_pos (by rfl)]
        refine wp_append_lb (.tmp 30) (.tmp 34) rfl wl.heap.size v j Y rfl HIE.out.rows ⟨w5.heap.size, 0, none⟩ 1 (Y j) rfl (cells_new16 w5 (Y j) 48) HYb.out (by omega) HIE.out.low.size wl.heap.size _ (Below.refl _ _) (Nat.le_refl _) ?_
        intro v' w' hl hb hs
        obtain ⟨g', cap', rfl, _, _⟩ := hl.own.form (by omega)
        have HN := hid (HIE.out.more hb hl)
        have hd2 := (HIE.out.blk' hb).c1
        have hf2 := (HIE.out.blk' hb).free 1
        have HW7 := hid (HW6.out.below hb HGL.out.1)
        have HW8 : Hid (Wd (w'.setCell ⟨d, 1, none⟩ (.slice (some ⟨g', 0, none⟩) (j + 1) cap')) 16 (gs j) 0 (Y j)) := hid (HW7.out.same (by simp [World.setCell]) (heap_setCell_other w' ⟨d, 1, none⟩ (gs j) _ HGL.out.2))
        clear hl hb hs
        refine hK.out _ _ (HW7.out.range) (fun h3 => ?_)
        clear hK K
        try simp only [Act.put, lay_out]
        refine wpAnyH_take (i := 10) (v := .pointer (some ⟨d, 0, none⟩)) rfl (by kernel_rfl) (by kernel_rfl) (by kernel_rfl) (fun _ _ _ h => h) (.inl ⟨by rfl, fun w hw => by clear hw; go_simp⟩) h3 ?_
        try simp only [Act.put, lay_out]
        refine wpAnyH_take (i := 11) (v := .pointer (some ⟨d, 1, none⟩)) rfl (by kernel_rfl) (by kernel_rfl) (by kernel_rfl) (fun _ _ _ h => h) (.inl ⟨by rfl, fun w hw => by clear hw; go_simp⟩) h3 ?_
        try simp only [Act.put, lay_out]
        refine wpAnyH_ready (rs := [12]) (by kernel_rfl) (by simp) (AllReadyH.cons rfl (fun K hK => ?_) AllReadyH.nil)
        go_simp
        refine hK.out _ _ (HW8.out.range) (fun h4 => ?_)
        clear hK K
        try simp only [Act.put, lay_out]
        refine wpAnyH_done (by kernel_rfl) ?_ _
        refine NoPanic.normal ?_
        clear h0 h1 h2 h3 h4 hd2 hf2
        go_wp2
        go_roundw
        case rel => exact ⟨j + 1, _, by omega, by go_num, HN.out⟩
        case measure => simp [intOf]; omega
    · obtain rfl : j = R1 := by omega
      have hr0 : 0 < j := by have := HRR.out; omega
      obtain ⟨c', cap, rfl, hB, _⟩ := HI.out.rows.own.form hr0
      have HC : Hid (Ci wr d b c' cap j Y) := hid ⟨HI.out.blk, HBB.out.1.only HI.out.low HBB.out.2, HI.out.rows.r16 hr0, ⟨HBB.out.2.symm, by have := HBB.out.1.lt; omega⟩⟩
      clear hB hr0
      go_wp2
      go_ret2
      exact ⟨d, b, c', cap, rfl, HC.out, HDS.out.2.2.2, HLow.out.trans (HI.out.low.below HDS.out.2.2.1 HLow.out.size)⟩
end Go.Proofs.YthhkhcacljgelaaGreat

namespace Go.Proofs.YthhkhcacljgelaaGreat
open Go.RowKit

set_option maxRecDepth 100000 in
set_option maxHeartbeats 1600000 in
theorem columns_any16 (f : Nat → Nat) (w : World) (h : B16 f) : Calls Tryz.prog 75 #[.agg (ba 16 f)] w fun e w' => e = .returned (.agg (ba 16 (mxC f))) ∧ Below w.heap.size w w' := by
  have HS := hid (Tri.start w f)
  have HF := hid h
  clear h
  go_enter Tryz.func75, Tryz.ntmps75
  go_wp2_with (refine step_load_ba rfl 48 _ rfl w.heap.size 16 48 5 f rfl HS.out.arg Tryz.underlying48 infoa ?_)
  go_loopw [8] (fun i wr => ∃ j : Nat, j ≤ 16 ∧ i = .int .i64 j ∧ Tri w wr f (upF (mxC f) j)) (fun i _ => 16 - (intOf i).toNat)
  case atStart => exact ⟨0, by omega, rfl, HS.out.ext (upF_zero _)⟩
  case round =>
    obtain ⟨j, hj, rfl, hI⟩ := hrel
    have HI := hid hI
    clear hI
    by_cases hlt : j < 16
    · have hi := idxa f hlt
      have H1 : Hid (∀ w, Calls Tryz.prog 86 #[.int .i64 (j : Int), .int .i64 1] w fun e w' => e = .returned (.int .i64 (nb j 1 : Nat)) ∧ w' = w) := hid (fun w => below_any j 1 w hlt (by decide))
      have H2 : Hid (∀ w, Calls Tryz.prog 86 #[.int .i64 (j : Int), .int .i64 2] w fun e w' => e = .returned (.int .i64 (nb j 2 : Nat)) ∧ w' = w) := hid (fun w => below_any j 2 w hlt (by decide))
      have H3 : Hid (∀ w, Calls Tryz.prog 86 #[.int .i64 (j : Int), .int .i64 3] w fun e w' => e = .returned (.int .i64 (nb j 3 : Nat)) ∧ w' = w) := hid (fun w => below_any j 3 w hlt (by decide))
      have m1 := nb_lt hlt 1
      have m2 := nb_lt hlt 2
      have m3 := nb_lt hlt 3
      have HT := hid (fun z => HI.out.drew.set j z)
      have HE := hid (fun (z : Nat) (hz : mxC f j = z) => upF_step (mxC f) hz)
      have hc1 := HI.out.arg.cell m1
      have hd1 := HI.out.drew.arg.cell m1
      have hd2 := HI.out.drew.arg.cell m2
      have hd3 := HI.out.drew.arg.cell m3
      have hd := HI.out.drew.var.cell hlt
      have hf := HI.out.drew.var.free j
      have HV : Hid (mxC f j = tw (f j ^^^ f (nb j 1)) ^^^ f (nb j 1) ^^^ f (nb j 2) ^^^ f (nb j 3)) := hid rfl
      have lx := HF.out j hlt
      have l1 := HF.out _ m1
      have l2 := HF.out _ m2
      have l3 := HF.out _ m3
      generalize nb j 1 = a1 at *
      generalize nb j 2 = a2 at *
      generalize nb j 3 = a3 at *
      generalize upF (mxC f) j = g at *
      generalize f j = x at *
      generalize f a1 = x1 at *
      generalize f a2 = x2 at *
      generalize f a3 = x3 at *
      have HTW : Hid (∀ w, Calls Tryz.prog 87 #[.int .u8 (bits .xor .u8 (x : Int) (x1 : Int))] w fun e w' => e = .returned (.int .u8 (tw (x ^^^ x1) : Nat)) ∧ w' = w) :=
        hid (fun w => by have := twice_any (x ^^^ x1) w (xor_lt lx l1); rw [← xor8 lx l1] at this; exact this)
      have lt' := tw_lt (xor_lt lx l1)
      have HR : Hid (bits .xor .u8 (bits .xor .u8 (bits .xor .u8 ((tw (x ^^^ x1) : Nat) : Int) (x1 : Int)) (x2 : Int)) (x3 : Int) = ((tw (x ^^^ x1) ^^^ x1 ^^^ x2 ^^^ x3 : Nat) : Int)) :=
        hid (by rw [xor8 lt' l1, xor8 (xor_lt lt' l1) l2, xor8 (xor_lt (xor_lt lt' l1) l2) l3])
      generalize tw (x ^^^ x1) = t at *
      clear lx l1 l2 l3 lt'
      have b2 : (a2 : Int) < 16 := by omega
      have b3 : (a3 : Int) < 16 := by omega
      have b2' : (0 : Int) ≤ (a2 : Int) := by omega
      have b3' : (0 : Int) ≤ (a3 : Int) := by omega
      go_wp2_with (first | (go_at_call 86; (with_reducible refine (H1.out _).mono ?_); rintro e w1 ⟨rfl, rfl⟩))
      refine region_tail 18 (by kernel_rfl) (by kernel_rfl) ?_
      simp only [List.take_succ_cons, List.take_zero, List.drop_succ_cons, List.drop_zero]
      generalize w1.drew = w2 at *
      repeat still_step
      still_call (HTW.out _)
      repeat still_step
      still_call (H2.out _)
      repeat still_step
      still_call (H3.out _)
      repeat still_step
      refine wpStill_nil ?_
      go_wp2
      go_roundw
      case rel => exact ⟨j + 1, by omega, by go_num, by rw [HR.out]; exact (HT.out _).ext (HE.out _ HV.out)⟩
      case measure => simp [intOf]; omega
    · obtain rfl : j = 16 := by omega
      have HD := hid (HI.out.ext (upF_all _))
      go_wp2_with (first
        | (refine step_load_ba rfl 48 _ rfl (w.heap.size + 2) 16 48 5 _ rfl HD.out.var Tryz.underlying48 infoa ?_)
        | (refine step_store_ba rfl 48 _ _ rfl (w.heap.size + 1) 16 48 (fun _ => 0) _ rfl rfl HD.out.out infoa ?_))
      exact ret_ba rfl rfl Tryz.underlying48 infoa rfl (HD.out.done _).1 ⟨rfl, (HD.out.done _).2⟩
end Go.Proofs.YthhkhcacljgelaaGreat

namespace Go.Proofs.YthhkhcacljgelaaGreat
open Go.RowKit

set_option maxRecDepth 100000 in
set_option maxHeartbeats 800000 in
theorem mixes_any (d b c cap R R1 r : Nat) (_Y : Nat → Nat → Nat) (w : World) (h : CAt w d b (.slice (some ⟨c, 0, none⟩) R1 cap)) (hR : R1 = R + 1) (hr : r ≤ R) (hl : R ≤ 1000) :
    Calls Tryz.prog 74 #[.pointer (some ⟨d, 0, none⟩), .int .i64 (r : Int)] w fun e w' => e = .returned (.bool (decide (0 < r ∧ r < R))) ∧ w' = w := by
  have hc := h.c1
  clear h
  by_cases h0 : 0 < r
  · have e0 : (0 : Int) < (r : Int) := by omega
    have e1 : (R1 : Int) - 1 = (R : Int) := by omega
    have w1 : IntKind.i64.wrap (R : Int) = R := by rw [IntKind.wrap_i64]; omega
    by_cases h1 : r < R
    · have e2 : (r : Int) < (R : Int) := by omega
      rw [decide_eq_true (show 0 < r ∧ r < R from ⟨h0, h1⟩)]
      clear h0 h1 hR hr hl
      go_enter Tryz.func74, Tryz.ntmps74
      go_wp2
      go_ret
      exact ⟨rfl, rfl⟩
    · have e2 : ¬ (r : Int) < (R : Int) := by omega
      rw [decide_eq_false (show ¬ (0 < r ∧ r < R) from fun h => h1 h.2)]
      clear h0 h1 hR hr hl
      go_enter Tryz.func74, Tryz.ntmps74
      go_wp2
      go_ret
      exact ⟨rfl, rfl⟩
  · obtain rfl : r = 0 := by omega
    rw [decide_eq_false (show ¬ (0 < 0 ∧ 0 < R) from fun h => h0 h.1)]
    clear h0 hR hr hl
    go_enter Tryz.func74, Tryz.ntmps74
    go_wp2
    go_ret
    exact ⟨rfl, rfl⟩

theorem step_load_ma {P : Program} {ops : Array Oper} {rest : List Oper} {op : Oper} {a : Act} {w : World} {Q : Exit → Act → World → Prop} (hgd : op.guard = none) (ty : TypeId) (x : Operand) (ho : op.op = .load ty x)
    (b o n : Nat) (f : Nat → Nat) (e : TypeId) (hx : a.eval x = .pointer (some ⟨b, o, none⟩)) (hc : w.rangeAt b o (ba n f).toList)
    (hu : P.underlying ty = some (.array n e)) (hi : (P.info? ty).map (·.size) = some n)
    (h : wpList P ops Q rest (a.put op.dst (.agg (ba n f))) w) : wpList P ops Q (op :: rest) a w :=
  wpList_load_mid hgd ty x ho b o hx _ _ hc hu rfl (by rw [Array.length_toList, ba_size]; exact hi) (by simpa using h)

/-- A cipher at work: the block in its variable, the result's block, the cipher. -/
structure BI (w wr : World) (d b c cap R1 : Nat) (Y : Nat → Nat → Nat) (g : Nat → Nat) : Prop where
  var : At wr w.heap.size 16 48 g
  out : At wr (w.heap.size + 1) 16 48 (fun _ => 0)
  ci : Ci wr d b c cap R1 Y
  low : Only b w wr
  lt : d < w.heap.size ∧ b < w.heap.size ∧ c < w.heap.size
section
variable {w wr w1 : World} {d b c cap R1 n : Nat} {Y : Nat → Nat → Nat} {f g g' k : Nat → Nat}
theorem BI.start (h : Ci w d b c cap R1 Y) (f : Nat → Nat) : BI w ((w.alloc (.cells (ba 16 f) 48)).alloc (.cells (ba 16 (fun _ => 0)) 48)) d b c cap R1 Y f := by
  have hv := Var.start1 w f
  exact ⟨hv.var, hv.out, h.self hv.low, Only.of_below hv.low, h.blk.lt, h.box.lt, h.rows.lt⟩
theorem BI.self (h : BI w wr d b c cap R1 Y g) (hb : Below wr.heap.size wr w1) : BI w w1 d b c cap R1 Y g :=
  ⟨h.var.self hb, h.out.self hb, h.ci.self hb, h.low.trans (Only.of_below hb), h.lt⟩
theorem BI.only (h : BI w wr d b c cap R1 Y g) (o : Only b wr w1) (hB : Box w1 b) : BI w w1 d b c cap R1 Y g :=
  ⟨(o.block _ h.var.lt (by have := h.lt; omega)).trans h.var, (o.block _ h.out.lt (by have := h.lt; omega)).trans h.out, h.ci.only o hB, h.low.trans o, h.lt⟩
theorem BI.drew (h : BI w wr d b c cap R1 Y g) : BI w wr.drew d b c cap R1 Y g := ⟨h.var.drew, h.out.drew, h.ci.drew, h.low.drew, h.lt⟩
theorem BI.ext (h : BI w wr d b c cap R1 Y g) (e : Eq16 g g') : BI w wr d b c cap R1 Y g' := ⟨h.var.ext e, h.out, h.ci, h.low, h.lt⟩
theorem BI.setRow (h : BI w wr d b c cap R1 Y g) (hn : w.heap.size ≤ n) (cs : Array Value) : Ci (wr.setRow n cs) d b c cap R1 Y ∧ Only b w (wr.setRow n cs) := by
  have hl := h.lt
  refine ⟨⟨(setRow_other wr n d cs (by omega)).trans h.ci.blk, h.ci.box.same (setRow_other wr n b cs (by omega)), h.ci.rows.same (by simp) (setRow_other wr n c cs (by omega)), h.ci.ne⟩, ?_⟩
  exact ⟨h.low.os, h.low.tape, h.low.output, by simpa using h.low.size, fun j hj hn' => (setRow_other wr n j cs (by omega)).trans (h.low.block j hj hn')⟩
theorem BI.row (h : BI w wr d b c cap R1 Y g) (g' : Nat → Nat) : BI w (wr.setRow w.heap.size (ba 16 g')) d b c cap R1 Y g' :=
  ⟨h.var.row g', h.out.rowApart (by omega) _, (h.setRow (Nat.le_refl _) _).1, (h.setRow (Nat.le_refl _) _).2, h.lt⟩
theorem BI.done (h : BI w wr d b c cap R1 Y g) (k : Nat → Nat) :
    At (wr.setRow (w.heap.size + 1) (ba 16 k)) (w.heap.size + 1) 16 48 k ∧ Ci (wr.setRow (w.heap.size + 1) (ba 16 k)) d b c cap R1 Y ∧ Only b w (wr.setRow (w.heap.size + 1) (ba 16 k)) :=
  ⟨h.out.row k, h.setRow (by omega) _⟩
/-- .. and a round's key in a variable n. -/
structure BK (w wr : World) (d b c cap R1 : Nat) (Y : Nat → Nat → Nat) (n : Nat) (g k : Nat → Nat) : Prop extends BI w wr d b c cap R1 Y g where
  key : At wr n 16 48 k
  far : w.heap.size + 1 < n
theorem BI.keyed (h : BI w wr d b c cap R1 Y g) (k : Nat → Nat) : BK w ((wr.alloc (.cells (ba 16 (fun _ => 0)) 48)).setRow wr.heap.size (ba 16 k)) d b c cap R1 Y wr.heap.size g k := by
  have h1 := h.self ((Below.refl _ _).alloc (Nat.le_refl _) (.cells (ba 16 (fun _ => 0)) 48))
  have hl := h.var.lt
  have hl1 := h.out.lt
  exact ⟨⟨h1.var.rowApart (by omega) _, h1.out.rowApart (by omega) _, (h1.setRow (Nat.le_of_lt hl) _).1, (h1.setRow (Nat.le_of_lt hl) _).2, h1.lt⟩, (At.new wr 16 48 _).row k, hl1⟩
theorem BK.self (h : BK w wr d b c cap R1 Y n g k) (hb : Below wr.heap.size wr w1) : BK w w1 d b c cap R1 Y n g k := ⟨h.toBI.self hb, h.key.self hb, h.far⟩
theorem BK.only (h : BK w wr d b c cap R1 Y n g k) (o : Only b wr w1) (hB : Box w1 b) : BK w w1 d b c cap R1 Y n g k :=
  ⟨h.toBI.only o hB, (o.block _ h.key.lt (by have := h.lt; have := h.far; omega)).trans h.key, h.far⟩
theorem BK.drew (h : BK w wr d b c cap R1 Y n g k) : BK w wr.drew d b c cap R1 Y n g k := ⟨h.toBI.drew, h.key.drew, h.far⟩
theorem BK.row (h : BK w wr d b c cap R1 Y n g k) (g' : Nat → Nat) : BK w (wr.setRow w.heap.size (ba 16 g')) d b c cap R1 Y n g' k :=
  ⟨h.toBI.row g', h.key.rowApart (by have := h.far; omega) _, h.far⟩
end
theorem At.range {w : World} {b n : Nat} {t : TypeId} {f : Nat → Nat} (h : At w b n t f) : w.rangeAt b 0 (ba n f).toList := by
  intro j v hv
  have hj : j < n := by have := (List.getElem?_eq_some_iff.1 hv).1; rwa [Array.length_toList, ba_size] at this
  rw [Array.getElem?_toList, ba_get _ hj] at hv
  injection hv with hv
  rw [← hv, Nat.zero_add]; exact h.cell hj

set_option maxRecDepth 100000 in
theorem block_nil (f : Nat → Nat) (w : World) : Calls Tryz.prog 61 #[.pointer none, .agg (ba 16 f)] w fun e w' => e = .returned (.agg (ba 16 f)) ∧ Below w.heap.size w w' := by
  have HS := hid (Var.start1 w f)
  go_enter Tryz.func61, Tryz.ntmps61
  go_wp2_with (first
    | (refine step_load_ba rfl 48 _ rfl w.heap.size 16 48 5 f rfl HS.out.var Tryz.underlying48 infoa ?_)
    | (refine step_store_ba rfl 48 _ _ rfl (w.heap.size + 1) 16 48 (fun _ => 0) f rfl rfl HS.out.out infoa ?_))
  exact ret_ba rfl rfl Tryz.underlying48 infoa rfl (HS.out.done _).1 ⟨rfl, (HS.out.done _).2⟩
end Go.Proofs.YthhkhcacljgelaaGreat

namespace Go.Proofs.YthhkhcacljgelaaGreat
open Go.RowKit

set_option maxRecDepth 100000 in
set_option maxHeartbeats 3200000 in
theorem block_any (d b c cap R R1 : Nat) (Y : Nat → Nat → Nat) (f : Nat → Nat) (w : World) (hR1 : R1 = R + 1) (hR : 0 < R) (hl : R ≤ 1000) (hf : B16 f) (h : Ci w d b c cap R1 Y) :
    Calls Tryz.prog 61 #[.pointer (some ⟨d, 0, none⟩), .agg (ba 16 f)] w fun e w' => e = .returned (.agg (ba 16 (blkF Y R f))) ∧ Ci w' d b c cap R1 Y ∧ Only b w w' := by
  have HS := hid (BI.start h f)
  have HE : Hid (∀ n, n ≤ R1 → B16 (enc Y R f n)) := hid (fun n hn => enc_b (fun r hr => h.rows.byte r (by omega)) hf n (by omega))
  have HY : Hid (∀ r, r < R1 → B16 (Y r)) := hid h.rows.byte
  have HN : Hid (∀ r, enc Y R f (r + 1) = encR Y R r (enc Y R f r)) := hid (fun _ => rfl)
  have HZ : Hid (blkF Y R f = enc Y R f R1) := hid (by rw [hR1]; rfl)
  have H0 : Hid (enc Y R f 0 = f) := hid rfl
  have hc1 : ((w.alloc (.cells (ba 16 f) 48)).alloc (.cells #[.int .u8 0, .int .u8 0, .int .u8 0, .int .u8 0, .int .u8 0, .int .u8 0, .int .u8 0, .int .u8 0, .int .u8 0, .int .u8 0, .int .u8 0, .int .u8 0, .int .u8 0, .int .u8 0, .int .u8 0, .int .u8 0] 48)).cell? ⟨d, 1, none⟩ = some (.slice (some ⟨c, 0, none⟩) R1 cap) := HS.out.ci.blk.c1
  have HR1 : Hid (R1 = R + 1 ∧ 0 < R ∧ R ≤ 1000) := hid ⟨hR1, hR, hl⟩
  clear hf h hR1 hR hl
  generalize enc Y R f = E at *
  generalize blkF Y R f = Z at *
  go_enter Tryz.func61, Tryz.ntmps61
  go_wp2
  clear hc1
  go_loopw [15] (fun i wr => ∃ r : Nat, r ≤ R1 ∧ i = .int .i64 r ∧ BI w wr d b c cap R1 Y (E r)) (fun i _ => R1 - (intOf i).toNat)
  case atStart => exact ⟨0, by omega, rfl, by rw [H0.out]; exact HS.out⟩
  case round =>
    obtain ⟨r, hr, rfl, hI⟩ := hrel
    have HI := hid hI
    clear hI
    by_cases hlt : r < R1
    · have HRg := hid (HI.out.ci.rows.range hlt)
      have HK : Hid (BK w ((wr.alloc (.cells #[.int .u8 0, .int .u8 0, .int .u8 0, .int .u8 0, .int .u8 0, .int .u8 0, .int .u8 0, .int .u8 0, .int .u8 0, .int .u8 0, .int .u8 0, .int .u8 0, .int .u8 0, .int .u8 0, .int .u8 0, .int .u8 0] 48)).setRow wr.heap.size (ba 16 (Y r))) d b c cap R1 Y wr.heap.size (E r) (Y r)) := hid (HI.out.keyed (Y r))
      have HA0 : Hid (At (wr.alloc (.cells #[.int .u8 0, .int .u8 0, .int .u8 0, .int .u8 0, .int .u8 0, .int .u8 0, .int .u8 0, .int .u8 0, .int .u8 0, .int .u8 0, .int .u8 0, .int .u8 0, .int .u8 0, .int .u8 0, .int .u8 0, .int .u8 0] 48)) wr.heap.size 16 48 (fun _ => 0)) := hid (At.new wr 16 48 (fun _ => 0))
      have HMX := hid (fun w h => mixes_any d b c cap R R1 r Y w h HR1.out.1 (by have := HR1.out; omega) HR1.out.2.2)
      have HEb := hid (HE.out r (by omega))
      have HYb := hid (HY.out r hlt)
      have HNr := hid (HN.out r)
      have c0 : (0 : Int) ≤ (r : Int) := by omega
      have c1 : (r : Int) < (R1 : Int) := by omega
      generalize hg' : E (r + 1) = g' at HNr
      have HG' := hid hg'
      generalize E r = g at *
      have HYr : Hid (encR Y R r g = addF (if r = 0 then g else if r < R then mxC (shR (subF g)) else shR (subF g)) (Y r)) := hid rfl
      have hRR := HR1.out
      have hle : R1 ≤ 1001 := by omega
      generalize encR Y R r g = q at HNr HYr
      generalize Y r = y at HK HRg HYb HYr
      clear hg'
      by_cases h0 : r = 0
      · rw [if_pos h0] at HYr
        have hd : decide (0 < r ∧ r < R) = false := decide_eq_false (by omega)
        rw [hd] at HMX
        have c2 : ¬ (0 : Int) < (r : Int) := by omega
        clear hd hRR h0
        go_wp2_with (first
          | (refine step_load_ma rfl 48 (.tmp 18) rfl c (r * 16) 16 y 5 rfl HRg.out Tryz.underlying48 infoa ?_)
          | (refine step_store_ba rfl 48 (.tmp 6) (.tmp 19) rfl wr.heap.size 16 48 (fun _ => 0) y rfl rfl HA0.out infoa ?_; clear HA0; generalize (wr.alloc (.cells #[.int .u8 0, .int .u8 0, .int .u8 0, .int .u8 0, .int .u8 0, .int .u8 0, .int .u8 0, .int .u8 0, .int .u8 0, .int .u8 0, .int .u8 0, .int .u8 0, .int .u8 0, .int .u8 0, .int .u8 0, .int .u8 0] 48)).setRow wr.heap.size (ba 16 y) = w1 at *; generalize wr.heap.size = n at *)
          | (go_at_call 74; (with_reducible refine (HMX.out _ HK.out.ci.blk).mono ?_); rintro e u1 ⟨rfl, rfl⟩)
          | (refine step_load_ba rfl 48 (.tmp 3) rfl w.heap.size 16 48 5 g rfl HK.out.var Tryz.underlying48 infoa ?_)
          | (refine step_load_ba rfl 48 (.tmp 6) rfl n 16 48 5 y rfl HK.out.key Tryz.underlying48 infoa ?_)
          | (go_at_call 76; (with_reducible refine (sum16_any g y _ HEb.out HYb.out).mono ?_); rintro e w9 ⟨rfl, hlow⟩; have HK9 := hid (HK.out.self hlow); clear hlow)
          | (refine step_store_ba rfl 48 (.tmp 3) (.tmp 37) rfl w.heap.size 16 48 g _ rfl rfl HK9.out.var infoa ?_; have HKA := hid (HK9.out.row (addF g y))))
        go_roundw
        case rel => exact ⟨r + 1, by omega, by go_num, by rw [HG'.out, HNr.out, HYr.out]; exact HKA.out.toBI⟩
        case measure => simp [intOf]; omega
      · rw [if_neg h0] at HYr
        have c2 : (0 : Int) < (r : Int) := by omega
        by_cases h1 : r < R
        · rw [if_pos h1] at HYr
          have hd : decide (0 < r ∧ r < R) = true := decide_eq_true (by omega)
          rw [hd] at HMX
          clear hd hRR h0 h1
          go_wp2_with (first
            | (refine step_load_ma rfl 48 (.tmp 18) rfl c (r * 16) 16 y 5 rfl HRg.out Tryz.underlying48 infoa ?_)
            | (refine step_store_ba rfl 48 (.tmp 6) (.tmp 19) rfl wr.heap.size 16 48 (fun _ => 0) y rfl rfl HA0.out infoa ?_; clear HA0; generalize (wr.alloc (.cells #[.int .u8 0, .int .u8 0, .int .u8 0, .int .u8 0, .int .u8 0, .int .u8 0, .int .u8 0, .int .u8 0, .int .u8 0, .int .u8 0, .int .u8 0, .int .u8 0, .int .u8 0, .int .u8 0, .int .u8 0, .int .u8 0] 48)).setRow wr.heap.size (ba 16 y) = w1 at *; generalize wr.heap.size = n at *))
          have HD := hid HK.out.drew
          have hb0 := HK.out.drew.ci.blk.c0
          refine region_tail 6 (by kernel_rfl) (by kernel_rfl) ?_
          simp only [List.take_succ_cons, List.take_zero, List.drop_succ_cons, List.drop_zero]
          generalize w1.drew = w2 at *
          refine still_load_mid rfl 48 (.tmp 3) rfl w.heap.size 0 16 g 5 rfl HD.out.var.range Tryz.underlying48 infoa ?_
          have hmf : ∀ (fn : Fn) (first cap : Array Value) (w : World), (Instr.makeFunc fn first cap).run Tryz.prog w = .ok (.func fn first cap) w := fun _ _ _ _ => rfl
          repeat still_step
          refine wpStill_nil ?_
          clear hb0 hmf
          go_wp2_with (first
            | (go_at_call 73; (with_reducible refine (each_sub b g _ HEb.out HD.out.ci.box).mono ?_); rintro e w3 ⟨rfl, hbx, ho⟩; have HD3 := hid (HD.out.only ho hbx); clear hbx ho)
            | (go_at_call 72; (with_reducible refine (rows_any (subF g) _).mono ?_); rintro e w4 ⟨rfl, hlow⟩; have HD4 := hid (HD3.out.self hlow); clear hlow)
            | (refine step_store_ba rfl 48 (.tmp 3) (.tmp 29) rfl w.heap.size 16 48 g _ rfl rfl HD4.out.var infoa ?_; have HD5 := hid (HD4.out.row (shR (subF g))); have HB5 := hid (shR_b (subF_b g)); generalize w4.setRow w.heap.size (ba 16 (shR (subF g))) = w5 at *)
            | (go_at_call 74; (with_reducible refine (HMX.out _ HD5.out.ci.blk).mono ?_); rintro e u1 ⟨rfl, rfl⟩)
            | (refine step_load_ba rfl 48 (.tmp 3) rfl w.heap.size 16 48 5 (mxC (shR (subF g))) rfl HD7.out.var Tryz.underlying48 infoa ?_)
            | (refine step_load_ba rfl 48 (.tmp 6) rfl n 16 48 5 y rfl HD7.out.key Tryz.underlying48 infoa ?_)
            | (go_at_call 76; (with_reducible refine (sum16_any (mxC (shR (subF g))) y _ HB7.out HYb.out).mono ?_); rintro e w9 ⟨rfl, hlow⟩; have HK9 := hid (HD7.out.self hlow); clear hlow)
            | (refine step_store_ba rfl 48 (.tmp 3) (.tmp 37) rfl w.heap.size 16 48 (mxC (shR (subF g))) _ rfl rfl HK9.out.var infoa ?_; have HKA := hid (HK9.out.row (addF (mxC (shR (subF g))) y)))
            | (refine step_load_ba rfl 48 (.tmp 3) rfl w.heap.size 16 48 5 (shR (subF g)) rfl HD5.out.var Tryz.underlying48 infoa ?_)
            | (go_at_call 75; (with_reducible refine (columns_any16 (shR (subF g)) _ HB5.out).mono ?_); rintro e w6 ⟨rfl, hlow⟩; have HD6 := hid (HD5.out.self hlow); clear hlow)
            | (refine step_store_ba rfl 48 (.tmp 3) (.tmp 34) rfl w.heap.size 16 48 (shR (subF g)) _ rfl rfl HD6.out.var infoa ?_; have HD7 := hid (HD6.out.row (mxC (shR (subF g)))); have HB7 := hid (mxC_b HB5.out); generalize w6.setRow w.heap.size (ba 16 (mxC (shR (subF g)))) = w7 at *))
          go_roundw
          case rel => exact ⟨r + 1, by omega, by go_num, by rw [HG'.out, HNr.out, HYr.out]; exact HKA.out.toBI⟩
          case measure => simp [intOf]; omega
        · rw [if_neg h1] at HYr
          have hd : decide (0 < r ∧ r < R) = false := decide_eq_false (by omega)
          rw [hd] at HMX
          clear hd hRR h0 h1
          go_wp2_with (first
            | (refine step_load_ma rfl 48 (.tmp 18) rfl c (r * 16) 16 y 5 rfl HRg.out Tryz.underlying48 infoa ?_)
            | (refine step_store_ba rfl 48 (.tmp 6) (.tmp 19) rfl wr.heap.size 16 48 (fun _ => 0) y rfl rfl HA0.out infoa ?_; clear HA0; generalize (wr.alloc (.cells #[.int .u8 0, .int .u8 0, .int .u8 0, .int .u8 0, .int .u8 0, .int .u8 0, .int .u8 0, .int .u8 0, .int .u8 0, .int .u8 0, .int .u8 0, .int .u8 0, .int .u8 0, .int .u8 0, .int .u8 0, .int .u8 0] 48)).setRow wr.heap.size (ba 16 y) = w1 at *; generalize wr.heap.size = n at *))
          have HD := hid HK.out.drew
          have hb0 := HK.out.drew.ci.blk.c0
          refine region_tail 6 (by kernel_rfl) (by kernel_rfl) ?_
          simp only [List.take_succ_cons, List.take_zero, List.drop_succ_cons, List.drop_zero]
          generalize w1.drew = w2 at *
          refine still_load_mid rfl 48 (.tmp 3) rfl w.heap.size 0 16 g 5 rfl HD.out.var.range Tryz.underlying48 infoa ?_
          have hmf : ∀ (fn : Fn) (first cap : Array Value) (w : World), (Instr.makeFunc fn first cap).run Tryz.prog w = .ok (.func fn first cap) w := fun _ _ _ _ => rfl
          repeat still_step
          refine wpStill_nil ?_
          clear hb0 hmf
          go_wp2_with (first
            | (go_at_call 73; (with_reducible refine (each_sub b g _ HEb.out HD.out.ci.box).mono ?_); rintro e w3 ⟨rfl, hbx, ho⟩; have HD3 := hid (HD.out.only ho hbx); clear hbx ho)
            | (go_at_call 72; (with_reducible refine (rows_any (subF g) _).mono ?_); rintro e w4 ⟨rfl, hlow⟩; have HD4 := hid (HD3.out.self hlow); clear hlow)
            | (refine step_store_ba rfl 48 (.tmp 3) (.tmp 29) rfl w.heap.size 16 48 g _ rfl rfl HD4.out.var infoa ?_; have HD5 := hid (HD4.out.row (shR (subF g))); have HB5 := hid (shR_b (subF_b g)); generalize w4.setRow w.heap.size (ba 16 (shR (subF g))) = w5 at *)
            | (go_at_call 74; (with_reducible refine (HMX.out _ HD5.out.ci.blk).mono ?_); rintro e u1 ⟨rfl, rfl⟩)
            | (refine step_load_ba rfl 48 (.tmp 3) rfl w.heap.size 16 48 5 (shR (subF g)) rfl HD5.out.var Tryz.underlying48 infoa ?_)
            | (refine step_load_ba rfl 48 (.tmp 6) rfl n 16 48 5 y rfl HD5.out.key Tryz.underlying48 infoa ?_)
            | (go_at_call 76; (with_reducible refine (sum16_any (shR (subF g)) y _ HB5.out HYb.out).mono ?_); rintro e w9 ⟨rfl, hlow⟩; have HK9 := hid (HD5.out.self hlow); clear hlow)
            | (refine step_store_ba rfl 48 (.tmp 3) (.tmp 37) rfl w.heap.size 16 48 (shR (subF g)) _ rfl rfl HK9.out.var infoa ?_; have HKA := hid (HK9.out.row (addF (shR (subF g)) y))))
          go_roundw
          case rel => exact ⟨r + 1, by omega, by go_num, by rw [HG'.out, HNr.out, HYr.out]; exact HKA.out.toBI⟩
          case measure => simp [intOf]; omega
    · obtain rfl : r = R1 := by omega
      go_wp2_with (first
        | (refine step_load_ba rfl 48 _ rfl w.heap.size 16 48 5 _ rfl HI.out.var Tryz.underlying48 infoa ?_)
        | (refine step_store_ba rfl 48 _ _ rfl (w.heap.size + 1) 16 48 (fun _ => 0) _ rfl rfl HI.out.out infoa ?_))
      exact ret_ba rfl rfl Tryz.underlying48 infoa rfl (HI.out.done _).1 ⟨by rw [HZ.out], (HI.out.done _).2⟩
end Go.Proofs.YthhkhcacljgelaaGreat

namespace Go.Proofs.YthhkhcacljgelaaGreat
open Go.RowKit

set_option maxRecDepth 100000 in
theorem eqA {f g : Nat → Nat} {b : Bool} (h : Eq16 f g ↔ b = true) (w : World) : (Op.equalIn 10000 48 (.agg (ba 16 f)) (.agg (ba 16 g))).run Tryz.prog w = .ok b w := by
  have h' := run_eq_ba (P := Tryz.prog) w 9998 48 5 16 f g Tryz.underlying48 Tryz.underlying5 info5
  rw [h']
  congr 1
  cases b
  · simp only [Bool.false_eq_true, iff_false] at h; exact decide_eq_false h
  · exact decide_eq_true (h.2 rfl)
theorem guardA : Tryz.prog.eqGuardType Tryz.prog.depth 48 = false := by kernel_rfl
theorem eq16_bool (f g : Nat → Nat) : ∃ q : Bool, Eq16 f g ↔ q = true := by
  by_cases h : Eq16 f g
  · exact ⟨true, by simp [h]⟩
  · exact ⟨false, by simp [h]⟩

/-- Columns, k times. -/
def itC (f : Nat → Nat) : Nat → Nat → Nat
  | 0 => f
  | k + 1 => mxC (itC f k)
theorem itC_b {f : Nat → Nat} (h : B16 f) : ∀ k, B16 (itC f k)
  | 0 => h
  | k + 1 => mxC_b (itC_b h k)
theorem itC_four {f : Nat → Nat} (h : B16 f) : Eq16 (itC f 4) f := col4 h
theorem itC_end {f : Nat → Nat} (h : B16 f) {k : Nat} (e : Eq16 (itC f (k + 1)) f) : Eq16 (itC f k) (mxB f) :=
  (bcol_col (itC_b h k)).symm.trans (mxB_e e)

/-- BackColumns on its way. -/
structure BC (w wr : World) (f : Nat → Nat) (n : Nat) (x y : Nat → Nat) : Prop where
  arg : At wr w.heap.size 16 48 f
  out : At wr (w.heap.size + 1) 16 48 (fun _ => 0)
  ahead : At wr (w.heap.size + 2) 16 48 x
  next : At wr n 16 48 y
  far : w.heap.size + 2 < n
  low : Below w.heap.size w wr
section
variable {w wr w1 : World} {f x y z : Nat → Nat} {n : Nat}
theorem BC.self (h : BC w wr f n x y) (hb : Below wr.heap.size wr w1) : BC w w1 f n x y :=
  ⟨h.arg.self hb, h.out.self hb, h.ahead.self hb, h.next.self hb, h.far, h.low.trans (hb.mono h.low.size)⟩
theorem BC.setA (h : BC w wr f n x y) (z : Nat → Nat) : BC w (wr.setRow (w.heap.size + 2) (ba 16 z)) f n z y :=
  ⟨h.arg.rowApart (by omega) _, h.out.rowApart (by omega) _, h.ahead.row z, h.next.rowApart (by have := h.far; omega) _, h.far, below_setRow h.low (by omega) _⟩
theorem BC.setN (h : BC w wr f n x y) (z : Nat → Nat) : BC w (wr.setRow n (ba 16 z)) f n x z :=
  ⟨h.arg.rowApart (by have := h.far; omega) _, h.out.rowApart (by have := h.far; omega) _, h.ahead.rowApart (by have := h.far; omega) _, h.next.row z, h.far, below_setRow h.low (by have := h.far; omega) _⟩
theorem BC.move (h : BC w wr f n x y) (z : Nat → Nat) : BC w ((wr.alloc (.cells (ba 16 (fun _ => 0)) 48)).setRow wr.heap.size (ba 16 z)) f wr.heap.size x z := by
  have hl := h.ahead.lt
  have hl1 := h.arg.lt
  have hl2 := h.out.lt
  exact ⟨(h.arg.alloc _).rowApart (by omega) _, (h.out.alloc _).rowApart (by omega) _, (h.ahead.alloc _).rowApart (by omega) _, (At.new wr 16 48 _).row z, hl, below_setRow (h.low.alloc h.low.size _) h.low.size _⟩
theorem BC.start (h : Tri w wr f x) (z : Nat → Nat) : BC w ((wr.alloc (.cells (ba 16 (fun _ => 0)) 48)).setRow wr.heap.size (ba 16 z)) f wr.heap.size x z := by
  have hl := h.var.lt
  have hl1 := h.arg.lt
  have hl2 := h.out.lt
  exact ⟨(h.arg.alloc _).rowApart (by omega) _, (h.out.alloc _).rowApart (by omega) _, (h.var.alloc _).rowApart (by omega) _, (At.new wr 16 48 _).row z, hl, below_setRow (h.low.alloc h.low.size _) h.low.size _⟩
theorem BC.done (h : BC w wr f n x y) (z : Nat → Nat) : At (wr.setRow (w.heap.size + 1) (ba 16 z)) (w.heap.size + 1) 16 48 z ∧ Below w.heap.size w (wr.setRow (w.heap.size + 1) (ba 16 z)) :=
  ⟨h.out.row z, below_setRow h.low (by omega) _⟩
end

end Go.Proofs.YthhkhcacljgelaaGreat

/- Comparisons of blocks, and what a key may be. -/
namespace Go.Proofs.YthhkhcacljgelaaGreat
open Go.RowKit

theorem B16.all {f : Nat → Nat} (h : B16 f) : ∀ j, j < 16 → f j < 256 := h
set_option maxRecDepth 100000 in
theorem exec_eq16 {w : World} {o : Oper} {a : Act} (x y : Operand) (ho : o.op = .binOp .eql 48 x y 48) {f g : Nat → Nat} {q : Bool} (hx : a.eval x = .agg (ba 16 f)) (hy : a.eval y = .agg (ba 16 g)) (h : Eq16 f g ↔ q = true) :
    (execOp a.eval o).run Tryz.prog w = .ok (.value (.bool q)) w := by
  have heq := fun w => eqA h w
  have hguard := guardA
  unfold execOp
  rw [ho]
  simp only [hx, hy]
  generalize ba 16 f = A at *
  generalize ba 16 g = B at *
  go_simp
set_option maxRecDepth 100000 in
theorem exec_ne16 {w : World} {o : Oper} {a : Act} (x y : Operand) (ho : o.op = .binOp .neq 48 x y 48) {f g : Nat → Nat} {q : Bool} (hx : a.eval x = .agg (ba 16 f)) (hy : a.eval y = .agg (ba 16 g)) (h : Eq16 f g ↔ q = true) :
    (execOp a.eval o).run Tryz.prog w = .ok (.value (.bool (!q))) w := by
  have heq := fun w => eqA h w
  have hguard := guardA
  unfold execOp
  rw [ho]
  simp only [hx, hy]
  generalize ba 16 f = A at *
  generalize ba 16 g = B at *
  go_simp
theorem step_eq16 {w : World} {ops : Array Oper} {rest : List Oper} {o : Oper} {a : Act} {Q : Exit → Act → World → Prop} (hw : Region.wanted o (yielded ops a.tmps) = true) (x y : Operand) (ho : o.op = .binOp .eql 48 x y 48) (f g : Nat → Nat) (q : Bool)
    (hx : a.eval x = .agg (ba 16 f)) (hy : a.eval y = .agg (ba 16 g)) (h : Eq16 f g ↔ q = true) (k : wpList Tryz.prog ops Q rest (a.put o.dst (.bool q)) w) : wpList Tryz.prog ops Q (o :: rest) a w :=
  BigFrame.wpList_want hw fun _ hK => by
    unfold Oper.wp
    rw [exec_eq16 x y ho hx hy h]
    exact hK _ _ k
theorem rnd_cases {L : Nat} (h : rnd (L : Int) ≠ 0) : L = 16 ∨ L = 24 ∨ L = 32 := by
  unfold rnd at h
  by_cases h1 : (L : Int) = 16
  · omega
  · rw [if_neg h1] at h
    by_cases h2 : (L : Int) = 24
    · omega
    · rw [if_neg h2] at h
      by_cases h3 : (L : Int) = 32
      · omega
      · rw [if_neg h3] at h; exact absurd rfl h
theorem rkey_lt {K : Nat} {k : Nat → Nat} (hk : ∀ x, k x < 256) (N r m : Nat) : rkey K k N r m < 256 := exps_lt hk N _ _ (Nat.mod_lt _ (by decide))
theorem nth_lt {w : World} {v : Value} {zs : List Int} (h : Rd .u8 w v zs) : ∀ x, (nth zs x).toNat < 256 := fun x => by
  obtain ⟨_, _, _, _, hz, _⟩ := h
  by_cases hx : x < zs.length
  · have hb := bounds_u8 (hz _ (List.getElem_mem (h := hx)))
    rw [← nth_of hx] at hb
    omega
  · have : nth zs x = 0 := by simp [nth, List.getD, hx]
    rw [this]; decide
end Go.Proofs.YthhkhcacljgelaaGreat

namespace Go.Proofs.YthhkhcacljgelaaGreat
open Go.RowKit

theorem wrap64_sub1 {r : Int} (h : -9223372036854775807 ≤ r ∧ r ≤ 9223372036854775807 := by omega) : wrap64 (r - 1) = r - 1 := by unfold wrap64; omega

end Go.Proofs.YthhkhcacljgelaaGreat
