/- The chapter's example, reckoned: the tag of nothing. -/
import Derived.Test.YteoiekooaokhaaaCmm
namespace Go.Proofs.Yteoiekooaokhaaa
open Go.RowKit

def sbT (x : Nat) : Nat := ap bend (tI.getD x 0) ^^^ 99
theorem sb_T {x : Nat} (hx : x < 256) : sb x = sbT x := by unfold sb sbT; rw [tI_pw hx]
/-- The key, the round keys, and the states of both blocks. -/
def xK : List Nat := [43, 126, 21, 22, 40, 174, 210, 166, 171, 247, 21, 136, 9, 207, 79, 60]
def kT : List Nat := [43, 126, 21, 22, 40, 174, 210, 166, 171, 247, 21, 136, 9, 207, 79, 60, 160, 250, 254, 23, 136, 84, 44, 177, 35, 163, 57, 57, 42, 108, 118, 5, 242, 194, 149, 242, 122, 150, 185, 67, 89, 53, 128, 122, 115, 89, 246, 127, 61, 128, 71, 125, 71, 22, 254, 62, 30, 35, 126, 68, 109, 122, 136, 59, 239, 68, 165, 65, 168, 82, 91, 127, 182, 113, 37, 59, 219, 11, 173, 0, 212, 209, 198, 248, 124, 131, 157, 135, 202, 242, 184, 188, 17, 249, 21, 188, 109, 136, 163, 122, 17, 11, 62, 253, 219, 249, 134, 65, 202, 0, 147, 253, 78, 84, 247, 14, 95, 95, 201, 243, 132, 166, 79, 178, 78, 166, 220, 79, 234, 210, 115, 33, 181, 141, 186, 210, 49, 43, 245, 96, 127, 141, 41, 47, 172, 119, 102, 243, 25, 250, 220, 33, 40, 209, 41, 65, 87, 92, 0, 110, 208, 20, 249, 168, 201, 238, 37, 137, 225, 63, 12, 200, 182, 99, 12, 166]
def sT0 : List Nat := [0, 0, 0, 0, 0, 0, 0, 0, 0, 0, 0, 0, 0, 0, 0, 0, 43, 126, 21, 22, 40, 174, 210, 166, 171, 247, 21, 136, 9, 207, 79, 60, 220, 216, 127, 111, 155, 96, 170, 143, 31, 1, 15, 4, 87, 144, 162, 211, 158, 3, 133, 9, 68, 156, 70, 114, 195, 43, 10, 117, 56, 221, 130, 160, 213, 101, 103, 2, 107, 192, 49, 243, 205, 118, 100, 224, 41, 248, 252, 50, 92, 206, 255, 251, 217, 225, 254, 152, 156, 215, 223, 57, 123, 135, 232, 167, 145, 149, 183, 248, 144, 19, 154, 83, 4, 126, 151, 72, 124, 17, 228, 203, 100, 111, 117, 41, 247, 108, 188, 69, 253, 25, 147, 166, 126, 197, 52, 251, 235, 199, 86, 89, 85, 9, 177, 214, 46, 119, 46, 169, 17, 149, 33, 196, 13, 118, 221, 9, 100, 87, 20, 72, 106, 112, 150, 95, 42, 8, 136, 1, 24, 193, 85, 162, 169, 77, 94, 115, 239, 185, 116, 18, 251, 19, 120, 29, 125, 247, 107, 12, 26, 184, 153, 179, 62, 66, 240, 71, 185, 27, 84, 111]
def sT1 : List Nat := [119, 221, 172, 48, 106, 226, 102, 204, 249, 11, 193, 30, 228, 109, 81, 59, 92, 163, 185, 38, 66, 76, 180, 106, 82, 252, 212, 150, 237, 162, 30, 7, 194, 255, 89, 57, 158, 98, 86, 242, 57, 47, 169, 81, 131, 49, 131, 70, 212, 156, 73, 80, 173, 138, 82, 131, 109, 125, 88, 73, 234, 128, 29, 78, 106, 165, 212, 239, 155, 194, 50, 103, 253, 63, 214, 53, 58, 97, 156, 1, 14, 113, 241, 108, 30, 10, 231, 77, 249, 189, 154, 113, 127, 116, 204, 137, 47, 192, 147, 148, 13, 136, 243, 128, 12, 79, 212, 226, 103, 114, 169, 187, 178, 60, 199, 6, 194, 131, 182, 140, 237, 53, 215, 69, 155, 101, 5, 245, 231, 84, 1, 98, 176, 159, 29, 191, 91, 92, 108, 14, 96, 195, 13, 10, 152, 124, 53, 195, 195, 54, 71, 50, 69, 194, 2, 105, 171, 65, 108, 141, 5, 255, 44, 241, 84, 64, 5, 122, 223, 32, 150, 160, 250, 28, 57, 145, 187, 29, 105, 41, 233, 89, 55, 40, 127, 163, 125, 18, 155, 117, 103, 70]
def mkT (i : Nat) (a : Nat → Nat) (j : Nat) : Nat := if i % 4 = 0 then sbT (a ((j + 1) % 4)) ^^^ (if j = 0 then mkb (i / 4) else 0) else a j
theorem mk_T (i : Nat) {a : Nat → Nat} (ha : ∀ j, j < 4 → a j < 256) {j : Nat} (_hj : j < 4) : mkw 4 i a j = mkT i a j := by
  unfold mkw mkT
  by_cases h : i % 4 = 0
  · rw [if_pos h, if_pos h, sb_T (ha _ (Nat.mod_lt _ (by decide)))]
  · rw [if_neg h, if_neg h, if_neg (by omega)]
/-- The example's key. -/
def exK (i : Nat) : Nat := xK.getD i 0
theorem exK_all : ∀ i < 16, xK.getD i 0 < 256 := by decide +kernel
theorem exK_lt (i : Nat) : exK i < 256 := by
  by_cases h : i < 16
  · exact exK_all i h
  · have : exK i = 0 := by unfold exK; rw [List.getD_eq_getElem?_getD, List.getElem?_eq_none (by show 16 ≤ i; omega)]; rfl
    omega
theorem kT_first : ∀ i < 4, ∀ j < 4, kT.getD (4 * i + j) 0 = xK.getD (4 * i + j) 0 := by decide +kernel
theorem kT_byte : ∀ m < 176, kT.getD m 0 < 256 := by decide +kernel
theorem kT_step : ∀ n < 40, ∀ j < 4, kT.getD (4 * n + j) 0 ^^^ mkT (n + 4) (fun m => kT.getD (4 * (n + 3) + m) 0) j = kT.getD (4 * (n + 4) + j) 0 := by decide +kernel
theorem kT_all : ∀ i, i < 44 → ∀ j, j < 4 → exps 4 exK 40 i j = kT.getD (4 * i + j) 0 := by
  intro i
  induction i using Nat.strongRecOn with
  | ind i ih =>
    intro hi j hj
    by_cases h : i < 4
    · rw [exps_key 4 exK h, kT_first i h j hj]; rfl
    · obtain ⟨n, rfl⟩ : ∃ n, i = n + 4 := ⟨i - 4, by omega⟩
      have h1 : ∀ m, m < 4 → exps 4 exK 40 (n + 3) m = kT.getD (4 * (n + 3) + m) 0 := ih (n + 3) (by omega) (by omega)
      rw [exps_at 4 exK (by decide) (by omega) (by omega) j, show n + 4 - 4 = n by omega, show n + 4 - 1 = n + 3 by omega, ih n (by omega) (by omega) j hj, mkw_ext h1 j hj,
        mk_T (n + 4) (fun m hm => kT_byte _ (by omega)) hj, kT_step n (by omega) j hj]
theorem rk_T {r : Nat} (hr : r < 11) : Eq16 (rkey 4 exK 40 r) (fun m => kT.getD (16 * r + m) 0) := fun m hm => by
  unfold rkey
  rw [kT_all _ (by omega) _ (Nat.mod_lt _ (by decide))]
  congr 1
  omega
def subT (f : Nat → Nat) : Nat → Nat := fun i => sbT (f i)
def encT (r : Nat) (g : Nat → Nat) : Nat → Nat := addF (if r = 0 then g else if r < 10 then mxC (shR (subT g)) else shR (subT g)) (fun m => kT.getD (16 * r + m) 0)
theorem addF_e2 {f g k : Nat → Nat} (h : Eq16 g k) : Eq16 (addF f g) (addF f k) := fun i hi => by unfold addF; rw [h i hi]
theorem enc_T {r : Nat} (hr : r < 11) {g : Nat → Nat} (hg : B16 g) : Eq16 (encR (rkey 4 exK 40) 10 r g) (encT r g) := by
  have hs : Eq16 (subF g) (subT g) := fun i hi => sb_T (hg i hi)
  unfold encR encT
  refine (addF_e2 (rk_T hr)).trans (addF_e ?_)
  by_cases h0 : r = 0
  · rw [if_pos h0, if_pos h0]; exact Eq16.refl _
  · rw [if_neg h0, if_neg h0]
    by_cases h1 : r < 10
    · rw [if_pos h1, if_pos h1]; exact mxC_e (shR_e hs)
    · rw [if_neg h1, if_neg h1]; exact shR_e hs
/-- Twelve states, one behind the other, of which each is made of the one ahead. -/
theorem states (T : List Nat) (hb : ∀ m < 192, T.getD m 0 < 256) (hs : ∀ r < 11, ∀ i < 16, encT r (fun m => T.getD (16 * r + m) 0) i = T.getD (16 * r + 16 + i) 0) (f : Nat → Nat) (h0 : ∀ i < 16, T.getD i 0 = f i) :
    ∀ r, r ≤ 11 → Eq16 (enc (rkey 4 exK 40) 10 f r) (fun m => T.getD (16 * r + m) 0)
  | 0, _ => fun i hi => by show f i = T.getD (16 * 0 + i) 0; rw [Nat.mul_zero, Nat.zero_add, h0 i hi]
  | r + 1, hr => by
    refine (encR_e (states T hb hs f h0 r (by omega))).trans ((enc_T (by omega) (fun i hi => hb _ (by omega))).trans (fun i hi => ?_))
    rw [hs r (by omega) i hi, show 16 * r + 16 = 16 * (r + 1) by omega]
theorem sT0_byte : ∀ m < 192, sT0.getD m 0 < 256 := by decide +kernel
theorem sT0_step : ∀ r < 11, ∀ i < 16, encT r (fun m => sT0.getD (16 * r + m) 0) i = sT0.getD (16 * r + 16 + i) 0 := by decide +kernel
theorem sT0_first : ∀ i < 16, sT0.getD i 0 = 0 := by decide +kernel
theorem sT1_byte : ∀ m < 192, sT1.getD m 0 < 256 := by decide +kernel
theorem sT1_step : ∀ r < 11, ∀ i < 16, encT r (fun m => sT1.getD (16 * r + m) 0) i = sT1.getD (16 * r + 16 + i) 0 := by decide +kernel
def exE (i : Nat) : Nat := sT0.getD (176 + i) 0
def exM1 (i : Nat) : Nat := ([251, 238, 214, 24, 53, 113, 51, 102, 124, 133, 224, 143, 114, 54, 168, 222] : List Nat).getD i 0
def exM2 (i : Nat) : Nat := ([247, 221, 172, 48, 106, 226, 102, 204, 249, 11, 193, 30, 228, 109, 81, 59] : List Nat).getD i 0
theorem exE_is : Eq16 (blkF (rkey 4 exK 40) 10 (fun _ => 0)) exE := states sT0 sT0_byte sT0_step (fun _ => 0) sT0_first 11 (Nat.le_refl _)
theorem exM1_is : ∀ i < 16, dbF exE i = exM1 i := by decide +kernel
theorem exM2_is : ∀ i < 16, dbF exM1 i = exM2 i := by decide +kernel
theorem m2_is : Eq16 (m2F (rkey 4 exK 40) 10) exM2 := by
  unfold m2F m1F
  rw [dbF_e exE_is, dbF_e exM1_is]
  exact exM2_is
theorem sT1_first (l : Nat → Nat) : ∀ i < 16, sT1.getD i 0 = xorF (fun _ => 0) (xorF (padF 0 l) exM2) i := by
  have h : ∀ i < 16, sT1.getD i 0 = xorF (fun _ => 0) (xorF (fun j => if j = 0 then 128 else 0) exM2) i := by decide +kernel
  intro i hi
  rw [h i hi]
  unfold xorF padF
  rw [if_neg (Nat.not_lt_zero i)]
/-- The tag of nothing. -/
theorem exT_is (δ : Nat → Nat) : Eq16 (tagF (rkey 4 exK 40) 10 (fun _ => 0) 0 δ) (fun i => sT1.getD (176 + i) 0) := by
  rw [tagF_small (by decide)]
  unfold endF
  rw [if_pos (by decide)]
  exact (blk_e (xorF_e (Eq16.refl _) (xorF_e (Eq16.refl _) m2_is))).trans (states sT1 sT1_byte sT1_step _ (sT1_first δ) 11 (Nat.le_refl _))
/-- .. and its beginning. -/
def exB (i : Nat) : Nat := ([187, 29, 105, 41] : List Nat).getD i 0
theorem exB_is : ∀ i < 4, sT1.getD (176 + i) 0 = exB i := by decide +kernel
theorem exB_says (δ : Nat → Nat) : ns 4 (tagF (rkey 4 exK 40) 10 (fun _ => 0) 0 δ) = ns 4 exB := ns_ext fun i hi => (exT_is δ i (by omega)).trans (exB_is i hi)
end Go.Proofs.Yteoiekooaokhaaa
