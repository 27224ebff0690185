/- The chapter's example, reckoned. -/
import Derived.Test.YthkanhhpkaigoaaAem
namespace Go.Proofs.Ythkanhhpkaigoaa
open Go.RowKit

def sbT (x : Nat) : Nat := ap bend (tI.getD x 0) ^^^ 99
theorem sb_T {x : Nat} (hx : x < 256) : sb x = sbT x := by unfold sb sbT; rw [tI_pw hx]
/-- The round keys and the states of the example. -/
def kT : List Nat := [0, 1, 2, 3, 4, 5, 6, 7, 8, 9, 10, 11, 12, 13, 14, 15, 214, 170, 116, 253, 210, 175, 114, 250, 218, 166, 120, 241, 214, 171, 118, 254, 182, 146, 207, 11, 100, 61, 189, 241, 190, 155, 197, 0, 104, 48, 179, 254, 182, 255, 116, 78, 210, 194, 201, 191, 108, 89, 12, 191, 4, 105, 191, 65, 71, 247, 247, 188, 149, 53, 62, 3, 249, 108, 50, 188, 253, 5, 141, 253, 60, 170, 163, 232, 169, 159, 157, 235, 80, 243, 175, 87, 173, 246, 34, 170, 94, 57, 15, 125, 247, 166, 146, 150, 167, 85, 61, 193, 10, 163, 31, 107, 20, 249, 112, 26, 227, 95, 226, 140, 68, 10, 223, 77, 78, 169, 192, 38, 71, 67, 135, 53, 164, 28, 101, 185, 224, 22, 186, 244, 174, 191, 122, 210, 84, 153, 50, 209, 240, 133, 87, 104, 16, 147, 237, 156, 190, 44, 151, 78, 19, 17, 29, 127, 227, 148, 74, 23, 243, 7, 167, 139, 77, 43, 48, 197]
def sT : List Nat := [0, 17, 34, 51, 68, 85, 102, 119, 136, 153, 170, 187, 204, 221, 238, 255, 0, 16, 32, 48, 64, 80, 96, 112, 128, 144, 160, 176, 192, 208, 224, 240, 137, 216, 16, 232, 133, 90, 206, 104, 45, 24, 67, 216, 203, 18, 143, 228, 73, 21, 89, 143, 85, 229, 215, 160, 218, 202, 148, 250, 31, 10, 99, 247, 250, 99, 106, 40, 37, 179, 57, 201, 64, 102, 138, 49, 87, 36, 77, 23, 36, 114, 64, 35, 105, 102, 179, 250, 110, 210, 117, 50, 136, 66, 91, 108, 200, 22, 119, 188, 155, 122, 201, 59, 37, 2, 121, 146, 176, 38, 25, 150, 198, 47, 225, 9, 247, 94, 237, 195, 204, 121, 57, 93, 132, 249, 207, 93, 209, 135, 108, 15, 121, 196, 48, 10, 180, 85, 148, 173, 214, 111, 244, 31, 253, 227, 186, 210, 5, 229, 208, 215, 53, 71, 150, 78, 241, 254, 55, 241, 189, 110, 124, 61, 242, 181, 119, 158, 11, 97, 33, 110, 139, 16, 182, 137, 105, 196, 224, 216, 106, 123, 4, 48, 216, 205, 183, 128, 112, 180, 197, 90]
def mkT (i : Nat) (a : Nat → Nat) (j : Nat) : Nat := if i % 4 = 0 then sbT (a ((j + 1) % 4)) ^^^ (if j = 0 then mkb (i / 4) else 0) else a j
theorem mk_T (i : Nat) {a : Nat → Nat} (ha : ∀ j, j < 4 → a j < 256) {j : Nat} (_hj : j < 4) : mkw 4 i a j = mkT i a j := by
  unfold mkw mkT
  by_cases h : i % 4 = 0
  · rw [if_pos h, if_pos h, sb_T (ha _ (Nat.mod_lt _ (by decide)))]
  · rw [if_neg h, if_neg h, if_neg (by omega)]
theorem kT_first : ∀ i < 4, ∀ j < 4, kT.getD (4 * i + j) 0 = 4 * i + j := by decide +kernel
theorem kT_byte : ∀ m < 176, kT.getD m 0 < 256 := by decide +kernel
theorem kT_step : ∀ n < 40, ∀ j < 4, kT.getD (4 * n + j) 0 ^^^ mkT (n + 4) (fun m => kT.getD (4 * (n + 3) + m) 0) j = kT.getD (4 * (n + 4) + j) 0 := by decide +kernel
/-- The example's key. -/
def exK (i : Nat) : Nat := i % 16
theorem exK_lt (i : Nat) : exK i < 256 := by unfold exK; omega
theorem kT_all : ∀ i, i < 44 → ∀ j, j < 4 → exps 4 exK 40 i j = kT.getD (4 * i + j) 0 := by
  intro i
  induction i using Nat.strongRecOn with
  | ind i ih =>
    intro hi j hj
    by_cases h : i < 4
    · rw [exps_key 4 exK h, kT_first i h j hj]; unfold exK; omega
    · obtain ⟨n, rfl⟩ : ∃ n, i = n + 4 := ⟨i - 4, by omega⟩
      have h1 : ∀ m, m < 4 → exps 4 exK 40 (n + 3) m = kT.getD (4 * (n + 3) + m) 0 := ih (n + 3) (by omega) (by omega)
      rw [exps_at 4 exK (by decide) (by omega) (by omega) j, show n + 4 - 4 = n by omega, show n + 4 - 1 = n + 3 by omega, ih n (by omega) (by omega) j hj, mkw_ext h1 j hj,
        mk_T (n + 4) (fun m hm => kT_byte _ (by omega)) hj, kT_step n (by omega) j hj]
theorem rk_T {r : Nat} (hr : r < 11) : Eq16 (rkey 4 exK 40 r) (fun m => kT.getD (16 * r + m) 0) := fun m hm => by
  unfold rkey
  rw [kT_all _ (by omega) _ (Nat.mod_lt _ (by decide))]
  congr 1
  omega
def subT (f : Nat → Nat) : Nat → Nat := fun i => sbT (f i)
def encT (r : Nat) (g : Nat → Nat) : Nat → Nat := addF (if r = 0 then g else if r < 10 then mxC (shR (subT g)) else shR (subT g)) (fun m => kT.getD (16 * r + m) 0)
theorem addF_e2 {f g k : Nat → Nat} (h : Eq16 g k) : Eq16 (addF f g) (addF f k) := fun i hi => by unfold addF; rw [h i hi]
theorem enc_T {r : Nat} (hr : r < 11) {g : Nat → Nat} (hg : B16 g) : Eq16 (encR (rkey 4 exK 40) 10 r g) (encT r g) := by
  have hs : Eq16 (subF g) (subT g) := fun i hi => sb_T (hg i hi)
  unfold encR encT
  refine (addF_e2 (rk_T hr)).trans (addF_e ?_)
  by_cases h0 : r = 0
  · rw [if_pos h0, if_pos h0]; exact Eq16.refl _
  · rw [if_neg h0, if_neg h0]
    by_cases h1 : r < 10
    · rw [if_pos h1, if_pos h1]; exact mxC_e (shR_e hs)
    · rw [if_neg h1, if_neg h1]; exact shR_e hs
theorem sT_first : ∀ i < 16, sT.getD i 0 = 17 * i := by decide +kernel
theorem sT_byte : ∀ m < 192, sT.getD m 0 < 256 := by decide +kernel
theorem sT_step : ∀ r < 11, ∀ i < 16, encT r (fun m => sT.getD (16 * r + m) 0) i = sT.getD (16 * r + 16 + i) 0 := by decide +kernel
/-- The example's block. -/
def exF (i : Nat) : Nat := 17 * i % 256
theorem exF_lt (i : Nat) : exF i < 256 := by unfold exF; omega
theorem sT_all : ∀ r, r ≤ 11 → Eq16 (enc (rkey 4 exK 40) 10 exF r) (fun m => sT.getD (16 * r + m) 0)
  | 0, _ => fun i hi => by show exF i = sT.getD (16 * 0 + i) 0; rw [Nat.mul_zero, Nat.zero_add, sT_first i hi]; unfold exF; omega
  | r + 1, hr => by
    refine (encR_e (sT_all r (by omega))).trans ((enc_T (by omega) (fun i hi => sT_byte _ (by omega))).trans (fun i hi => ?_))
    rw [sT_step r (by omega) i hi, show 16 * r + 16 = 16 * (r + 1) by omega]
def exO (i : Nat) : Nat := [105, 196, 224, 216, 106, 123, 4, 48, 216, 205, 183, 128, 112, 180, 197, 90].getD i 0
theorem exO_is : ∀ i < 16, sT.getD (16 * 11 + i) 0 = exO i := by decide +kernel
theorem example_is : Eq16 (blkF (rkey 4 exK 40) 10 exF) exO := (sT_all 11 (Nat.le_refl _)).trans exO_is
end Go.Proofs.Ythkanhhpkaigoaa
