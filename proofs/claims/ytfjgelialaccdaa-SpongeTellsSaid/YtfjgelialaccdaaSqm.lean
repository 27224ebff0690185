import Derived.Test.YtfjgelialaccdaaProg
import Derived.Test.YtfjgelialaccdaaSpo
import Derived.Test.YtfjgelialaccdaaSpg
/- Sponge at work: the state behind what was written so far, and how it goes on. No walk. -/
namespace Go.Proofs.Ytfjgelialaccdaa
open Go.RowKit

/-- A word's bytes, put together, as a number. -/
def sN (zs : List Int) (a : Int) : Nat → Nat
  | 0 => 0
  | k + 1 => sN zs a k + (byteAt zs (a + k)).toNat * 256 ^ k
theorem pow_256 (k : Nat) : 256 ^ k = 2 ^ (8 * k) := by rw [Nat.pow_mul]
theorem sN_sum {zs : List Int} (hz : ∀ z ∈ zs, (Lit.int .u8 z).wf = true) (a : Int) : ∀ k, sumTo zs a k = (sN zs a k : Int)
  | 0 => rfl
  | k + 1 => by
    have hb := byteAt_bd hz (a + k)
    rw [sumTo, sN, sN_sum hz a k, Int.natCast_add, Int.natCast_mul, Int.toNat_of_nonneg hb.1, Int.natCast_pow]
    rfl
theorem sN_lt {zs : List Int} (hz : ∀ z ∈ zs, (Lit.int .u8 z).wf = true) (a : Int) (k : Nat) : sN zs a k < 2 ^ (8 * k) := by
  have h := (sumTo_bd hz a k).2
  rw [sN_sum hz a k] at h
  rw [← pow_256]
  have : ((256 ^ k : Nat) : Int) = (256 : Int) ^ k := Int.natCast_pow 256 k
  omega
theorem lw_sN {zs : List Int} (hz : ∀ z ∈ zs, (Lit.int .u8 z).wf = true) (a : Int) : lwN zs a = sN zs a 8 := by
  rw [lwN, ← load_math hz a, ldTo_sum hz a 8 (Nat.le_refl _), sN_sum hz a 8]; rfl
theorem xor_parts (X Y x y k : Nat) (hX : X < 2 ^ k) (hY : Y < 2 ^ k) : (X + x * 2 ^ k) ^^^ (Y + y * 2 ^ k) = (X ^^^ Y) + (x ^^^ y) * 2 ^ k := by
  apply Nat.eq_of_testBit_eq
  intro i
  rw [Nat.testBit_xor, Nat.add_comm X, Nat.add_comm Y, Nat.add_comm (X ^^^ Y), Nat.mul_comm x, Nat.mul_comm y, Nat.mul_comm (x ^^^ y), Nat.testBit_two_pow_mul_add _ hX, Nat.testBit_two_pow_mul_add _ hY, Nat.testBit_two_pow_mul_add _ (Nat.xor_lt_two_pow hX hY)]
  by_cases h : i < k
  · rw [if_pos h, if_pos h, if_pos h, Nat.testBit_xor]
  · rw [if_neg h, if_neg h, if_neg h, Nat.testBit_xor]
theorem byte_app (zs ps : List Int) (p : Int) : (byteAt (zs ++ ps) p).toNat = (byteAt zs p).toNat ^^^ (byteAt ps (p - zs.length)).toNat := by
  by_cases h0 : 0 ≤ p
  · by_cases h1 : p < zs.length
    · rw [byteAt_out (zs := ps) (.inl (by omega)), byteAt_in h0 h1, byteAt_in h0 (by rw [List.length_append]; omega), nth_of (show p.toNat < zs.length by omega), nth_of (show p.toNat < (zs ++ ps).length by rw [List.length_append]; omega), List.getElem_append_left (show p.toNat < zs.length by omega)]
      simp
    · rw [byteAt_out (zs := zs) (.inr (by omega))]
      by_cases h2 : p < (zs.length + ps.length : Nat)
      · rw [byteAt_in h0 (by rw [List.length_append]; exact h2), byteAt_in (by omega) (by omega), nth_of (show p.toNat < (zs ++ ps).length by rw [List.length_append]; omega), nth_of (show (p - (zs.length : Int)).toNat < ps.length by omega), List.getElem_append_right (by omega)]
        have e : (p - (zs.length : Int)).toNat = p.toNat - zs.length := by omega
        simp [e]
      · rw [byteAt_out (.inr (by rw [List.length_append]; omega)), byteAt_out (.inr (by omega))]
        simp
  · rw [byteAt_out (.inl (by omega)), byteAt_out (.inl (by omega)), byteAt_out (.inl (by omega))]
    simp
theorem sN_app {zs ps : List Int} (hz : ∀ z ∈ zs, (Lit.int .u8 z).wf = true) (hp : ∀ z ∈ ps, (Lit.int .u8 z).wf = true) (a : Int) : ∀ k, sN (zs ++ ps) a k = sN zs a k ^^^ sN ps (a - zs.length) k
  | 0 => by simp [sN]
  | k + 1 => by
    rw [sN, sN, sN, sN_app hz hp a k, byte_app, pow_256, xor_parts _ _ _ _ _ (sN_lt hz a k) (sN_lt hp _ k), show a + (k : Int) - (zs.length : Int) = a - (zs.length : Int) + (k : Int) by omega]
theorem wf_bs {zs : List Int} (h : ∀ z ∈ zs, 0 ≤ z ∧ z ≤ 255) : ∀ z ∈ zs, (Lit.int .u8 z).wf = true := fun z hz => WalkArith.wf_u8 (h z hz)
theorem lw_app {zs ps : List Int} (hz : ∀ z ∈ zs, 0 ≤ z ∧ z ≤ 255) (hp : ∀ z ∈ ps, 0 ≤ z ∧ z ≤ 255) (a : Int) : lwN (zs ++ ps) a = lwN zs a ^^^ lwN ps (a - zs.length) := by
  have h : ∀ z ∈ zs ++ ps, 0 ≤ z ∧ z ≤ 255 := fun z h => (List.mem_append.1 h).elim (hz z) (hp z)
  rw [lw_sN (wf_bs h), lw_sN (wf_bs hz), lw_sN (wf_bs hp), sN_app (wf_bs hz) (wf_bs hp)]
theorem sN_zero {zs : List Int} {a : Int} : ∀ k, (∀ j : Nat, j < k → byteAt zs (a + j) = 0) → sN zs a k = 0
  | 0, _ => rfl
  | k + 1, h => by rw [sN, sN_zero k (fun j hj => h j (by omega)), h k (by omega)]; simp
theorem lw_zero {zs : List Int} (hz : ∀ z ∈ zs, 0 ≤ z ∧ z ≤ 255) {a : Int} (h : a ≤ -8 ∨ zs.length ≤ a) : lwN zs a = 0 := by
  rw [lw_sN (wf_bs hz)]
  exact sN_zero 8 fun j hj => byteAt_out (by omega)
theorem lw_pre {zs ps : List Int} (hz : ∀ z ∈ zs, 0 ≤ z ∧ z ≤ 255) (hp : ∀ z ∈ ps, 0 ≤ z ∧ z ≤ 255) {a : Int} (h : a + 8 ≤ zs.length) : lwN (zs ++ ps) a = lwN zs a := by
  rw [lw_app hz hp, lw_zero hp (.inl (by omega)), Nat.xor_zero]

/-- The words that piece ps, entered at byte a, turns. -/
def entF (q a : Nat) (ps : List Int) (f : Nat → Nat) : Nat → Nat := mix q f (fun i => f i ^^^ lwN ps (8 * (i : Int) - (a : Int)))
/-- The state when zs have been written. -/
def wkF (q : Nat) (zs : List Int) : Nat → Nat := mix q (abN zs q (zs.length / (8 * q))) (inW zs (8 * q * (zs.length / (8 * q))) (abN zs q (zs.length / (8 * q))))
theorem abN_pre {zs ps : List Int} {q : Nat} (hz : ∀ z ∈ zs, 0 ≤ z ∧ z ≤ 255) (hp : ∀ z ∈ ps, 0 ≤ z ∧ z ≤ 255) : ∀ B, 8 * q * B ≤ zs.length → abN (zs ++ ps) q B = abN zs q B
  | 0, _ => rfl
  | B + 1, h => by
    have h1 : 8 * q * (B + 1) = 8 * q * B + 8 * q := Nat.mul_succ _ _
    rw [abN, abN, abN_pre hz hp B (by omega), inB, inB]
    congr 1
    funext i
    unfold mix
    by_cases hi : i < q
    · rw [if_pos hi, if_pos hi, inW, inW, lw_pre hz hp (by omega)]
    · rw [if_neg hi, if_neg hi]
theorem ent_mix {zs ps : List Int} {q k a : Nat} (hz : ∀ z ∈ zs, 0 ≤ z ∧ z ≤ 255) (hp : ∀ z ∈ ps, 0 ≤ z ∧ z ≤ 255) (hl : zs.length = 8 * q * k + a) :
    entF q a ps (mix q (abN zs q k) (inW zs (8 * q * k) (abN zs q k))) = mix q (abN (zs ++ ps) q k) (inW (zs ++ ps) (8 * q * k) (abN (zs ++ ps) q k)) := by
  rw [abN_pre hz hp k (by omega)]
  funext i
  unfold entF mix
  by_cases hi : i < q
  · simp only [if_pos hi]
    rw [inW, inW, lw_app hz hp, Nat.xor_assoc, show (8 * (i : Int) - (a : Int)) = ((8 * q * k : Nat) : Int) + 8 * (i : Int) - (zs.length : Int) by omega]
  · simp only [if_neg hi]
theorem wk_at {zs : List Int} {q k a : Nat} (ha : a < 8 * q) (hl : zs.length = 8 * q * k + a) : zs.length / (8 * q) = k ∧ zs.length % (8 * q) = a := by
  rw [hl]
  exact ⟨by rw [Nat.mul_add_div (by omega), Nat.div_eq_of_lt ha, Nat.add_zero], by rw [Nat.mul_add_mod, Nat.mod_eq_of_lt ha]⟩
theorem wk_len (zs : List Int) {q : Nat} (hq : 0 < q) : zs.length = 8 * q * (zs.length / (8 * q)) + zs.length % (8 * q) ∧ zs.length % (8 * q) < 8 * q :=
  ⟨(Nat.div_add_mod _ _).symm, Nat.mod_lt _ (by omega)⟩
/-- A piece that is short of the block's end. -/
theorem wk_short {zs ps : List Int} {q : Nat} (hq : 0 < q) (hz : ∀ z ∈ zs, 0 ≤ z ∧ z ≤ 255) (hp : ∀ z ∈ ps, 0 ≤ z ∧ z ≤ 255) (h : zs.length % (8 * q) + ps.length < 8 * q) :
    entF q (zs.length % (8 * q)) ps (wkF q zs) = wkF q (zs ++ ps) ∧ (zs ++ ps).length % (8 * q) = zs.length % (8 * q) + ps.length := by
  obtain ⟨h1, h2⟩ := wk_len zs hq
  have h3 := wk_at (zs := zs ++ ps) (k := zs.length / (8 * q)) h (by rw [List.length_append]; omega)
  refine ⟨?_, h3.2⟩
  unfold wkF
  rw [h3.1]
  exact ent_mix hz hp h1
theorem wk_done {zs : List Int} {q : Nat} (hz : ∀ z ∈ zs, 0 ≤ z ∧ z ≤ 255) (h : zs.length % (8 * q) = 0) : wkF q zs = abN zs q (zs.length / (8 * q)) := by
  have h1 : 8 * q * (zs.length / (8 * q)) = zs.length := Nat.mul_div_cancel' (Nat.dvd_of_mod_eq_zero h)
  unfold wkF
  rw [h1]
  funext i
  unfold mix inW
  split
  · rw [lw_zero hz (.inr (by omega)), Nat.xor_zero]
  · rfl
/-- A piece that goes up to the block's end. -/
theorem wk_full {zs ps : List Int} {q : Nat} (hq : 0 < q) (hz : ∀ z ∈ zs, 0 ≤ z ∧ z ≤ 255) (hp : ∀ z ∈ ps, 0 ≤ z ∧ z ≤ 255) (h : zs.length % (8 * q) + ps.length = 8 * q) :
    pm tun mkf 24 (entF q (zs.length % (8 * q)) ps (wkF q zs)) = wkF q (zs ++ ps) ∧ (zs ++ ps).length % (8 * q) = 0 := by
  obtain ⟨h1, h2⟩ := wk_len zs hq
  have hs : 8 * q * (zs.length / (8 * q) + 1) = 8 * q * (zs.length / (8 * q)) + 8 * q := Nat.mul_succ _ _
  have h3 := wk_at (zs := zs ++ ps) (k := zs.length / (8 * q) + 1) (a := 0) (by omega : 0 < 8 * q) (by rw [List.length_append]; omega)
  refine ⟨?_, h3.2⟩
  rw [wk_done (fun z h => (List.mem_append.1 h).elim (hz z) (hp z)) h3.2, h3.1, abN, inB]
  unfold wkF
  rw [ent_mix hz hp h1]
theorem ent_w {q a : Nat} {ps : List Int} {f : Nat → Nat} (hf : W25 f) : W25 (entF q a ps f) := mix_w hf fun i hi => Nat.xor_lt_two_pow (hf i hi) (lw_at ps _).2
theorem wk_w (q : Nat) (zs : List Int) : W25 (wkF q zs) := mix_w (abN_w zs q _) (inW_w (abN_w zs q _))
theorem wk_nil (q : Nat) : wkF q [] = fun _ => 0 := by
  funext i
  have h : ∀ a : Int, 0 ≤ a → lwN [] a = 0 := fun a ha => lw_zero (by simp) (.inr (by simpa using ha))
  unfold wkF mix inW
  simp only [List.length_nil, Nat.zero_div, abN]
  split
  · rw [h _ (by omega)]; rfl
  · rfl
/-- What stands behind a message does not ask for its blocks. -/
theorem fill_drop (zs : List Int) {w : Nat} (mark : Int) : zs ++ (flL (List.replicate (zs.length % w) 0) w mark).drop (zs.length % w) = flL zs w mark := by
  have hm : cmis ((List.replicate (zs.length % w) (0 : Int)).length + 1) w = cmis (zs.length + 1) w := by
    rw [List.length_replicate]; unfold cmis; rw [Nat.mod_add_mod]
  obtain ⟨M, hM⟩ : ∃ M, cmis (zs.length + 1) w = M := ⟨_, rfl⟩
  rw [hM] at hm
  have key : ∀ xs : List Int, cmis (xs.length + 1) w = M → flL xs w mark = xs ++ ([mark] ++ List.replicate M 0).set M (top (nth ([mark] ++ List.replicate M 0) M)) := fun xs h => by
    have h0 : fl0 xs w mark = xs ++ ([mark] ++ List.replicate M 0) := by rw [fl0, h, List.append_assoc]
    have hl : (xs ++ ([mark] ++ List.replicate M (0 : Int))).length - 1 = xs.length + M := by simp
    have hn : nth (xs ++ ([mark] ++ List.replicate M (0 : Int))) (xs.length + M) = nth ([mark] ++ List.replicate M 0) M := by
      rw [nth_of (by simp), nth_of (by simp), List.getElem_append_right (by omega)]
      simp
    rw [flL, h0, hl, hn, List.set_append_right _ _ (Nat.le_add_right _ _)]
    simp
  rw [key zs hM, key _ hm, List.drop_append_of_le_length (by simp), List.drop_eq_nil_of_le (by simp)]
  rfl
end Go.Proofs.Ytfjgelialaccdaa
