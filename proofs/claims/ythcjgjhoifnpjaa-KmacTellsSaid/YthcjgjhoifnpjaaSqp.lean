import Derived.Test.YthcjgjhoifnpjaaProg
import Derived.Test.YthcjgjhoifnpjaaSpo
import Derived.Test.YthcjgjhoifnpjaaSpg
import Derived.Deep.MidRow
import Derived.Test.YthcjgjhoifnpjaaCod
import Derived.OrdersHeld
import Derived.Deep.RegionHeld3
set_option maxRecDepth 100000
/- Sponge at work: the state behind what was written so far, and how it goes on. No walk. -/
namespace Go.Proofs.Ythcjgjhoifnpjaa
open Go.RowKit

/-- A word's bytes, put together, as a number. -/
def sN (zs : List Int) (a : Int) : Nat → Nat
  | 0 => 0
  | k + 1 => sN zs a k + (byteAt zs (a + k)).toNat * 256 ^ k
theorem pow_256 (k : Nat) : 256 ^ k = 2 ^ (8 * k) := by rw [Nat.pow_mul]
theorem sN_sum {zs : List Int} (hz : ∀ z ∈ zs, (Lit.int .u8 z).wf = true) (a : Int) : ∀ k, sumTo zs a k = (sN zs a k : Int)
  | 0 => rfl
  | k + 1 => by
    have hb := byteAt_bd hz (a + k)
    rw [sumTo, sN, sN_sum hz a k, Int.natCast_add, Int.natCast_mul, Int.toNat_of_nonneg hb.1, Int.natCast_pow]
    rfl
theorem sN_lt {zs : List Int} (hz : ∀ z ∈ zs, (Lit.int .u8 z).wf = true) (a : Int) (k : Nat) : sN zs a k < 2 ^ (8 * k) := by
  have h := (sumTo_bd hz a k).2
  rw [sN_sum hz a k] at h
  rw [← pow_256]
  have : ((256 ^ k : Nat) : Int) = (256 : Int) ^ k := Int.natCast_pow 256 k
  omega
theorem lw_sN {zs : List Int} (hz : ∀ z ∈ zs, (Lit.int .u8 z).wf = true) (a : Int) : lwN zs a = sN zs a 8 := by
  rw [lwN, ← load_math hz a, ldTo_sum hz a 8 (Nat.le_refl _), sN_sum hz a 8]; rfl
theorem xor_parts (X Y x y k : Nat) (hX : X < 2 ^ k) (hY : Y < 2 ^ k) : (X + x * 2 ^ k) ^^^ (Y + y * 2 ^ k) = (X ^^^ Y) + (x ^^^ y) * 2 ^ k := by
  apply Nat.eq_of_testBit_eq
  intro i
  rw [Nat.testBit_xor, Nat.add_comm X, Nat.add_comm Y, Nat.add_comm (X ^^^ Y), Nat.mul_comm x, Nat.mul_comm y, Nat.mul_comm (x ^^^ y), Nat.testBit_two_pow_mul_add _ hX, Nat.testBit_two_pow_mul_add _ hY, Nat.testBit_two_pow_mul_add _ (Nat.xor_lt_two_pow hX hY)]
  by_cases h : i < k
  · rw [if_pos h, if_pos h, if_pos h, Nat.testBit_xor]
  · rw [if_neg h, if_neg h, if_neg h, Nat.testBit_xor]
theorem byte_app (zs ps : List Int) (p : Int) : (byteAt (zs ++ ps) p).toNat = (byteAt zs p).toNat ^^^ (byteAt ps (p - zs.length)).toNat := by
  by_cases h0 : 0 ≤ p
  · by_cases h1 : p < zs.length
    · rw [byteAt_out (zs := ps) (.inl (by omega)), byteAt_in h0 h1, byteAt_in h0 (by rw [List.length_append]; omega), nth_of (show p.toNat < zs.length by omega), nth_of (show p.toNat < (zs ++ ps).length by rw [List.length_append]; omega), List.getElem_append_left (show p.toNat < zs.length by omega)]
      simp
    · rw [byteAt_out (zs := zs) (.inr (by omega))]
      by_cases h2 : p < (zs.length + ps.length : Nat)
      · rw [byteAt_in h0 (by rw [List.length_append]; exact h2), byteAt_in (by omega) (by omega), nth_of (show p.toNat < (zs ++ ps).length by rw [List.length_append]; omega), nth_of (show (p - (zs.length : Int)).toNat < ps.length by omega), List.getElem_append_right (by omega)]
        have e : (p - (zs.length : Int)).toNat = p.toNat - zs.length := by omega
        simp [e]
      · rw [byteAt_out (.inr (by rw [List.length_append]; omega)), byteAt_out (.inr (by omega))]
        simp
  · rw [byteAt_out (.inl (by omega)), byteAt_out (.inl (by omega)), byteAt_out (.inl (by omega))]
    simp
theorem sN_app {zs ps : List Int} (hz : ∀ z ∈ zs, (Lit.int .u8 z).wf = true) (hp : ∀ z ∈ ps, (Lit.int .u8 z).wf = true) (a : Int) : ∀ k, sN (zs ++ ps) a k = sN zs a k ^^^ sN ps (a - zs.length) k
  | 0 => by simp [sN]
  | k + 1 => by
    rw [sN, sN, sN, sN_app hz hp a k, byte_app, pow_256, xor_parts _ _ _ _ _ (sN_lt hz a k) (sN_lt hp _ k), show a + (k : Int) - (zs.length : Int) = a - (zs.length : Int) + (k : Int) by omega]
theorem wf_bs {zs : List Int} (h : ∀ z ∈ zs, 0 ≤ z ∧ z ≤ 255) : ∀ z ∈ zs, (Lit.int .u8 z).wf = true := fun z hz => WalkArith.wf_u8 (h z hz)
theorem lw_app {zs ps : List Int} (hz : ∀ z ∈ zs, 0 ≤ z ∧ z ≤ 255) (hp : ∀ z ∈ ps, 0 ≤ z ∧ z ≤ 255) (a : Int) : lwN (zs ++ ps) a = lwN zs a ^^^ lwN ps (a - zs.length) := by
  have h : ∀ z ∈ zs ++ ps, 0 ≤ z ∧ z ≤ 255 := fun z h => (List.mem_append.1 h).elim (hz z) (hp z)
  rw [lw_sN (wf_bs h), lw_sN (wf_bs hz), lw_sN (wf_bs hp), sN_app (wf_bs hz) (wf_bs hp)]
theorem sN_zero {zs : List Int} {a : Int} : ∀ k, (∀ j : Nat, j < k → byteAt zs (a + j) = 0) → sN zs a k = 0
  | 0, _ => rfl
  | k + 1, h => by rw [sN, sN_zero k (fun j hj => h j (by omega)), h k (by omega)]; simp
theorem lw_zero {zs : List Int} (hz : ∀ z ∈ zs, 0 ≤ z ∧ z ≤ 255) {a : Int} (h : a ≤ -8 ∨ zs.length ≤ a) : lwN zs a = 0 := by
  rw [lw_sN (wf_bs hz)]
  exact sN_zero 8 fun j hj => byteAt_out (by omega)
theorem lw_pre {zs ps : List Int} (hz : ∀ z ∈ zs, 0 ≤ z ∧ z ≤ 255) (hp : ∀ z ∈ ps, 0 ≤ z ∧ z ≤ 255) {a : Int} (h : a + 8 ≤ zs.length) : lwN (zs ++ ps) a = lwN zs a := by
  rw [lw_app hz hp, lw_zero hp (.inl (by omega)), Nat.xor_zero]

/-- The words that piece ps, entered at byte a, turns. -/
def entF (q a : Nat) (ps : List Int) (f : Nat → Nat) : Nat → Nat := mix q f (fun i => f i ^^^ lwN ps (8 * (i : Int) - (a : Int)))
/-- The state when zs have been written. -/
def wkF (q : Nat) (zs : List Int) : Nat → Nat := mix q (abN zs q (zs.length / (8 * q))) (inW zs (8 * q * (zs.length / (8 * q))) (abN zs q (zs.length / (8 * q))))
theorem abN_pre {zs ps : List Int} {q : Nat} (hz : ∀ z ∈ zs, 0 ≤ z ∧ z ≤ 255) (hp : ∀ z ∈ ps, 0 ≤ z ∧ z ≤ 255) : ∀ B, 8 * q * B ≤ zs.length → abN (zs ++ ps) q B = abN zs q B
  | 0, _ => rfl
  | B + 1, h => by
    have h1 : 8 * q * (B + 1) = 8 * q * B + 8 * q := Nat.mul_succ _ _
    rw [abN, abN, abN_pre hz hp B (by omega), inB, inB]
    congr 1
    funext i
    unfold mix
    by_cases hi : i < q
    · rw [if_pos hi, if_pos hi, inW, inW, lw_pre hz hp (by omega)]
    · rw [if_neg hi, if_neg hi]
theorem ent_mix {zs ps : List Int} {q k a : Nat} (hz : ∀ z ∈ zs, 0 ≤ z ∧ z ≤ 255) (hp : ∀ z ∈ ps, 0 ≤ z ∧ z ≤ 255) (hl : zs.length = 8 * q * k + a) :
    entF q a ps (mix q (abN zs q k) (inW zs (8 * q * k) (abN zs q k))) = mix q (abN (zs ++ ps) q k) (inW (zs ++ ps) (8 * q * k) (abN (zs ++ ps) q k)) := by
  rw [abN_pre hz hp k (by omega)]
  funext i
  unfold entF mix
  by_cases hi : i < q
  · simp only [if_pos hi]
    rw [inW, inW, lw_app hz hp, Nat.xor_assoc, show (8 * (i : Int) - (a : Int)) = ((8 * q * k : Nat) : Int) + 8 * (i : Int) - (zs.length : Int) by omega]
  · simp only [if_neg hi]
theorem wk_at {zs : List Int} {q k a : Nat} (ha : a < 8 * q) (hl : zs.length = 8 * q * k + a) : zs.length / (8 * q) = k ∧ zs.length % (8 * q) = a := by
  rw [hl]
  exact ⟨by rw [Nat.mul_add_div (by omega), Nat.div_eq_of_lt ha, Nat.add_zero], by rw [Nat.mul_add_mod, Nat.mod_eq_of_lt ha]⟩
theorem wk_len (zs : List Int) {q : Nat} (hq : 0 < q) : zs.length = 8 * q * (zs.length / (8 * q)) + zs.length % (8 * q) ∧ zs.length % (8 * q) < 8 * q :=
  ⟨(Nat.div_add_mod _ _).symm, Nat.mod_lt _ (by omega)⟩
/-- A piece that is short of the block's end. -/
theorem wk_short {zs ps : List Int} {q : Nat} (hq : 0 < q) (hz : ∀ z ∈ zs, 0 ≤ z ∧ z ≤ 255) (hp : ∀ z ∈ ps, 0 ≤ z ∧ z ≤ 255) (h : zs.length % (8 * q) + ps.length < 8 * q) :
    entF q (zs.length % (8 * q)) ps (wkF q zs) = wkF q (zs ++ ps) ∧ (zs ++ ps).length % (8 * q) = zs.length % (8 * q) + ps.length := by
  obtain ⟨h1, h2⟩ := wk_len zs hq
  have h3 := wk_at (zs := zs ++ ps) (k := zs.length / (8 * q)) h (by rw [List.length_append]; omega)
  refine ⟨?_, h3.2⟩
  unfold wkF
  rw [h3.1]
  exact ent_mix hz hp h1
theorem wk_done {zs : List Int} {q : Nat} (hz : ∀ z ∈ zs, 0 ≤ z ∧ z ≤ 255) (h : zs.length % (8 * q) = 0) : wkF q zs = abN zs q (zs.length / (8 * q)) := by
  have h1 : 8 * q * (zs.length / (8 * q)) = zs.length := Nat.mul_div_cancel' (Nat.dvd_of_mod_eq_zero h)
  unfold wkF
  rw [h1]
  funext i
  unfold mix inW
  split
  · rw [lw_zero hz (.inr (by omega)), Nat.xor_zero]
  · rfl
/-- A piece that goes up to the block's end. -/
theorem wk_full {zs ps : List Int} {q : Nat} (hq : 0 < q) (hz : ∀ z ∈ zs, 0 ≤ z ∧ z ≤ 255) (hp : ∀ z ∈ ps, 0 ≤ z ∧ z ≤ 255) (h : zs.length % (8 * q) + ps.length = 8 * q) :
    pm tun mkf 24 (entF q (zs.length % (8 * q)) ps (wkF q zs)) = wkF q (zs ++ ps) ∧ (zs ++ ps).length % (8 * q) = 0 := by
  obtain ⟨h1, h2⟩ := wk_len zs hq
  have hs : 8 * q * (zs.length / (8 * q) + 1) = 8 * q * (zs.length / (8 * q)) + 8 * q := Nat.mul_succ _ _
  have h3 := wk_at (zs := zs ++ ps) (k := zs.length / (8 * q) + 1) (a := 0) (by omega : 0 < 8 * q) (by rw [List.length_append]; omega)
  refine ⟨?_, h3.2⟩
  rw [wk_done (fun z h => (List.mem_append.1 h).elim (hz z) (hp z)) h3.2, h3.1, abN, inB]
  unfold wkF
  rw [ent_mix hz hp h1]
theorem ent_w {q a : Nat} {ps : List Int} {f : Nat → Nat} (hf : W25 f) : W25 (entF q a ps f) := mix_w hf fun i hi => Nat.xor_lt_two_pow (hf i hi) (lw_at ps _).2
theorem wk_w (q : Nat) (zs : List Int) : W25 (wkF q zs) := mix_w (abN_w zs q _) (inW_w (abN_w zs q _))
theorem wk_nil (q : Nat) : wkF q [] = fun _ => 0 := by
  funext i
  have h : ∀ a : Int, 0 ≤ a → lwN [] a = 0 := fun a ha => lw_zero (by simp) (.inr (by simpa using ha))
  unfold wkF mix inW
  simp only [List.length_nil, Nat.zero_div, abN]
  split
  · rw [h _ (by omega)]; rfl
  · rfl
/-- What stands behind a message does not ask for its blocks. -/
theorem fill_drop (zs : List Int) {w : Nat} (mark : Int) : zs ++ (flL (List.replicate (zs.length % w) 0) w mark).drop (zs.length % w) = flL zs w mark := by
  have hm : cmis ((List.replicate (zs.length % w) (0 : Int)).length + 1) w = cmis (zs.length + 1) w := by
    rw [List.length_replicate]; unfold cmis; rw [Nat.mod_add_mod]
  obtain ⟨M, hM⟩ : ∃ M, cmis (zs.length + 1) w = M := ⟨_, rfl⟩
  rw [hM] at hm
  have key : ∀ xs : List Int, cmis (xs.length + 1) w = M → flL xs w mark = xs ++ ([mark] ++ List.replicate M 0).set M (top (nth ([mark] ++ List.replicate M 0) M)) := fun xs h => by
    have h0 : fl0 xs w mark = xs ++ ([mark] ++ List.replicate M 0) := by rw [fl0, h, List.append_assoc]
    have hl : (xs ++ ([mark] ++ List.replicate M (0 : Int))).length - 1 = xs.length + M := by simp
    have hn : nth (xs ++ ([mark] ++ List.replicate M (0 : Int))) (xs.length + M) = nth ([mark] ++ List.replicate M 0) M := by
      rw [nth_of (by simp), nth_of (by simp), List.getElem_append_right (by omega)]
      simp
    rw [flL, h0, hl, hn, List.set_append_right _ _ (Nat.le_add_right _ _)]
    simp
  rw [key zs hM, key _ hm, List.drop_append_of_le_length (by simp), List.drop_eq_nil_of_le (by simp)]
  rfl
end Go.Proofs.Ythcjgjhoifnpjaa

/- Sponge: a hash at work, cell by cell. -/
namespace Go.Proofs.Ythcjgjhoifnpjaa
open Go.RowKit

/-- The cells of a hash at work: its rate, its mark, the state, how far its block is filled, and whether it was read from. -/
def wc (R : Nat) (mk : Int) (F : Nat → Nat) (a : Nat) (r : Bool) (i : Nat) : Value :=
  if i = 0 then .int .i64 (R : Int) else if i = 1 then .int .u8 mk else if i < 27 then .int .u64 (F (i - 2) : Int) else if i = 27 then .int .i64 (a : Int) else .bool r
def wcs (R : Nat) (mk : Int) (F : Nat → Nat) (a : Nat) (r : Bool) : Array Value := ((List.range 29).map (wc R mk F a r)).toArray
/-- Block b holds it, whole. -/
def Wo (w : World) (b R : Nat) (mk : Int) (F : Nat → Nat) (a : Nat) (r : Bool) : Prop := w.heap[b]? = some (.cells (wcs R mk F a r) 72 (0, 0))
theorem wcs_get (R : Nat) (mk : Int) (F : Nat → Nat) (a : Nat) (r : Bool) {i : Nat} (h : i < 29) : (wcs R mk F a r)[i]? = some (wc R mk F a r i) := by simp [wcs, h]
theorem wcs_size (R : Nat) (mk : Int) (F : Nat → Nat) (a : Nat) (r : Bool) : (wcs R mk F a r).size = 29 := by simp [wcs]
theorem wcs_set {R R' : Nat} {mk mk' : Int} {F F' : Nat → Nat} {a a' : Nat} {r r' : Bool} {j : Nat} {v : Value} (h : ∀ i, i < 29 → (if i = j then v else wc R mk F a r i) = wc R' mk' F' a' r' i) :
    (wcs R mk F a r).setIfInBounds j v = wcs R' mk' F' a' r' := by
  apply Array.ext_getElem?
  intro i
  rw [Array.getElem?_setIfInBounds, wcs_size]
  by_cases hi : i < 29
  · rw [wcs_get _ _ _ _ _ hi, wcs_get _ _ _ _ _ hi, ← h i hi]
    by_cases e : j = i
    · subst e; rw [if_pos rfl, if_pos hi, if_pos rfl]
    · rw [if_neg e, if_neg (fun h => e h.symm)]
  · have h1 : (wcs R mk F a r)[i]? = none := by simp [wcs_size]; omega
    have h2 : (wcs R' mk' F' a' r')[i]? = none := by simp [wcs_size]; omega
    rw [h1, h2]
    by_cases e : j = i
    · rw [if_pos e, if_neg (by omega)]
    · rw [if_neg e]
section
variable {w w' : World} {b R : Nat} {mk : Int} {F : Nat → Nat} {a : Nat} {r : Bool}
theorem Wo.lt (h : Wo w b R mk F a r) : b < w.heap.size := (Array.getElem?_eq_some_iff.1 h).1
theorem Wo.cell (h : Wo w b R mk F a r) {i : Nat} (hi : i < 29) : w.cell? ⟨b, i, none⟩ = some (wc R mk F a r i) := by
  rw [cell_of_row w b i _ 72 (0, 0) h, wcs_get _ _ _ _ _ hi]
theorem Wo.rate (h : Wo w b R mk F a r) : w.cell? ⟨b, 0, none⟩ = some (.int .i64 (R : Int)) := h.cell (by decide)
theorem Wo.mark (h : Wo w b R mk F a r) : w.cell? ⟨b, 1, none⟩ = some (.int .u8 mk) := h.cell (by decide)
theorem Wo.word (h : Wo w b R mk F a r) {j : Nat} (hj : j < 25) : w.cell? ⟨b, 2 + j, none⟩ = some (.int .u64 (F j : Int)) := by
  rw [h.cell (i := 2 + j) (by omega)]
  unfold wc
  rw [if_neg (by omega), if_neg (by omega), if_pos (by omega), Nat.add_sub_cancel_left]
theorem Wo.at (h : Wo w b R mk F a r) : w.cell? ⟨b, 27, none⟩ = some (.int .i64 (a : Int)) := h.cell (by decide)
theorem Wo.done (h : Wo w b R mk F a r) : w.cell? ⟨b, 28, none⟩ = some (.bool r) := h.cell (by decide)
theorem Wo.free (h : Wo w b R mk F a r) (o : Nat) : w.frozen? ⟨b, o, none⟩ = false := frozen_of_row w b o _ 72 h
theorem Wo.setW (h : Wo w b R mk F a r) {j : Nat} (hj : j < 25) (z : Nat) : Wo (w.setCell ⟨b, 2 + j, none⟩ (.int .u64 (z : Int))) b R mk (upd F j z) a r := by
  unfold Wo
  rw [heap_setCell_same w b (2 + j) _ 72 _ h, wcs_set]
  intro i hi
  unfold wc upd
  by_cases e : i = 2 + j
  · rw [if_pos e, if_neg (by omega), if_neg (by omega), if_pos (by omega), if_pos (by omega)]
  · rw [if_neg e]
    by_cases h0 : i = 0
    · rw [if_pos h0, if_pos h0]
    by_cases h1 : i = 1
    · rw [if_neg h0, if_pos h1, if_neg h0, if_pos h1]
    by_cases h2 : i < 27
    · rw [if_neg h0, if_neg h1, if_pos h2, if_neg h0, if_neg h1, if_pos h2, if_neg (by omega)]
    · rw [if_neg h0, if_neg h1, if_neg h2, if_neg h0, if_neg h1, if_neg h2]
theorem Wo.setA (h : Wo w b R mk F a r) (a' : Nat) : Wo (w.setCell ⟨b, 27, none⟩ (.int .i64 (a' : Int))) b R mk F a' r := by
  unfold Wo
  rw [heap_setCell_same w b 27 _ 72 _ h, wcs_set]
  intro i hi
  unfold wc
  by_cases e : i = 27
  · subst e; simp
  · rw [if_neg e, if_neg e, if_neg e]
theorem Wo.setR (h : Wo w b R mk F a r) (r' : Bool) : Wo (w.setCell ⟨b, 28, none⟩ (.bool r')) b R mk F a r' := by
  unfold Wo
  rw [heap_setCell_same w b 28 _ 72 _ h, wcs_set]
  intro i hi
  unfold wc
  by_cases e : i = 28
  · subst e; simp
  · rw [if_neg e]
    by_cases h2 : i < 27
    · simp only [h2, if_true]
    · obtain rfl : i = 27 := by omega
      rfl
theorem Wo.ext {F' : Nat → Nat} (h : Wo w b R mk F a r) (e : ∀ j, j < 25 → F j = F' j) : Wo w b R mk F' a r := by
  unfold Wo at h ⊢
  rw [h]
  congr 2
  apply Array.ext_getElem?
  intro i
  by_cases hi : i < 29
  · rw [wcs_get _ _ _ _ _ hi, wcs_get _ _ _ _ _ hi]
    unfold wc
    by_cases h2 : i < 27
    · by_cases h0 : i < 2
      · rcases (show i = 0 ∨ i = 1 by omega) with rfl | rfl <;> rfl
      · rw [e (i - 2) (by omega)]
    · rw [if_neg h2, if_neg h2]
  · have h1 : (wcs R mk F a r)[i]? = none := by simp [wcs_size]; omega
    have h2 : (wcs R mk F' a r)[i]? = none := by simp [wcs_size]; omega
    rw [h1, h2]
theorem Wo.to (h : Wo w b R mk F a r) {F' : Nat → Nat} {a' : Nat} {r' : Bool} (e1 : F = F') (e2 : a = a') (e3 : r = r') : Wo w b R mk F' a' r' := by subst e1 e2 e3; exact h
theorem Wo.rowTo (g : Nat → Nat) : ∀ (k s : Nat) (w : World), s + k = 25 → Wo w b R mk (mix s F g) a r → Wo (w.setCells b (2 + s) ((List.range' s k).map fun i => Value.int .u64 (g i : Int))) b R mk (mix (s + k) F g) a r
  | 0, _, _, _, h => h
  | k + 1, s, w, hs, h => by
    rw [List.range'_succ, List.map_cons, World.setCells]
    have h1 := h.setW (j := s) (by omega) (g s)
    rw [mix_step s F g rfl] at h1
    have := Wo.rowTo g k (s + 1) _ (by omega) h1
    rw [show s + 1 + k = s + (k + 1) by omega] at this
    exact this
theorem wa_list (n : Nat) (g : Nat → Nat) : (wa n g).toList = (List.range' 0 n).map fun i => Value.int .u64 (g i : Int) := by rw [wa, ← List.range_eq_range']
theorem Wo.row (h : Wo w b R mk F a r) (g : Nat → Nat) : Wo (w.setCells b 2 (wa 25 g).toList) b R mk g a r := by
  rw [wa_list]
  have := Wo.rowTo (F := F) g 25 0 w rfl (by rw [mix_zero]; exact h)
  exact this.ext (mix_all (Nat.le_refl _))
theorem Wo.range (h : Wo w b R mk F a r) : w.rangeAt b 2 (wa 25 F).toList := fun j v hv => by
  have hj : j < 25 := by have := (List.getElem?_eq_some_iff.1 hv).1; rwa [Array.length_toList, wa_size] at this
  rw [Array.getElem?_toList, wa_get F hj] at hv
  rw [h.word hj]; exact hv
theorem Wo.there (h : Wo w b R mk F a r) : w.there b 2 25 := fun j hj => ⟨by rw [h.word hj]; rfl, h.free _⟩
theorem Wo.apart (h : Wo w b R mk F a r) {p : Addr} (hp : b ≠ p.block) (v : Value) : Wo (w.setCell p v) b R mk F a r := (heap_setCell_other w p b v hp).trans h
theorem Wo.alloc (h : Wo w b R mk F a r) (o : Obj) : Wo (w.alloc o) b R mk F a r := (heap_alloc_old w o h.lt).trans h
theorem Wo.drew (h : Wo w b R mk F a r) : Wo w.drew b R mk F a r := h
theorem Wo.self (h : Wo w b R mk F a r) (hb : Below w.heap.size w w') : Wo w' b R mk F a r := (hb.block b h.lt).trans h
end
theorem only_setCells (b : Nat) : ∀ (vs : List Value) (o : Nat) (w : World), Only b w (w.setCells b o vs)
  | [], _, w => Only.refl b w
  | v :: r, o, w => (Only.set w (p := ⟨b, o, none⟩) rfl v).trans (only_setCells b r (o + 1) _)
theorem wcs_new (q : Nat) (mk : Int) : wcs q mk (fun _ => 0) 0 false = #[.int .i64 (q : Int), .int .u8 mk, .int .u64 0, .int .u64 0, .int .u64 0, .int .u64 0, .int .u64 0, .int .u64 0, .int .u64 0, .int .u64 0, .int .u64 0, .int .u64 0, .int .u64 0, .int .u64 0, .int .u64 0, .int .u64 0, .int .u64 0, .int .u64 0, .int .u64 0, .int .u64 0, .int .u64 0, .int .u64 0, .int .u64 0, .int .u64 0, .int .u64 0, .int .u64 0, .int .u64 0, .int .i64 0, .bool false] := rfl
end Go.Proofs.Ythcjgjhoifnpjaa

/- Sponge: the program's small functions; a new hash at work; its state is permuted. -/
namespace Go.Proofs.Ythcjgjhoifnpjaa
open Go.RowKit
set_option maxRecDepth 100000

theorem srate_any (n : Int) (w : World) : Calls Try.prog 16 #[.int .i64 n] w fun e w' => e = .returned (.int .i64 (raN n)) ∧ w' = w := by
  by_cases h1 : n = 128
  · subst h1
    go_enter Try.func16, Try.ntmps16
    go_wp2
    go_ret
    exact ⟨rfl, rfl⟩
  by_cases h2 : n = 224
  · subst h2
    go_enter Try.func16, Try.ntmps16
    go_wp2
    go_ret
    exact ⟨rfl, rfl⟩
  by_cases h3 : n = 256
  · subst h3
    go_enter Try.func16, Try.ntmps16
    go_wp2
    go_ret
    exact ⟨rfl, rfl⟩
  by_cases h4 : n = 384
  · subst h4
    go_enter Try.func16, Try.ntmps16
    go_wp2
    go_ret
    exact ⟨rfl, rfl⟩
  by_cases h5 : n = 512
  · subst h5
    go_enter Try.func16, Try.ntmps16
    go_wp2
    go_ret
    exact ⟨rfl, rfl⟩
  · have e : raN n = 0 := by unfold raN; rw [if_neg h1, if_neg h2, if_neg h3, if_neg h4, if_neg h5]
    rw [e]
    go_enter Try.func16, Try.ntmps16
    go_wp2
    go_ret
    exact ⟨rfl, rfl⟩
theorem srate_i (n : Int) (w : World) : Calls Try.prog 16 #[.int .i64 n] w fun e w' => e = .returned (.int .i64 (raN n)) ∧ Below w.heap.size w w' :=
  (srate_any n w).mono (by rintro e w' ⟨rfl, rfl⟩; exact ⟨rfl, Below.refl _ _⟩)
theorem israte_any (n : Int) (w : World) : Calls Try.prog 56 #[.int .i64 n] w fun e w' => e = .returned (.bool (rad n)) ∧ w' = w := by
  by_cases h1 : 8 ≤ n
  · by_cases h2 : n ≤ 192
    · have e1 : n.tmod 8 = n % 8 := by rw [Int.tmod_eq_emod_of_nonneg (by omega)]
      by_cases h3 : n % 8 = 0
      · have e : rad n = true := decide_eq_true ⟨h1, h2, h3⟩
        rw [e]
        go_enter Try.func56, Try.ntmps56
        go_wp2
        go_ret
        exact ⟨rfl, rfl⟩
      · have e : rad n = false := decide_eq_false (fun h => h3 h.2.2)
        rw [e]
        go_enter Try.func56, Try.ntmps56
        go_wp2
        go_ret
        exact ⟨ret_bool (by simpa using h3), rfl⟩
    · have e : rad n = false := decide_eq_false (fun h => h2 h.2.1)
      rw [e]
      go_enter Try.func56, Try.ntmps56
      go_wp2
      go_ret
      exact ⟨rfl, rfl⟩
  · have e : rad n = false := decide_eq_false (fun h => h1 h.1)
    rw [e]
    go_enter Try.func56, Try.ntmps56
    go_wp2
    go_ret
    exact ⟨rfl, rfl⟩
/-- May so many bytes be asked for? -/
def canT (n : Int) : Bool := decide (0 ≤ n ∧ n ≤ 65536)
theorem cantell_any (n : Int) (w : World) : Calls Try.prog 45 #[.int .i64 n] w fun e w' => e = .returned (.bool (canT n)) ∧ w' = w := by
  by_cases h1 : 0 ≤ n
  · by_cases h2 : n ≤ 65536
    · have e : canT n = true := decide_eq_true ⟨h1, h2⟩
      rw [e]
      go_enter Try.func45, Try.ntmps45
      go_wp2
      go_ret
      exact ⟨rfl, rfl⟩
    · have e : canT n = false := decide_eq_false (fun h => h2 h.2)
      rw [e]
      go_enter Try.func45, Try.ntmps45
      go_wp2
      go_ret
      exact ⟨rfl, rfl⟩
  · have e : canT n = false := decide_eq_false (fun h => h1 h.1)
    rw [e]
    go_enter Try.func45, Try.ntmps45
    go_wp2
    go_ret
    exact ⟨rfl, rfl⟩
/-- Does a hash of that number tell as many bytes as are asked for? -/
def anyL (b : Int) : Bool := decide (b = 128 ∨ b = 256)
theorem anylen_any (n : Int) (w : World) : Calls Try.prog 37 #[.int .i64 n] w fun e w' => e = .returned (.bool (anyL n)) ∧ w' = w := by
  by_cases h1 : n = 128
  · subst h1
    go_enter Try.func37, Try.ntmps37
    go_wp2
    go_ret
    exact ⟨rfl, rfl⟩
  by_cases h2 : n = 256
  · subst h2
    go_enter Try.func37, Try.ntmps37
    go_wp2
    go_ret
    exact ⟨rfl, rfl⟩
  · have e : anyL n = false := decide_eq_false (by omega)
    rw [e]
    go_enter Try.func37, Try.ntmps37
    go_wp2
    go_ret
    exact ⟨ret_bool (by simp [h1, h2]), rfl⟩
section
variable {q b a : Nat} {mk : Int} {F : Nat → Nat} {r : Bool} {w : World}
theorem nobodys_any (h : Wo w b (8 * q) mk F a r) (hq : 1 ≤ q ∧ q ≤ 24) : Calls Try.prog 57 #[.pointer (some ⟨b, 0, none⟩)] w fun e w' => e = .returned (.bool false) ∧ w' = w := by
  have hr : rad ((8 * q : Nat) : Int) = true := decide_eq_true (by omega)
  have HI := hid (israte_any ((8 * q : Nat) : Int) w)
  rw [hr] at HI
  have c0 := h.rate
  clear h hr
  generalize 8 * q = R at *
  go_enter Try.func57, Try.ntmps57
  go_wp2_with (first | (go_at_call 56; (with_reducible refine (HI.out).mono ?_); rintro e w1 ⟨rfl, rfl⟩))
  go_ret
  exact ⟨rfl, rfl⟩
theorem built62 (q : Nat) (mk : Int) : Try.prog.built 72 [(0, .int .i64 (q : Int)), (1, .int .u8 mk)] = some (wcs q mk (fun _ => 0) 0 false) := by
  rw [wcs_new]
  kernel_rfl
theorem step_build_work (q : Nat) (mk : Int) {w : World} {ops : Array Oper} {rest : List Oper} {o : Oper} {a : Act} {Q : Exit → Act → World → Prop} (hgd : o.guard = none) (x y : Operand) (ho : o.op = .build 72 #[(0, x), (1, y)])
    (hx : a.eval x = .int .i64 (q : Int)) (hy : a.eval y = .int .u8 mk) (k : wpList Try.prog ops Q rest (a.put o.dst (.agg (wcs q mk (fun _ => 0) 0 false))) w) : wpList Try.prog ops Q (o :: rest) a w := by
  have e : ((#[(0, x), (1, y)] : Array (Nat × Operand)).map fun (i, x) => (i, a.eval x)).toList = [(0, .int .i64 (q : Int)), (1, .int .u8 mk)] := by simp [hx, hy]
  refine wpList_build hgd 72 #[(0, x), (1, y)] ho (by rw [e, built62]; rfl) ?_
  rw [e, built62]; exact k
theorem new_ok (q : Nat) (mk : Int) (w : World) (hq : 1 ≤ q ∧ q ≤ 24) : Calls Try.prog 46 #[.int .i64 ((8 * q : Nat) : Int), .int .u8 mk] w fun e w' =>
    e = .returned (.tuple #[.pointer (some ⟨w.heap.size, 0, none⟩), .int .i64 0]) ∧ Wo w' w.heap.size (8 * q) mk (fun _ => 0) 0 false ∧ Below w.heap.size w w' ∧ w'.heap.size = w.heap.size + 1 := by
  have hr : rad ((8 * q : Nat) : Int) = true := decide_eq_true (by omega)
  have HI := hid (israte_any ((8 * q : Nat) : Int) w)
  rw [hr] at HI
  clear hr
  generalize 8 * q = R at *
  go_enter Try.func46, Try.ntmps46
  go_wp2_with (first
    | (go_at_call 56; (with_reducible refine (HI.out).mono ?_); rintro e w1 ⟨rfl, rfl⟩)
    | (refine step_build_work R mk rfl _ _ rfl rfl rfl ?_; generalize hcs : wcs R mk (fun _ => 0) 0 false = cs; have HC := hid hcs; clear hcs))
  go_ret2
  have := heap_alloc_new w1 (.cells cs 72)
  exact ⟨rfl, by unfold Wo; rw [HC.out]; exact this, (Below.refl _ _).alloc (Nat.le_refl _) _, by simp⟩
theorem new_bad (n : Int) (mk : Int) (w : World) (hn : rad n = false) : Calls Try.prog 46 #[.int .i64 n, .int .u8 mk] w fun e w' => e = .returned (.tuple #[.pointer none, .int .i64 1]) ∧ w' = w := by
  have HI := hid (israte_any n w)
  rw [hn] at HI
  go_enter Try.func46, Try.ntmps46
  go_wp2_with (first
    | (go_at_call 56; (with_reducible refine (HI.out).mono ?_); rintro e w1 ⟨rfl, rfl⟩))
  go_ret2
  exact ⟨rfl, rfl⟩
theorem perm_any {R : Nat} (h : Wo w b R mk F a r) (hF : W25 F) : Calls Try.prog 67 #[.pointer (some ⟨b, 0, none⟩)] w fun e w' => (∃ v, e = .returned v) ∧ Wo w' b R mk (pm tun mkf 24 F) 0 r ∧ Only b w w' := by
  have HW := hid h
  have HP := hid (kpermute_any F w hF)
  have HR := hid h.range
  have HG := hid (h.there)
  clear h hF
  generalize pm tun mkf 24 F = G at *
  go_enter Try.func67, Try.ntmps67
  go_wp2_with (first
    | (refine wpList_load_mid rfl 54 _ rfl b 2 rfl (wa 25 F).toList _ HR.out Try.underlying54 rfl (by rw [Array.length_toList, wa_size]; exact kinf25) ?_; rw [Array.toArray_toList])
    | (go_at_call 72; (with_reducible refine (HP.out).mono ?_); rintro e w1 ⟨rfl, hl⟩; have HO := hid (Only.of_below (g := b) hl); have HW1 := hid (HW.out.self hl); clear hl)
    | (refine wpList_store_mid rfl 54 _ _ rfl b 2 (wa 25 G) rfl rfl (by rw [wa_size]; exact HW1.out.there) (by rw [wa_size]; exact kinf25) (wa_one 25 G) ?_; have HO2 := hid (HO.out.trans (only_setCells b (wa 25 G).toList 2 w1)); have HW2 := hid (HW1.out.row G); have c27 := HW2.out.at; have f27 := HW2.out.free 27; generalize w1.setCells b 2 (wa 25 G).toList = w2 at *))
  refine bodyPost_end (results_none rfl _ _ _) rfl ⟨⟨_, rfl⟩, HW2.out.setA 0, HO2.out.trans (Only.set (p := ⟨b, 27, none⟩) _ rfl _)⟩
end
end Go.Proofs.Ythcjgjhoifnpjaa

/- Sponge: Fill, and a state's first bytes, by the program. -/
namespace Go.Proofs.Ythcjgjhoifnpjaa
open Go.RowKit
set_option maxRecDepth 100000

/-- A block holds, whole, a row of bytes. -/
def Br (w : World) (g : Nat) (zs : List Int) : Prop := w.heap[g]? = some (.cells (zs.map (Value.int .u8)).toArray 5 (0, 0))
section
variable {w w' : World} {g : Nat} {zs : List Int}
theorem Br.made (w : World) (n : Nat) : Br (w.alloc (.cells (madeCells #[.int .u8 0] n) 5)) w.heap.size (List.replicate n 0) := by
  unfold Br
  rw [heap_alloc_new]
  congr 2
  apply Array.ext_getElem?
  intro i
  by_cases h : i < n
  · simp [madeCells, h, Nat.mod_one]
  · simp [madeCells, h]
theorem Br.cell (h : Br w g zs) {j : Nat} (hj : j < zs.length) : w.cell? ⟨g, j, none⟩ = some (.int .u8 (nth zs j)) := by
  rw [cell_of_row w g j _ 5 (0, 0) h, nth_of hj]
  simp [hj]
theorem Br.free (h : Br w g zs) (o : Nat) : w.frozen? ⟨g, o, none⟩ = false := frozen_of_row w g o _ 5 h
theorem Br.set (h : Br w g zs) (j : Nat) (z : Int) : Br (w.setCell ⟨g, j, none⟩ (.int .u8 z)) g (zs.set j z) := by
  unfold Br
  rw [heap_setCell_same w g j _ 5 _ h]
  simp
theorem Br.own {B n : Nat} (h : Br w g zs) (hB : B ≤ g) (hn : zs.length = n) (hm : n ≤ maxLen) : Own .u8 B 5 w (.slice (some ⟨g, 0, none⟩) n n) zs :=
  ⟨by simp, .inr ⟨g, n, _, by rw [hn], hB, h, by omega, hm, by simp [hn], by subst hn; simp [List.take_of_length_le]⟩⟩
end
/-- How long what is filled in is. -/
theorem fill_len (L : Nat) {R : Nat} (h : 0 < R) : (L / R + 1) * R = L + 1 + cmis (L + 1) R := by
  obtain ⟨k, a, ha, hL⟩ : ∃ k a, a < R ∧ L = R * k + a := ⟨L / R, L % R, Nat.mod_lt _ h, (Nat.div_add_mod L R).symm⟩
  have h1 : L / R = k := by rw [hL, Nat.mul_add_div h, Nat.div_eq_of_lt ha, Nat.add_zero]
  rw [h1, Nat.add_mul, Nat.mul_comm k R]
  unfold cmis
  by_cases e : a + 1 = R
  · have h2 : (L + 1) % R = 0 := by rw [hL, Nat.add_assoc, e]; simp
    rw [h2]; simp; omega
  · have h2 : (L + 1) % R = a + 1 := by rw [hL, Nat.add_assoc, Nat.mul_add_mod, Nat.mod_eq_of_lt (by omega)]
    rw [h2, Nat.mod_eq_of_lt (by omega : R - (a + 1) < R)]; omega
theorem copied_fill (zs : List Int) (mark : Int) (M : Nat) : ((splice (List.replicate (zs.length + 1 + M) (0 : Int)) 0 zs).set zs.length mark) = zs ++ [mark] ++ List.replicate M 0 := by
  rw [splice, List.take_zero, List.nil_append, Nat.zero_add, List.set_append_right _ _ (Nat.le_refl _), Nat.sub_self, List.drop_replicate, show zs.length + 1 + M - zs.length = M + 1 by omega, List.replicate_succ, List.set_cons_zero]
  simp
theorem splice_map {α β : Type} (f : α → β) (L : List α) (o : Nat) (cs : List α) : splice (L.map f) o (cs.map f) = (splice L o cs).map f := by simp [splice]
theorem splice_len (zs : List Int) (T : Nat) (h : zs.length ≤ T) : (splice (List.replicate T (0 : Int)) 0 zs).length = T := by simp [splice]; omega
theorem wpList_copy_head {w : World} {ops : Array Oper} {rest : List Oper} {o : Oper} {a : Act} {Q : Exit → Act → World → Prop} (hgd : o.guard = none) (d s : Operand) (ho : o.op = .call { callee := .builtin .copy, args := #[d, s], argTypes := #[22, 22] })
    (g T L cap : Nat) (p : Option Addr) (hd : a.eval d = .slice (some ⟨g, 0, none⟩) T T) (hs : a.eval s = .slice p L cap) (zd zs : List Int) (hB : Br w g zd) (hT : zd.length = T) (hsrc : Rd .u8 w (.slice p L cap) zs) (hle : L ≤ T)
    (B0 : Nat) (w0 : World) (hb : Below B0 w0 w) (hBg : B0 ≤ g) (h : ∀ w', Br w' g (splice zd 0 zs) → Below B0 w0 w' → wpList Try.prog ops Q rest (a.put o.dst (goInt L)) w') : wpList Try.prog ops Q (o :: rest) a w := by
  obtain ⟨sa, scap, e, _, _, hc⟩ := hsrc
  injection e with e1 e2 e3
  subst e1 e3
  refine wpList_copy_splice hgd d s 22 22 ho 5 Try.underlying22 (by kernel_rfl) _ _ T T L cap hd hs g 0 (zd.map (Value.int .u8)) 5 hB (zs.map (Value.int .u8)) (by rw [List.length_map, ← e2]; exact (Nat.min_eq_left hle).symm)
    (fun hp => ⟨rfl, ?_⟩) (by simp [hT, ← e2, hle]) (by intro v hv; obtain ⟨z, _, rfl⟩ := List.mem_map.1 hv; rfl) B0 w0 hb hBg (fun w' hg hb => ?_)
  · rw [List.length_map] at hp
    obtain ⟨b, off, e, _, hc⟩ := hc hp
    refine ⟨⟨b, off, none⟩, e, fun j v hj => ?_⟩
    rw [List.getElem?_map, Option.map_eq_some_iff] at hj
    obtain ⟨z, hz, rfl⟩ := hj
    obtain ⟨hj, rfl⟩ := List.getElem?_eq_some_iff.1 hz
    rw [Addr.add_mid, hc j hj, nth_of hj]
  · have h1 := h w' (by have := hg.out; rw [splice_map] at this; exact this) hb
    rw [List.length_map, ← e2]
    exact h1
theorem w64 (n : Nat) (h : n ≤ 200000) : wrap64 (n : Int) = (n : Int) := by unfold wrap64; omega
theorem fill_ok (v : Value) (zs : List Int) (R : Nat) (mark : Int) (w : World) (h : Rd .u8 w v zs) (hl : zs.length ≤ 100000) (hR : 1 ≤ R ∧ R ≤ 192) (hr : rad (R : Int) = true) (hm : 0 ≤ mark ∧ mark ≤ 255) :
    Calls Try.prog 68 #[v, .int .i64 (R : Int), .int .u8 mark] w fun e w' => ∃ u, e = .returned (.tuple #[u, .int .i64 0]) ∧ Own .u8 w.heap.size 5 w' u (flL zs R mark) ∧ Below w.heap.size w w' := by
  have HI := hid (israte_any (R : Int) w)
  rw [hr] at HI
  have hby := rd_bytes h
  have HR := hid h
  obtain ⟨L, hL⟩ : ∃ L, zs.length = L := ⟨_, rfl⟩
  obtain ⟨T, hT⟩ : ∃ T, (L / R + 1) * R = T := ⟨_, rfl⟩
  obtain ⟨d, hd⟩ : ∃ d, L / R = d := ⟨_, rfl⟩
  have hTM := fill_len L hR.1
  obtain ⟨M, hM⟩ : ∃ M, cmis (L + 1) R = M := ⟨_, rfl⟩
  have hMR : M < R := by rw [← hM]; exact mis_lt hR.1
  rw [hT, hM] at hTM
  rw [hd] at hT
  have hdl : d ≤ L := by rw [← hd]; exact Nat.div_le_self _ _
  have g0 : ¬ ((R : Int) = 0) := by omega
  have g1 : (L : Int).tdiv (R : Int) = (d : Int) := by rw [← hd]; rfl
  have g2 : (L : Int) / (R : Int) = (d : Int) := by rw [← hd]; rfl
  have hd3 : d ≤ 100000 ∧ T ≤ 101000 := ⟨by omega, by omega⟩
  have hd4 := hd3.1
  have hd5 := hd3.2
  have e7 : ((d : Int) + 1) * (R : Int) = (T : Int) := by rw [← hT, Int.natCast_mul]; rfl
  clear hd3
  have HT : Hid (T = L + 1 + M ∧ T ≤ 101000 ∧ L ≤ 100000) := hid ⟨hTM, by omega, by omega⟩
  have hmk := make_row T (by omega) w
  have HB0 := hid (Br.made w T)
  have HW0 : Hid (Below w.heap.size w (w.alloc (.cells (madeCells #[.int .u8 0] T) 5))) := hid ((Below.refl _ _).alloc (Nat.le_refl _) _)
  have HFl : Hid ((splice (List.replicate T (0 : Int)) 0 zs).set L mark = fl0 zs R mark) := hid (by rw [← hL, hTM, ← hL, copied_fill, fl0, hL, hM])
  have HLz := hid hL
  have HBy := hid hby
  have HFL : Hid ((fl0 zs R mark).length = T) := hid (by rw [fl0_len, hL, hM]; exact hTM.symm)
  have HBf := hid (fl0_bytes (rate := R) hby hm)
  have HSl := hid (splice_len zs T (by omega))
  obtain ⟨wa, hW⟩ : ∃ wa, w.alloc (.cells (madeCells #[.int .u8 0] T) 5) = wa := ⟨_, rfl⟩
  rw [hW] at hmk HB0 HW0
  have hsl := h.self HW0.out
  have HSR := hid hsl
  have HLe : Hid (L ≤ T) := hid (by omega)
  have HWa : Hid (w.heap.size < wa.heap.size) := hid (by rw [← hW]; simp)
  obtain ⟨a, cap, rfl, _⟩ := hsl
  rw [hL] at HR HSR ⊢
  have a1 : (0 : Int) ≤ (L : Int) := by omega
  have a2 : (L : Int) < (T : Int) := by omega
  obtain ⟨t, ht⟩ : ∃ t, T = t + 1 := ⟨L + M, by omega⟩
  have b1 : IntKind.i64.wrap ((T : Int) - 1) = (t : Int) := by rw [IntKind.wrap_i64]; omega
  have b2 : (0 : Int) ≤ (t : Int) := by omega
  have b3 : (t : Int) < (T : Int) := by omega
  have Ht := hid ht
  clear h hby hl hR hr hm hL hT hd hTM hM hMR hdl hW ht
  go_enter Try.func68, Try.ntmps68
  go_wp2_with (first
    | (go_at_call 56; (with_reducible refine (HI.out).mono ?_); rintro e w1 ⟨rfl, rfl⟩)
    | (refine wpList_copy_head rfl (.tmp 20) (.tmp 21) rfl w1.heap.size T L cap a rfl rfl _ zs HB0.out List.length_replicate HSR.out HLe.out w1.heap.size w1 HW0.out (Nat.le_refl _) ?_
       intro w2 hg hb2
       have HB2 := hid hg
       have HW2 := hid hb2
       have c1 := HB2.out.cell (j := L) (by rw [HSl.out]; have := HT.out; omega)
       have f1 := HB2.out.free L
       have HB3 : Hid (Br (w2.setCell ⟨w1.heap.size, L, none⟩ (.int .u8 mark)) w1.heap.size (fl0 zs R mark)) := hid (by rw [← HFl.out]; exact HB2.out.set L mark)
       have HW3 : Hid (Below w1.heap.size w1 (w2.setCell ⟨w1.heap.size, L, none⟩ (.int .u8 mark))) := hid (hb2.setCell (Nat.le_refl _) _)
       have c2 := HB3.out.cell (j := t) (by rw [HFL.out]; have := Ht.out; omega)
       have f2 := HB3.out.free t
       have HB4 := hid (HB3.out.set t (top (nth (fl0 zs R mark) t)))
       clear hg hb2))
  go_ret2
  have e : (fl0 zs R mark).set t (top (nth (fl0 zs R mark) t)) = flL zs R mark := by rw [flL, HFL.out, Ht.out, Nat.add_sub_cancel]
  exact ⟨_, rfl, by rw [← e]; exact HB4.out.own (Nat.le_refl _) (by rw [List.length_set, HFL.out]) (by have := HT.out; unfold maxLen; omega), HW3.out.setCell (Nat.le_refl _) _⟩
theorem sfill_i (v : Value) (zs : List Int) (rate mark : Int) (w : World) (h : Rd .u8 w v zs) (hl : zs.length ≤ 100000) (hm : 0 ≤ mark ∧ mark ≤ 255) :
    Calls Try.prog 68 #[v, .int .i64 rate, .int .u8 mark] w fun e w' => RdE w (fiL zs rate mark) (fiE rate) e w' := by
  by_cases h1 : rad rate = true
  · have hr := h1
    obtain ⟨q, rfl, h2, h3⟩ := rad_of h1
    rw [fiL, fiE, if_pos h1, if_pos h1, Int.toNat_natCast]
    refine (fill_ok v zs (8 * q) mark w h hl (by omega) hr hm).mono ?_
    rintro e w' ⟨u, rfl, ho, hb⟩
    have h4 := flL_len zs (8 * q) mark
    have h5 := mis_lt (n := zs.length + 1) (w := 8 * q) (by omega)
    exact ⟨u, rfl, ho.rd (by show _ * 1 ≤ _; omega) (fun z hz => WalkArith.wf_u8 (flL_bytes (rd_bytes h) hm z hz)), hb⟩
  · rw [fiL, fiE, if_neg h1, if_neg h1]
    have HI := hid (israte_any rate w)
    rw [rad_no h1] at HI
    clear h1 h
    go_enter Try.func68, Try.ntmps68
    go_wp2_with (first
      | (go_at_call 56; (with_reducible refine (HI.out).mono ?_); rintro e w1 ⟨rfl, rfl⟩))
    go_ret2
    exact ⟨_, rfl, rd_nil _, Below.refl _ _⟩
end Go.Proofs.Ythcjgjhoifnpjaa

/- Sponge: a state's first bytes, by the program. -/
namespace Go.Proofs.Ythcjgjhoifnpjaa
open Go.RowKit
set_option maxRecDepth 100000

theorem store8 (x : Nat) (hx : x < 2 ^ 64) (w : World) : Calls Try.prog 73 #[.int .u64 (x : Int), .int .i64 8] w fun e w' => CatP w (rsL (x : Int) 8) e w' := by
  have := store_any (x : Int) 8 w (by have : x < 18446744073709551616 := hx; omega)
  rw [show (min (max (8 : Int) 0) 8).toNat = 8 from rfl, store_math] at this
  exact this
/-- Room for n bytes, of which none is there. -/
theorem smake_room (w : World) (n : Nat) (hn : n ≤ 70368744177664) :
    (Instr.makeSlice 22 (.int .i64 0) (.int .i64 n)).run Try.prog w = .ok (.slice (some ⟨w.heap.size, 0, none⟩) 0 n) (w.alloc (.cells (madeCells #[.int .u8 0] n) 5)) := by
  obtain ⟨i0, hi, hz0, hz1, hz2⟩ := info_parts info8
  have := run_make (P := Try.prog) w 22 5 i0 _ Try.underlying22 hi hz0 .i64 .i64 0 n (by omega) (by omega) (by rw [hz2]; simp; omega) (by omega)
  rw [this]
  simp [hz1, Value.cells]
theorem sown_room (w : World) (n : Nat) (hn : n ≤ maxLen) : Own .u8 w.heap.size 5 (w.alloc (.cells (madeCells #[.int .u8 0] n) 5)) (.slice (some ⟨w.heap.size, 0, none⟩) 0 n) [] :=
  ⟨rfl, .inr ⟨w.heap.size, n, madeCells #[.int .u8 0] n, rfl, Nat.le_refl _, heap_alloc_new w _, Nat.zero_le _, hn, by simp [size_madeCells], by simp⟩⟩
set_option maxHeartbeats 1600000 in
theorem first_any (q : Nat) (F : Nat → Nat) (w : World) (hF : W25 F) (hq : 1 ≤ q ∧ q ≤ 24) : Calls Try.prog 70 #[.agg (wa 25 F), .int .i64 ((8 * q : Nat) : Int)] w fun e w' => CatP w (wdL F q) e w' := by
  obtain ⟨R, hR⟩ : ∃ R, 8 * q = R := ⟨_, rfl⟩
  rw [hR]
  have g1 : (R : Int).tdiv 8 = (q : Int) := by rw [Int.tdiv_eq_ediv_of_nonneg (by omega)]; omega
  have g2 : (R : Int) / 8 = (q : Int) := by omega
  have hA : Aw (w.alloc (.cells (wa 25 F) 54)) w.heap.size 25 54 F := Aw.new w 25 54 F
  have HA := hid hA
  have hmk := smake_room (w.alloc (.cells (wa 25 F) 54)) R (by omega)
  rw [World.size_alloc] at hmk
  have HQ := hid hq
  have hq24 : (q : Int) ≤ 25 := by omega
  have HF := hid hF
  have HSt := hid (fun (x : Nat) (w : World) (h : x < 2 ^ 64) => store8 x h w)
  have HI0 : Hid (SmI w ((w.alloc (.cells (wa 25 F) 54)).alloc (.cells (madeCells #[.int .u8 0] R) 5)) (.slice (some ⟨w.heap.size + 1, 0, none⟩) 0 R) (wdL F 0) F) := hid
    ⟨hA.alloc _, by have := sown_room (w.alloc (.cells (wa 25 F) 54)) R (by unfold maxLen; omega); rw [World.size_alloc] at this; exact this, ((Below.refl _ _).alloc (Nat.le_refl _) _).alloc (by simp) _⟩
  clear hA hF hq hR
  go_enter Try.func70, Try.ntmps70
  go_wp2
  clear hmk
  go_loopw [5, 14] (fun o k wr => ∃ K : Nat, K ≤ q ∧ k = .int .i64 K ∧ SmI w wr o (wdL F K) F) (fun _ k _ => q - (intOf k).toNat)
  case atStart => exact ⟨0, Nat.zero_le _, rfl, HI0.out⟩
  case round =>
    obtain ⟨K, hK, rfl, hI⟩ := hrel
    have HJ := hid hI
    clear hI HI0
    by_cases hlt : K < q
    · have c1 := HJ.out.var.cell (j := K) (by have := HQ.out; omega)
      have b1 := HF.out K (by have := HQ.out; omega)
      have HS8 := hid (HSt.out (F K) wr b1)
      have HMo := hid (fun w3 w' v' ho hl hl2 => SmI.more (L := []) (K := K) (w3 := w3) (w' := w') (v' := v') HJ.out ho hl hl2)
      simp only [List.nil_append] at HMo
      have HLim : Hid (((wdL F K).length + (rsL (F K : Int) 8).length) * (IntKind.u8.bits / 8) ≤ 140737488355328) := hid (by
        rw [wdL_len, rsL_len]
        have := HQ.out
        show (_ + _) * 1 ≤ _
        omega)
      have HR8 : Hid ((rsL (F K : Int) 8).length = 8 ∧ ∀ z ∈ rsL (F K : Int) 8, (Lit.int .u8 z).wf = true) := hid ⟨rsL_len _ 8, fun z hz => WalkArith.wf_u8 (rsL_bytes (by omega) 8 z hz)⟩
      generalize rsL (F K : Int) 8 = r8 at *
      generalize F K = s1 at *
      have n2 : (K : Int) < 25 := by have := HQ.out; omega
      have n3 : (0 : Int) ≤ (K : Int) := by omega
      have n4 : (K : Int) < (q : Int) := by omega
      have HKq : Hid (K < q) := hid hlt
      have HB1 : Hid (w.heap.size + 1 ≤ wr.heap.size) := hid HJ.out.var.lt
      clear hlt hK b1
      go_wp2_with (first
        | (go_at_call 73; (with_reducible refine (HS8.out).mono ?_); rintro e w3 ⟨v3, rfl, ho, hl⟩; have HO3 : Hid (Rd .u8 w3 v3 r8) := hid (ho.rd (by rw [HR8.out.1]; decide) HR8.out.2); have HJ3 := hid (own_up HJ.out.row hl); have HL3 := hid hl; clear ho hl)
        | (at_builtin; refine wpList_append_rd rfl (.tmp 18) (.tmp 20) 22 rfl .u8 (w.heap.size + 1) 5 Try.underlying22 cinfob (by decide) _ _ rfl HJ3.out _ _ rfl HO3.out HLim.out (Nat.le_trans HB1.out HL3.out.size) (w.heap.size + 1) w3 (Below.refl _ _) (Nat.le_refl _) ?_; intro v4 w4 hown hlow _; have HJ4 := hid (HMo.out w3 w4 v4 hown HL3.out hlow); clear hown hlow))
      go_roundw
      case rel => exact ⟨K + 1, HKq.out, by go_num, HJ4.out⟩
      case measure => have := HKq.out; simp [intOf]; omega
    · obtain rfl : K = q := by omega
      have n3 : ¬ (K : Int) < (K : Int) := by omega
      go_wp2
      go_ret
      exact ⟨_, rfl, own_base HJ.out.row (Nat.le_succ _), HJ.out.low⟩
end Go.Proofs.Ythcjgjhoifnpjaa

/- Sponge: a piece is entered. -/
namespace Go.Proofs.Ythcjgjhoifnpjaa
open Go.RowKit
set_option maxRecDepth 100000

/-- On the way through the words: K of them have been turned. -/
structure Ei (w : World) (b R : Nat) (mk : Int) (F G : Nat → Nat) (a : Nat) (r : Bool) (K : Nat) (wr : World) : Prop where
  obj : Wo wr b R mk (mix K F G) a r
  low : Only b w wr
theorem Ei.step {w wr : World} {b R a K : Nat} {mk : Int} {F G : Nat → Nat} {r : Bool} (h : Ei w b R mk F G a r K wr) (hK : K < 25) {v : Int} {z : Nat} (hv : v = (z : Int)) (hz : z = G K) :
    Ei w b R mk F G a r (K + 1) (wr.setCell ⟨b, 2 + K, none⟩ (.int .u64 v)) := by
  subst hv
  refine ⟨?_, h.low.trans (Only.set (p := ⟨b, 2 + K, none⟩) _ rfl _)⟩
  rw [← mix_step K F G hz]
  exact h.obj.setW hK z
theorem Ei.drew {w wr : World} {b R a K : Nat} {mk : Int} {F G : Nat → Nat} {r : Bool} (h : Ei w b R mk F G a r K wr) : Ei w b R mk F G a r K wr.drew := ⟨h.obj.drew, h.low.drew⟩
/-- How a piece leaves a hash at work. -/
def EnP (w : World) (b q a : Nat) (mk : Int) (F : Nat → Nat) (r : Bool) (ps : List Int) (e : Ending) (w' : World) : Prop :=
  (∃ v, e = .returned v) ∧ Only b w w' ∧ (a + ps.length < 8 * q → Wo w' b (8 * q) mk (entF q a ps F) (a + ps.length) r) ∧ (a + ps.length = 8 * q → Wo w' b (8 * q) mk (pm tun mkf 24 (entF q a ps F)) 0 r)
set_option maxHeartbeats 1600000 in
theorem enter_any (b q a : Nat) (mk : Int) (F : Nat → Nat) (r : Bool) (v : Value) (ps : List Int) (w : World) (hW : Wo w b (8 * q) mk F a r) (hF : W25 F) (hq : 1 ≤ q ∧ q ≤ 24) (hk : Kept b w v ps) (ha : a + ps.length ≤ 8 * q) :
    Calls Try.prog 59 #[.pointer (some ⟨b, 0, none⟩), v] w fun e w' => EnP w b q a mk F r ps e w' := by
  have HL : Hid (∀ W, Only b w W → ∀ d : Int, -1000 ≤ d ∧ d ≤ 1000 → Calls Try.prog 66 #[v, .int .i64 d] W fun e w' => e = .returned (.int .u64 (lwN ps d : Nat)) ∧ w' = W) := hid fun W hW d hd => by
    have h := hk W hW
    have := load_any v ps d W h (by omega) (by omega)
    rw [load_math (wfs_of h), (lw_at ps d).1] at this
    exact this
  have HEn : Hid (entF q a ps F = mix q F (fun i => F i ^^^ lwN ps (8 * (i : Int) - (a : Int)))) := hid rfl
  have HEw := hid (ent_w (q := q) (a := a) (ps := ps) hF)
  unfold EnP
  obtain ⟨R, hR⟩ : ∃ R, 8 * q = R := ⟨_, rfl⟩
  rw [hR] at hW ha ⊢
  obtain ⟨cap, p, rfl⟩ : ∃ cap p, v = .slice p ps.length cap := by obtain ⟨p, cap, e, _⟩ := hk.rd; exact ⟨cap, p, e⟩
  obtain ⟨L, hL⟩ : ∃ L, ps.length = L := ⟨_, rfl⟩
  rw [hL] at HL ha ⊢
  obtain ⟨G, hG⟩ : ∃ G : Nat → Nat, G = (fun i => F i ^^^ lwN ps (8 * (i : Int) - (a : Int))) := ⟨_, rfl⟩
  have HG := hid hG
  rw [← hG] at HEn
  have HI0 : Hid (Ei w b R mk F G a r 0 w) := hid ⟨by rw [mix_zero]; exact hW, Only.refl _ _⟩
  obtain ⟨E, hE⟩ : ∃ E, entF q a ps F = E := ⟨_, rfl⟩
  rw [hE] at HEn HEw ⊢
  clear hE
  obtain ⟨a2, ha2⟩ : ∃ a2, a + L = a2 := ⟨_, rfl⟩
  rw [ha2] at ha ⊢
  have g1 : (R : Int).tdiv 8 = (q : Int) := by rw [Int.tdiv_eq_ediv_of_nonneg (by omega)]; omega
  have g2 : (R : Int) / 8 = (q : Int) := by omega
  have hq24 : (q : Int) ≤ 24 := by omega
  have HQ := hid hq
  have HA2 := hid ha2
  have HA : Hid (a2 ≤ R ∧ R = 8 * q ∧ R ≤ 192) := hid ⟨ha, hR.symm, by omega⟩
  have HF := hid hF
  have c0 := hW.rate
  clear hk hR hL hF hW ha hq hG ha2
  go_enter Try.func59, Try.ntmps59
  go_wp2
  clear c0
  go_loopw [10] (fun k wr => ∃ K : Nat, K ≤ q ∧ k = .int .i64 K ∧ Ei w b R mk F G a r K wr) (fun k _ => q - (intOf k).toNat)
  case atStart => exact ⟨0, Nat.zero_le _, rfl, HI0.out⟩
  case round =>
    obtain ⟨K, hK, rfl, hI⟩ := hrel
    have HJ := hid hI
    clear hI HI0
    by_cases hlt : K < q
    · obtain ⟨k8, hk8⟩ : ∃ k8, K * 8 = k8 := ⟨_, rfl⟩
      obtain ⟨d, hd⟩ : ∃ d : Int, (k8 : Int) - (a : Int) = d := ⟨_, rfl⟩
      have e1 : IntKind.i64.wrap ((K : Int) * 8) = (k8 : Int) := by rw [IntKind.wrap_i64]; omega
      have hdb : -1000 ≤ d ∧ d ≤ 1000 := by have := HA.out; have := HA2.out; omega
      have e2 : IntKind.i64.wrap ((k8 : Int) - (a : Int)) = d := by rw [IntKind.wrap_i64]; omega
      have HLD := hid (HL.out wr.drew HJ.out.drew.low d hdb)
      have c1 := HJ.out.drew.obj.word (j := K) (by omega)
      rw [mix_here] at c1
      have f1 := HJ.out.drew.obj.free (2 + K)
      have c2 := HJ.out.drew.obj.at
      have b1 := HF.out K (by omega)
      have b2 := (lw_at ps d).2
      have HX := hid (x64 b1 b2)
      have HGK : Hid (F K ^^^ lwN ps d = G K) := hid (by rw [HG.out]; show F K ^^^ lwN ps d = F K ^^^ lwN ps (8 * (K : Int) - (a : Int)); rw [show 8 * (K : Int) - (a : Int) = d by omega])
      have HT := hid (fun v z hv hz => HJ.out.drew.step (K := K) (by omega) (v := v) (z := z) hv hz)
      generalize lwN ps d = s2 at *
      generalize F K = s1 at *
      have n1 : (K : Int) < 25 := by omega
      have n2 : (0 : Int) ≤ (K : Int) := by omega
      have n3 : (K : Int) < (q : Int) := by omega
      have HKq : Hid (K < q) := hid hlt
      clear hk8 hd hdb hlt hK b1 b2
      go_wp2
      refine region_tail 19 (by kernel_rfl) (by kernel_rfl) ?_
      simp only [List.take_succ_cons, List.take_zero, List.drop_succ_cons, List.drop_zero]
      generalize wr.drew = w2 at *
      repeat still_step
      still_call (HLD.out)
      repeat still_step
      refine wpStill_nil ?_
      go_wp2
      go_roundw
      case rel => exact ⟨K + 1, HKq.out, by go_num, HT.out _ _ HX.out HGK.out⟩
      case measure => have := HKq.out; simp [intOf]; omega
    · obtain rfl : K = q := by omega
      have n3 : ¬ (K : Int) < (K : Int) := by omega
      have hm := HA.out
      have e3 : IntKind.i64.wrap ((a : Int) + (L : Int)) = (a2 : Int) := by rw [IntKind.wrap_i64]; have := HA2.out; omega
      have c27 := HJ.out.obj.at
      have f27 := HJ.out.obj.free 27
      have HO : Hid (Wo (wr.setCell ⟨b, 27, none⟩ (.int .i64 (a2 : Int))) b R mk E a2 r ∧ Only b w (wr.setCell ⟨b, 27, none⟩ (.int .i64 (a2 : Int)))) := hid
        ⟨by rw [HEn.out]; exact HJ.out.obj.setA a2, HJ.out.low.trans (Only.set (p := ⟨b, 27, none⟩) _ rfl _)⟩
      have hle := hm.1
      clear HJ hK hlt hm
      go_wp2
      clear c27 f27
      generalize wr.setCell ⟨b, 27, none⟩ (.int .i64 (a2 : Int)) = w2 at *
      have c0 := HO.out.1.rate
      have c27 := HO.out.1.at
      by_cases he : a2 = R
      · have he2 : (a2 : Int) = (R : Int) := by omega
        have HE := hid he
        clear he
        go_region
        have HP := hid (perm_any (HO.out.1.drew) HEw.out)
        have HD := hid HO.out.2.drew
        go_wp2_with (first
          | (go_at_call 67; (with_reducible refine (HP.out).mono ?_); rintro e w3 ⟨⟨v3, rfl⟩, h3, h4⟩; have HO3 := hid h3; have HL3 := hid (HD.out.trans h4); clear h3 h4))
        exact bodyPost_end (results_none rfl _ _ _) rfl ⟨⟨_, rfl⟩, HL3.out, fun h => absurd HE.out (Nat.ne_of_lt h), fun _ => HO3.out⟩
      · have he2 : ¬ ((a2 : Int) = (R : Int)) := by omega
        have HE := hid he
        clear he
        go_region
        go_wp2
        exact bodyPost_end (results_none rfl _ _ _) rfl ⟨⟨_, rfl⟩, HO.out.2.drew, fun _ => HO.out.1.drew, fun h => absurd h HE.out⟩
end Go.Proofs.Ythcjgjhoifnpjaa

/- Sponge: what stands behind a message is filled in. -/
namespace Go.Proofs.Ythcjgjhoifnpjaa
open Go.RowKit
set_option maxRecDepth 100000

theorem kept_ownL {b B : Nat} {w : World} {v : Value} {zs : List Int} (h : Own .u8 B 5 w v zs) (hb : b < B) (hn : zs.length ≤ 1000000) (hz : ∀ z ∈ zs, 0 ≤ z ∧ z ≤ 255) : Kept b w v zs := fun W hW =>
  (own_frame h fun j hj hl => hW.block j hl (by omega)).rd (by show _ * 1 ≤ _; omega) (fun z hm => WalkArith.wf_u8 (hz z hm))
theorem kept_sub {b g off L c k m : Nat} {w : World} {p : Option Addr} {q : Nat} {zs : List Int} (h : Kept b w (.slice (some ⟨g, off, none⟩) L c) zs) (hq : q + m ≤ L) (hp : 0 < m → p = some ⟨g, off + q, none⟩) : Kept b w (.slice p m k) ((zs.drop q).take m) :=
  fun W hW => rd_sub (h W hW) hq hp
/-- What is laid behind, and where it ends. -/
theorem tail_len (a : Nat) {R : Nat} (mk : Int) (h : a < R) : (flL (List.replicate a 0) R mk).length = R := by
  have h1 := fill_len a (R := R) (by omega)
  rw [Nat.div_eq_of_lt h] at h1
  rw [flL_len, List.length_replicate]; omega
set_option maxHeartbeats 1600000 in
theorem end_any (b q : Nat) (mk : Int) (zs : List Int) (w : World) (hW : Wo w b (8 * q) mk (wkF q zs) (zs.length % (8 * q)) false) (hq : 1 ≤ q ∧ q ≤ 24) (hm : 0 ≤ mk ∧ mk ≤ 255) (hz : ∀ z ∈ zs, 0 ≤ z ∧ z ≤ 255) :
    Calls Try.prog 60 #[.pointer (some ⟨b, 0, none⟩)] w fun e w' => (∃ v, e = .returned v) ∧ Only b w w' ∧ Wo w' b (8 * q) mk (wkF q (flL zs (8 * q) mk)) 0 true := by
  have hfd := fill_drop zs (w := 8 * q) mk
  have hlt : zs.length % (8 * q) < 8 * q := Nat.mod_lt _ (by omega)
  have hr : rad ((8 * q : Nat) : Int) = true := decide_eq_true (by omega)
  have hfull := fun (ps : List Int) hp h => (wk_full (q := q) (zs := zs) (ps := ps) (by omega) hz hp h).1
  have HEn := hid (fun (v : Value) (ps : List Int) (w : World) h1 h2 h3 => enter_any b q (zs.length % (8 * q)) mk (wkF q zs) true v ps w h1 (wk_w q zs) hq h2 h3)
  obtain ⟨F, hF⟩ : ∃ F, wkF q zs = F := ⟨_, rfl⟩
  obtain ⟨a, ha⟩ : ∃ a, zs.length % (8 * q) = a := ⟨_, rfl⟩
  rw [hF, ha] at hW HEn hfull
  rw [ha] at hfd hlt
  obtain ⟨G, hG⟩ : ∃ G, wkF q (flL zs (8 * q) mk) = G := ⟨_, rfl⟩
  have HG := hid hG
  rw [hG]
  have HTl := hid (tail_len a (R := 8 * q) mk hlt)
  obtain ⟨xs, hxs⟩ : ∃ xs, flL (List.replicate a 0) (8 * q) mk = xs := ⟨_, rfl⟩
  have hxb : ∀ z ∈ xs, 0 ≤ z ∧ z ≤ 255 := by rw [← hxs]; exact flL_bytes (fun z h => by rw [(List.mem_replicate.1 h).2]; decide) hm
  have HFi : Hid (∀ (v : Value) (w : World), Rd .u8 w v (List.replicate a 0) → Calls Try.prog 68 #[v, .int .i64 ((8 * q : Nat) : Int), .int .u8 mk] w fun e w' => ∃ p c, e = .returned (.tuple #[.slice p (8 * q) c, .int .i64 0]) ∧ Own .u8 w.heap.size 5 w' (.slice p (8 * q) c) xs ∧ Below w.heap.size w w') :=
    hid fun v w h => (fill_ok v _ (8 * q) mk w h (by rw [List.length_replicate]; omega) (by omega) hr hm).mono (by
      rintro e w' ⟨u, rfl, ho, hb⟩
      rw [hxs] at ho
      obtain ⟨p, c, rfl, _⟩ := ho.slice
      have e : xs.length = 8 * q := by rw [← hxs]; exact HTl.out
      rw [e] at ho ⊢
      exact ⟨p, c, rfl, ho, hb⟩)
  rw [hxs] at hfd HTl
  have HX : Hid (zs ++ xs.drop a = flL zs (8 * q) mk ∧ (∀ z ∈ xs, 0 ≤ z ∧ z ≤ 255) ∧ a < 8 * q ∧ 8 * q ≤ 192) := hid ⟨hfd, hxb, hlt, by omega⟩
  have HFu := hid hfull
  clear hfd hlt hr hfull hF ha hG hxs hxb hz hm
  have HQ := hid hq
  obtain ⟨R, hR⟩ : ∃ R, 8 * q = R := ⟨_, rfl⟩
  rw [hR] at hW HEn HTl HFi HX HFu HG ⊢
  have HR8 := hid hR
  have c28 := hW.done
  have f28 := hW.free 28
  have HW1 : Hid (Wo (w.setCell ⟨b, 28, none⟩ (.bool true)) b R mk F a true ∧ Only b w (w.setCell ⟨b, 28, none⟩ (.bool true))) := hid ⟨hW.setR true, Only.set (p := ⟨b, 28, none⟩) _ rfl _⟩
  have hmk := fun w => make_row a (by have := HX.out; omega) w
  clear hq hR hW
  go_enter Try.func60, Try.ntmps60
  go_wp2
  clear c28 f28
  generalize w.setCell ⟨b, 28, none⟩ (.bool true) = w2 at *
  have HD : Hid (Wo w2.drew b R mk F a true ∧ Only b w w2.drew) := hid ⟨HW1.out.1.drew, HW1.out.2.drew⟩
  clear HW1
  refine wp_region_noPanic ?_
  refine wp_region_held_drew (S := fun w' => Wo w' b R mk F a true) (by kernel_rfl) (HD.out.1) (fun h0 => ?_)
  generalize w2.drew = w3 at *
  refine wpAnyH_take (i := 0) (v := .pointer (some ⟨b, 0, none⟩)) rfl (by kernel_rfl) (by kernel_rfl) (by kernel_rfl) (fun _ _ _ h => h) (.inl ⟨by rfl, fun w hw => by clear hw; go_simp⟩) h0 ?_
  try simp only [Act.put, lay_out]
  refine wpAnyH_take (i := 1) (v := .pointer (some ⟨b, 0, none⟩)) rfl (by kernel_rfl) (by kernel_rfl) (by kernel_rfl) (fun _ _ _ h => h) (.inl ⟨by rfl, fun w hw => by clear hw; go_simp⟩) h0 ?_
  try simp only [Act.put, lay_out]
  refine wpAnyH_take (i := 2) (v := .pointer (some ⟨b, 27, none⟩)) rfl (by kernel_rfl) (by kernel_rfl) (by kernel_rfl) (fun _ _ _ h => h) (.inl ⟨by rfl, fun w hw => by clear hw; go_simp⟩) h0 ?_
  try simp only [Act.put, lay_out]
  refine wpAnyH_take (i := 3) (v := .int .i64 (a : Int)) rfl (by kernel_rfl) (by kernel_rfl) (by kernel_rfl) (fun _ _ _ h => h) (.inl ⟨by rfl, fun w hw => by have hc0 := hw.at; clear hw; go_simp⟩) h0 ?_
  try simp only [Act.put, lay_out]
  refine wpAnyH_take (i := 5) (v := .pointer (some ⟨b, 0, none⟩)) rfl (by kernel_rfl) (by kernel_rfl) (by kernel_rfl) (fun _ _ _ h => h) (.inl ⟨by rfl, fun w hw => by clear hw; go_simp⟩) h0 ?_
  try simp only [Act.put, lay_out]
  refine wpAnyH_take (i := 6) (v := .pointer (some ⟨b, 0, none⟩)) rfl (by kernel_rfl) (by kernel_rfl) (by kernel_rfl) (fun _ _ _ h => h) (.inl ⟨by rfl, fun w hw => by clear hw; go_simp⟩) h0 ?_
  try simp only [Act.put, lay_out]
  refine wpAnyH_take (i := 7) (v := .pointer (some ⟨b, 0, none⟩)) rfl (by kernel_rfl) (by kernel_rfl) (by kernel_rfl) (fun _ _ _ h => h) (.inl ⟨by rfl, fun w hw => by clear hw; go_simp⟩) h0 ?_
  try simp only [Act.put, lay_out]
  refine wpAnyH_take (i := 8) (v := .int .i64 (R : Int)) rfl (by kernel_rfl) (by kernel_rfl) (by kernel_rfl) (fun _ _ _ h => h) (.inl ⟨by rfl, fun w hw => by have hc0 := hw.rate; clear hw; go_simp⟩) h0 ?_
  try simp only [Act.put, lay_out]
  refine wpAnyH_take (i := 9) (v := .pointer (some ⟨b, 0, none⟩)) rfl (by kernel_rfl) (by kernel_rfl) (by kernel_rfl) (fun _ _ _ h => h) (.inl ⟨by rfl, fun w hw => by clear hw; go_simp⟩) h0 ?_
  try simp only [Act.put, lay_out]
  refine wpAnyH_take (i := 10) (v := .pointer (some ⟨b, 0, none⟩)) rfl (by kernel_rfl) (by kernel_rfl) (by kernel_rfl) (fun _ _ _ h => h) (.inl ⟨by rfl, fun w hw => by clear hw; go_simp⟩) h0 ?_
  try simp only [Act.put, lay_out]
  refine wpAnyH_take (i := 11) (v := .pointer (some ⟨b, 1, none⟩)) rfl (by kernel_rfl) (by kernel_rfl) (by kernel_rfl) (fun _ _ _ h => h) (.inl ⟨by rfl, fun w hw => by clear hw; go_simp⟩) h0 ?_
  try simp only [Act.put, lay_out]
  refine wpAnyH_take (i := 12) (v := .int .u8 mk) rfl (by kernel_rfl) (by kernel_rfl) (by kernel_rfl) (fun _ _ _ h => h) (.inl ⟨by rfl, fun w hw => by have hc0 := hw.mark; clear hw; go_simp⟩) h0 ?_
  try simp only [Act.put, lay_out]
  refine wpAnyH_ready (rs := [4]) (by kernel_rfl) (by simp) (AllReadyH.cons rfl (fun K hK => ?_) AllReadyH.nil)
  rw [if_pos (by rfl)]
  have hmk3 := hmk w3
  go_simp
  have HA4 : Hid (Wo (w3.alloc (.cells (madeCells #[.int .u8 0] a) 5)) b R mk F a true ∧ Only b w (w3.alloc (.cells (madeCells #[.int .u8 0] a) 5))) := hid ⟨HD.out.1.alloc _, HD.out.2.trans (Only.of_below ((Below.refl _ _).alloc (Nat.le_refl _) _))⟩
  have HR4 : Hid (Rd .u8 (w3.alloc (.cells (madeCells #[.int .u8 0] a) 5)) (.slice (some ⟨w3.heap.size, 0, none⟩) a a) (List.replicate a 0)) := hid ((own_made (E := 5) w3 a (Nat.le_refl _) (by have := HX.out; unfold maxLen; omega)).rd (by rw [List.length_replicate]; have := HX.out; show _ * 1 ≤ _; omega) (fun z h => by rw [(List.mem_replicate.1 h).2]; rfl))
  clear hmk3 hmk
  generalize hw4 : w3.alloc (.cells (madeCells #[.int .u8 0] a) 5) = w4 at *
  refine hK.out _ _ (HA4.out.1) (fun h1x => ?_)
  clear hK K
  try simp only [Act.put, lay_out]
  refine wpAnyH_ready (rs := [13]) (by kernel_rfl) (by simp) (AllReadyH.cons rfl (fun K hK => ?_) AllReadyH.nil)
  rw [if_pos (by rfl)]
  go_simp
  go_at_call 68
  (with_reducible refine (HFi.out _ _ HR4.out).mono ?_); rintro e w5 ⟨p, c, rfl, ho, hl⟩
  have HA5 := hid (And.intro (HA4.out.1.self hl) (HA4.out.2.trans (Only.of_below hl)))
  have HO5 := hid (And.intro ho HA4.out.1.lt)
  clear ho hl hw4
  refine hK.out _ _ (HA5.out.1) (fun h2x => ?_)
  clear hK K
  try simp only [Act.put, lay_out]
  refine wpAnyH_take (i := 14) (v := .tuple #[.slice p R c, .int .i64 0]) rfl (by kernel_rfl) (by kernel_rfl) (by kernel_rfl) (fun _ _ _ h => h) (.inl ⟨by rfl, fun w hw => by clear hw; go_simp⟩) h2x ?_
  try simp only [Act.put, lay_out]
  refine wpAnyH_take (i := 15) (v := .slice p R c) rfl (by kernel_rfl) (by kernel_rfl) (by kernel_rfl) (fun _ _ _ h => h) (.inl ⟨by rfl, fun w hw => by clear hw; go_simp⟩) h2x ?_
  try simp only [Act.put, lay_out]
  refine wpAnyH_take (i := 16) (v := .int .i64 0) rfl (by kernel_rfl) (by kernel_rfl) (by kernel_rfl) (fun _ _ _ h => h) (.inl ⟨by rfl, fun w hw => by clear hw; go_simp⟩) h2x ?_
  try simp only [Act.put, lay_out]
  refine wpAnyH_take (i := 17) (v := .slice p R c) rfl (by kernel_rfl) (by kernel_rfl) (by kernel_rfl) (fun _ _ _ h => h) (.inl ⟨by rfl, fun w hw => by clear hw; go_simp⟩) h2x ?_
  try simp only [Act.put, lay_out]
  refine wpAnyH_take (i := 18) (v := .int .i64 0) rfl (by kernel_rfl) (by kernel_rfl) (by kernel_rfl) (fun _ _ _ h => h) (.inl ⟨by rfl, fun w hw => by clear hw; go_simp⟩) h2x ?_
  try simp only [Act.put, lay_out]
  refine wpAnyH_done (by kernel_rfl) ?_ _
  refine NoPanic.normal ?_
  clear h0 h1x h2x
  try simp only [Act.put, lay_out]
  have hpart : ∃ g, p = some ⟨g, 0, none⟩ ∧ R ≤ c := by
    obtain ⟨g, cg, hv, _⟩ := HO5.out.1.part (by rw [HTl.out]; have := HX.out; omega)
    injection hv with e1 e2 e3
    exact ⟨g, e1, (own_cap HO5.out.1).1⟩
  obtain ⟨g, rfl, hc⟩ := hpart
  have HK := hid (kept_sub (k := c - a) (kept_ownL HO5.out.1 HO5.out.2 (by rw [HTl.out]; have := HX.out; omega) HX.out.2.1) (q := a) (m := R - a) (p := some ⟨g, 0 + a, none⟩) (by have := HX.out; omega) (fun _ => rfl))
  have HE6 : Hid ((xs.drop a).take (R - a) = xs.drop a ∧ (xs.drop a).length = R - a) := hid ⟨List.take_of_length_le (by rw [List.length_drop, HTl.out]; exact Nat.le_refl _), by rw [List.length_drop, HTl.out]⟩
  rw [HE6.out.1, Nat.zero_add] at HK
  have HC6 := hid (HEn.out _ _ w5 HA5.out.1 HK.out (by rw [HE6.out.2]; have := HX.out; omega))
  have c27 := HA5.out.1.at
  have l1 : (0 : Int) ≤ (a : Int) := by omega
  have l2 : (a : Int) < (R : Int) := by have := HX.out; omega
  have l3 : (a : Int) < (c : Int) := by omega
  have l4 : (R : Int) ≤ (c : Int) := by omega
  go_wp2_with (first
    | (go_at_call 59; (with_reducible refine (HC6.out).mono ?_); rintro e w6 ⟨⟨v6, rfl⟩, h6, _, h7⟩; have HL6 := hid (HA5.out.2.trans h6); have HW6 := hid h7; clear h6 h7))
  refine bodyPost_end (results_none rfl _ _ _) rfl ⟨⟨_, rfl⟩, HL6.out, ?_⟩
  have h8 := HW6.out (by rw [HE6.out.2, HR8.out]; have := HX.out; omega)
  have h9 := HFu.out (xs.drop a) (fun z h => HX.out.2.1 z (List.mem_of_mem_drop h)) (by rw [HE6.out.2]; have := HX.out; omega)
  rw [HX.out.1, HG.out] at h9
  rw [h9, HR8.out] at h8
  exact h8
end Go.Proofs.Ythcjgjhoifnpjaa
