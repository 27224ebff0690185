/- The octet layer's plain mathematics, more: doubling. No walk. -/
import Derived.Test.YtiejaedljebbfaaOcm
namespace Go.Proofs.Ytiejaedljebbfaa
open Go.RowKit

theorem nth_set (L : List Int) (i j : Nat) (z : Int) (hi : i < L.length) : nth (L.set i z) j = if j = i then z else nth L j := by
  unfold nth
  rw [List.getD_eq_getElem?_getD, List.getElem?_set, List.getD_eq_getElem?_getD]
  by_cases h : i = j
  · subst h; simp [hi]
  · have : ¬ j = i := fun e => h e.symm
    simp [h, this]
theorem nth_append (L : List Int) (z : Int) (j : Nat) : nth (L ++ [z]) j = if j = L.length then z else nth L j := by
  unfold nth
  simp only [List.getD_eq_getElem?_getD]
  by_cases h : j < L.length
  · have : ¬ j = L.length := by omega
    rw [List.getElem?_append_left h]; simp [this]
  · by_cases e : j = L.length
    · subst e; simp
    · rw [List.getElem?_append_right (by omega), List.getElem?_eq_none (by simp; omega), List.getElem?_eq_none (by omega)]
      simp [e]
theorem dbByte_math {x y : Int} (hy : 0 ≤ y ∧ y ≤ 255) : dbByte x y = x % 128 * 2 + y / 128 := by
  unfold dbByte
  rw [u8_or _ _ (by omega) (by omega) (by omega) (by omega)]
  have e1 : (x * 2 % 256).toNat = (x % 128).toNat * 2 ^ 1 := by omega
  rw [e1, Nat.or_comm, or_add _ _ _ (by omega)]
  omega
theorem dbTo_nth {zs : List Int} (h16 : zs.length = 16) : ∀ k, k ≤ 15 → ∀ j, nth (dbTo zs k) j = if j < k then dbByte (nth zs j) (nth zs (j + 1)) else nth zs j
  | 0, _, j => by simp [dbTo]
  | k + 1, hk, j => by
    have hlen := dbTo_len zs k
    rw [dbTo, nth_set _ _ _ _ (by omega), dbTo_nth h16 k (by omega), dbTo_nth h16 k (by omega), dbTo_nth h16 k (by omega)]
    by_cases e : j = k
    · subst e; simp [show ¬ j + 1 < j by omega]
    · have : j < k + 1 ↔ j < k := by omega
      simp [e, this]
theorem rdTo_nth (zs : List Int) : ∀ k j, j < k → nth (rdTo zs k) j = rdByte zs j
  | 0, j, h => by omega
  | k + 1, j, h => by
    rw [rdTo, nth_append, rdTo_len]
    by_cases e : j = k
    · simp [e]
    · rw [if_neg e, rdTo_nth zs k j (by omega)]
theorem dbLast_math {zs : List Int} (h16 : zs.length = 16) (hz : Bs zs) : dbLast (dbTo zs 15) = rdTo zs 16 := by
  have hl : (dbTo zs 15).length = 16 := by rw [dbTo_len]; exact h16
  apply ext_nth
  · rw [dbLast, List.length_set, hl, rdTo_len]
  · intro j hj
    rw [dbLast, List.length_set, hl] at hj
    rw [dbLast, nth_set _ _ _ _ (by omega), dbTo_nth h16 15 (by omega), dbTo_nth h16 15 (by omega), rdTo_nth zs 16 j hj]
    have h1 := hz.nth j
    have h2 := hz.nth (j + 1)
    have h3 := hz.nth 15
    unfold rdByte
    by_cases e : j = 15
    · subst e; simp; omega
    · have : j < 15 := by omega
      simp only [e, this, if_true, if_false]
      exact dbByte_math h2
theorem double_math {zs : List Int} (hz : Bs zs) : dbL zs = rdL zs := by
  unfold dbL rdL
  by_cases h16 : zs.length = 16
  · rw [if_pos h16, if_pos h16, dbLast_math h16 hz]
  · rw [if_neg h16, if_neg h16]
theorem rdByte_bd {zs : List Int} (hz : Bs zs) (j : Nat) : 0 ≤ rdByte zs j ∧ rdByte zs j ≤ 255 := by
  have h1 := hz.nth j
  have h2 := hz.nth (j + 1)
  unfold rdByte; split <;> omega
theorem rdTo_bs {zs : List Int} (hz : Bs zs) : ∀ k, Bs (rdTo zs k)
  | 0 => by intro z h; simp [rdTo] at h
  | k + 1 => by
    intro z h
    simp only [rdTo, List.mem_append, List.mem_singleton] at h
    rcases h with h | rfl
    · exact rdTo_bs hz k z h
    · exact rdByte_bd hz k
theorem rdL_bs {zs : List Int} (hz : Bs zs) : Bs (rdL zs) := by
  unfold rdL
  split
  · split
    · exact (rdTo_bs hz 16).set 15 (wf_u8 (wf_bits _ _ _ _))
    · exact rdTo_bs hz 16
  · intro z h; simp at h
theorem wf_of_bs {zs : List Int} (h : Bs zs) : ∀ z ∈ zs, (Lit.int .u8 z).wf = true := by
  intro z hz
  have := h z hz
  have h1 : IntKind.u8.min = 0 := rfl
  have h2 : IntKind.u8.max = 255 := rfl
  simp only [Lit.wf, Bool.and_eq_true, decide_eq_true_eq]
  omega
theorem incAt_bs : ∀ (k : Nat) {L : List Int}, Bs L → Bs (incAt L k)
  | 0, _, h => h
  | k + 1, L, h => by
    have := h.nth k
    unfold incAt
    split
    · exact h.set k (by omega)
    · exact incAt_bs k (h.set k (by omega))
theorem incAt_len : ∀ (k : Nat) (L : List Int), (incAt L k).length = L.length
  | 0, _ => rfl
  | k + 1, L => by
    unfold incAt
    split
    · simp
    · rw [incAt_len k]; simp
theorem xorL_bs (xs ys : List Int) : ∀ k, Bs (xorL xs ys k)
  | 0 => by intro z h; simp [xorL] at h
  | k + 1 => by
    intro z h
    simp only [xorL, List.mem_append, List.mem_singleton] at h
    rcases h with h | rfl
    · exact xorL_bs xs ys k z h
    · exact wf_u8 (wf_bits _ _ _ _)
theorem rdL_len (zs : List Int) : (rdL zs).length ≤ 16 := by
  unfold rdL
  split
  · split <;> simp [rdTo_len]
  · simp
end Go.Proofs.Ytiejaedljebbfaa
