import Derived.Test.YtkeojphhgebhdaaProg
import Derived.Test.YtkeojphhgebhdaaCdd
/- Code: what a row begins with: mathematics. -/
namespace Go.Proofs.Ytkeojphhgebhdaa
open Go.RowKit

/-- The row's first number's length is c. -/
structure Hd (zs : List Int) (c : Nat) : Prop where
  first : nth zs 0 = c
  pos : 1 ≤ c
  le : c ≤ 4
  lt : c < zs.length
  least : c = 1 ∨ nth zs 1 ≠ 0
theorem Hd.one {zs : List Int} {c d : Nat} (h : Hd zs c) (k : Hd zs d) : c = d := by have := h.first; have := k.first; omega
/-- The number so far. -/
def vj (zs : List Int) (j : Nat) : Int := vl ((zs.drop 1).take j)
theorem vj_zero (zs : List Int) : vj zs 0 = 0 := rfl
theorem vj_succ {zs : List Int} {j : Nat} (h : 1 + j < zs.length) : vj zs (j + 1) = vj zs j * 256 + nth zs (1 + j) := by
  unfold vj
  rw [List.take_succ_eq_append_getElem (show j < (zs.drop 1).length by simp; omega), vl_snoc, nth_of h]
  simp [Nat.add_comm 1 j]
theorem vj_bd {zs : List Int} (hb : ∀ z ∈ zs, 0 ≤ z ∧ z ≤ 255) : ∀ j, 1 + j ≤ zs.length → 0 ≤ vj zs j ∧ vj zs j < ((256 ^ j : Nat) : Int)
  | 0, _ => by simp [vj_zero]
  | j + 1, h => by
    have ih := vj_bd hb j (by omega)
    have hz := hb (nth zs (1 + j)) (by rw [nth_of (by omega)]; exact List.getElem_mem _)
    rw [vj_succ (by omega), Nat.pow_succ]
    omega
theorem dg_head : ∀ n : Nat, 1 < (dg n).length → (dg n).head? ≠ some 0 := dg_ind
  (fun n h hl => by rw [dg_one h] at hl; simp at hl)
  (fun n h ih hl => by
    have hne : dg (n / 256) ≠ [] := List.ne_nil_of_length_pos (dg_pos _)
    rw [dg_more h, List.head?_append]
    obtain ⟨y, ys, hy⟩ : ∃ y ys, dg (n / 256) = y :: ys := by
      cases e : dg (n / 256) with
      | nil => exact absurd e hne
      | cons y ys => exact ⟨y, ys, rfl⟩
    have key : ((dg (n / 256)).head?.or [((n % 256 : Nat) : Int)].head?) = (dg (n / 256)).head? := by rw [hy]; rfl
    rw [key]
    clear key hy
    by_cases h2 : n / 256 < 256
    · rw [dg_one h2]; simp; omega
    · refine ih ?_
      have := dg_long 1 (n / 256) (by omega)
      omega)
theorem head_nth {zs : List Int} (h : 0 < zs.length) : zs.head? = some (nth zs 0) := by
  cases zs with
  | nil => simp at h
  | cons z zs => rfl
theorem hd_of {zs : List Int} {n : Nat} (h : Beg zs n) : Hd zs (dg (8 * n)).length ∧ vj zs (dg (8 * n)).length = ((8 * n : Nat) : Int) ∧ 1 + (dg (8 * n)).length + n ≤ zs.length := by
  obtain ⟨h1, h2, h3⟩ := h
  have hs := (List.take_append_drop (lef (8 * n)).length zs).symm
  rw [h3] at hs
  rw [lef_len] at h1 h2
  have hp := dg_pos (8 * n)
  have hd := dg_head (8 * n)
  have hv := vl_dg (8 * n)
  obtain ⟨R, hR⟩ : ∃ R, zs.drop (lef (8 * n)).length = R := ⟨_, rfl⟩
  rw [hR] at hs
  clear hR h3
  unfold lef at hs
  generalize dg (8 * n) = D at *
  subst hs
  refine ⟨⟨rfl, hp, by omega, by omega, ?_⟩, ?_, by omega⟩
  · by_cases e : D.length = 1
    · exact .inl e
    · right
      have := hd (by omega)
      intro e2
      apply this
      rw [head_nth hp, ← e2]
      simp [nth, List.getD, List.getElem?_append_left hp, hp]
  · unfold vj
    rw [← hv]
    simp
theorem of_hd {zs : List Int} {n c : Nat} (hb : ∀ z ∈ zs, 0 ≤ z ∧ z ≤ 255) (h : Hd zs c) (hv : vj zs c = ((8 * n : Nat) : Int)) (hl : 1 + c + n ≤ zs.length) : Beg zs n ∧ (lef (8 * n)).length = 1 + c := by
  have hp := h.pos
  have hds : ((zs.drop 1).take c).length = c := by simp; have := h.lt; omega
  have hdg := dg_vl (c - 1) ((zs.drop 1).take c) (by omega) (fun z hz => hb z (List.mem_of_mem_drop (List.mem_of_mem_take hz))) (by
    rcases h.least with e | e
    · exact .inl (by omega)
    · right
      rw [head_nth (by omega)]
      intro e2
      apply e
      have := h.lt
      injection e2 with e2
      rw [nth_of (show 1 < zs.length by omega), ← e2, nth_of (by omega)]
      simp)
  have e1 : (vl ((zs.drop 1).take c)).toNat = 8 * n := by
    have : vl ((zs.drop 1).take c) = ((8 * n : Nat) : Int) := hv
    omega
  rw [e1] at hdg
  have hlef : lef (8 * n) = zs.take (1 + c) := by
    unfold lef
    rw [hdg, hds]
    have h0 : 0 < zs.length := by have := h.lt; omega
    cases zs with
    | nil => simp at h0
    | cons z zs =>
      have := h.first
      rw [show nth (z :: zs) 0 = z from rfl] at this
      rw [this, Nat.add_comm 1 c]
      rfl
  have hll : (lef (8 * n)).length = 1 + c := by rw [hlef, List.length_take]; have := h.lt; omega
  refine ⟨⟨by rw [hll]; have := h.le; omega, by rw [hll]; omega, ?_⟩, hll⟩
  rw [hll, hlef]
theorem or_byte {a d : Nat} (ha : a < 4294967296) (hd : d < 256) : bits .or .u64 ((a * 256 : Nat) : Int) (d : Int) = ((a * 256 + d : Nat) : Int) := by
  rw [bits_or_u64_nat _ _ (by omega) (by omega)]
  congr 1
  have := Nat.shiftLeft_add_eq_or_of_lt (i := 8) hd a
  rw [Nat.shiftLeft_eq] at this
  exact this.symm
end Go.Proofs.Ytkeojphhgebhdaa
