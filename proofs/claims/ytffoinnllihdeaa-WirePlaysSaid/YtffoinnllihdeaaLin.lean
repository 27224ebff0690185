/- General: strings as lists of bytes; numbers in decimal digits; words with blanks between. No program is named. -/
import Derived.Lib.ItoaNum
namespace Go.Proofs.Ytffoinnllihdeaa
open Go.Lib

/-- A string out of its bytes. -/
def sB (l : List UInt8) : ByteArray := ⟨l.toArray⟩
theorem sB_list (l : List UInt8) : (sB l).data.toList = l := rfl
theorem sB_size (l : List UInt8) : (sB l).size = l.length := rfl
theorem sB_of (s : ByteArray) : sB s.data.toList = s := rfl
theorem sB_inj {a b : List UInt8} (h : sB a = sB b) : a = b := by have := congrArg (fun x => x.data.toList) h; exact this
theorem sB_add (a b : List UInt8) : sB a ++ sB b = sB (a ++ b) := by
  apply ByteArray.ext
  simp [sB]

/-- What digits spell. -/
def spell (l : List UInt8) : Nat := l.foldl (fun n c => 10 * n + (c.toNat - 48)) 0
theorem spell_add (l : List UInt8) (c : UInt8) : spell (l ++ [c]) = 10 * spell l + (c.toNat - 48) := by simp [spell]
theorem dgt_nat {d : Nat} (h : d < 10) : (UInt8.ofNat (48 + d)).toNat = 48 + d := by
  rw [UInt8.toNat_ofNat']; omega
theorem spell_dec (u : Nat) : spell (decDigits u) = u := by
  induction u using Nat.strongRecOn with
  | _ u ih =>
    rw [decDigits]
    split
    · rename_i h
      simp only [spell, List.foldl_cons, List.foldl_nil]
      rw [dgt_nat h]
      omega
    · rename_i h
      rw [spell_add, ih (u / 10) (by omega), dgt_nat (Nat.mod_lt _ (by decide))]
      omega
theorem dec_bytes (u : Nat) : ∀ c ∈ decDigits u, 48 ≤ c.toNat ∧ c.toNat ≤ 57 := by
  induction u using Nat.strongRecOn with
  | _ u ih =>
    intro c hc
    rw [decDigits] at hc
    split at hc
    · rename_i h
      rw [List.mem_singleton] at hc
      subst hc
      rw [dgt_nat h]
      omega
    · rename_i h
      rcases List.mem_append.1 hc with hc | hc
      · exact ih (u / 10) (by omega) c hc
      · rw [List.mem_singleton] at hc
        subst hc
        rw [dgt_nat (Nat.mod_lt _ (by decide))]
        omega
theorem dec_inj {a b : Nat} (h : decDigits a = decDigits b) : a = b := by rw [← spell_dec a, h, spell_dec]
theorem dec_ne (u : Nat) : decDigits u ≠ [] := by
  rw [decDigits]
  split <;> simp
theorem itoa_inj {a b : Int} (h : itoa a = itoa b) : a = b := by
  unfold itoa at h
  split at h <;> split at h
  · injection h with _ h; have := dec_inj h; omega
  · exfalso
    have := dec_bytes b.toNat 45 (by rw [← h]; exact List.mem_cons_self)
    exact absurd this (by decide)
  · exfalso
    have := dec_bytes a.toNat 45 (by rw [h]; exact List.mem_cons_self)
    exact absurd this (by decide)
  · have := dec_inj h; omega
theorem dec_blank (u : Nat) : (32 : UInt8) ∉ decDigits u := fun h => by
  have := dec_bytes u 32 h
  exact absurd this (by decide)
theorem itoa_blank (n : Int) : (32 : UInt8) ∉ itoa n := fun h => by
  unfold itoa at h
  split at h
  · rcases List.mem_cons.1 h with h | h
    · exact absurd h (by decide)
    · exact dec_blank _ h
  · exact dec_blank _ h
/-- Words that stand ahead of a blank. -/
theorem word_inj {a a' b b' : List UInt8} (ha : (32 : UInt8) ∉ a) (ha' : (32 : UInt8) ∉ a') (h : a ++ 32 :: b = a' ++ 32 :: b') : a = a' ∧ b = b' := by
  induction a generalizing a' with
  | nil =>
    cases a' with
    | nil => injection h with _ h; exact ⟨rfl, h⟩
    | cons y a' => injection h with h _; subst h; exact absurd List.mem_cons_self ha'
  | cons x a ih =>
    cases a' with
    | nil => injection h with h _; subst h; exact absurd List.mem_cons_self ha
    | cons y a' =>
      injection h with h1 h2
      subst h1
      obtain ⟨rfl, rfl⟩ := ih (fun h => ha (List.mem_cons_of_mem _ h)) (fun h => ha' (List.mem_cons_of_mem _ h)) h2
      exact ⟨rfl, rfl⟩

/-- An op. -/
structure Op6 where
  K : Int
  D : Int
  A : Int
  B : Int
  E : Int
  C : Nat
/-- A kind's name. -/
def knL (K : Int) : List UInt8 :=
  if K = 1 then [114, 97, 110, 100] else if K = 2 then [107, 101, 121] else if K = 3 then [99, 111, 110, 115, 116] else if K = 4 then [116, 111, 108, 100] else if K = 5 then [120, 111, 114] else if K = 6 then [110, 111, 116]
  else if K = 7 then [97, 110, 100] else if K = 8 then [109, 97, 115, 107] else if K = 9 then [115, 104, 108] else if K = 10 then [115, 104, 114] else if K = 11 then [114, 111, 116] else if K = 12 then [111, 112, 101, 110] else []
theorem knL_no {K : Int} (h : K < 1 ∨ 12 < K) : knL K = [] := by
  unfold knL
  rw [if_neg (by omega), if_neg (by omega), if_neg (by omega), if_neg (by omega), if_neg (by omega), if_neg (by omega), if_neg (by omega), if_neg (by omega), if_neg (by omega), if_neg (by omega), if_neg (by omega), if_neg (by omega)]
theorem kindsL (K : Int) : K = 1 ∨ K = 2 ∨ K = 3 ∨ K = 4 ∨ K = 5 ∨ K = 6 ∨ K = 7 ∨ K = 8 ∨ K = 9 ∨ K = 10 ∨ K = 11 ∨ K = 12 ∨ (K < 1 ∨ 12 < K) := by omega
theorem knL_fin : ∀ i : Fin 13, knL (i.val : Int) = [[], [114, 97, 110, 100], [107, 101, 121], [99, 111, 110, 115, 116], [116, 111, 108, 100], [120, 111, 114], [110, 111, 116], [97, 110, 100], [109, 97, 115, 107], [115, 104, 108], [115, 104, 114], [114, 111, 116], [111, 112, 101, 110]].getD i.val [] := by decide +kernel
theorem knL_inj13 : ∀ i j : Fin 13, knL (i.val : Int) = knL (j.val : Int) → i = j := by decide +kernel
theorem knL_inj {K K' : Int} (h : 1 ≤ K ∧ K ≤ 12) (e : knL K = knL K') : K = K' := by
  obtain ⟨k, rfl⟩ := Int.eq_ofNat_of_zero_le (by omega : 0 ≤ K)
  by_cases h' : K' < 1 ∨ 12 < K'
  · rw [knL_no h'] at e
    have := knL_inj13 ⟨k, by omega⟩ 0 (e.trans (knL_no (by decide)).symm)
    have := congrArg Fin.val this
    exfalso
    have h0 : k = 0 := this
    omega
  · obtain ⟨j, rfl⟩ := Int.eq_ofNat_of_zero_le (by omega : 0 ≤ K')
    have := congrArg Fin.val (knL_inj13 ⟨k, by omega⟩ ⟨j, by omega⟩ e)
    have h0 : k = j := this
    rw [h0]
theorem knL_blank (K : Int) : (32 : UInt8) ∉ knL K := by
  by_cases h' : K < 1 ∨ 12 < K
  · rw [knL_no h']; exact List.not_mem_nil
  · obtain ⟨j, rfl⟩ := Int.eq_ofNat_of_zero_le (by omega : 0 ≤ K)
    exact (by decide +kernel : ∀ i : Fin 13, (32 : UInt8) ∉ knL (i.val : Int)) ⟨j, by omega⟩
/-- An op's line. -/
def lnL (o : Op6) : List UInt8 := knL o.K ++ [32] ++ itoa o.D ++ [32] ++ itoa o.A ++ [32] ++ itoa o.B ++ [32] ++ itoa o.E ++ [32] ++ decDigits o.C
theorem lnL_inj {o p : Op6} (h : lnL o = lnL p) : knL o.K = knL p.K ∧ o.D = p.D ∧ o.A = p.A ∧ o.B = p.B ∧ o.E = p.E ∧ o.C = p.C := by
  unfold lnL at h
  simp only [List.append_assoc, List.singleton_append] at h
  obtain ⟨h0, h⟩ := word_inj (knL_blank _) (knL_blank _) h
  obtain ⟨h1, h⟩ := word_inj (itoa_blank _) (itoa_blank _) h
  obtain ⟨h2, h⟩ := word_inj (itoa_blank _) (itoa_blank _) h
  obtain ⟨h3, h⟩ := word_inj (itoa_blank _) (itoa_blank _) h
  obtain ⟨h4, h⟩ := word_inj (itoa_blank _) (itoa_blank _) h
  exact ⟨h0, itoa_inj h1, itoa_inj h2, itoa_inj h3, itoa_inj h4, dec_inj h⟩
/-- May it be read? -/
def mayP (o : Op6) : Prop := (1 ≤ o.K ∧ o.K ≤ 12) ∧ (-4611686018427387904 ≤ o.D ∧ o.D ≤ 4611686018427387904) ∧ (-4611686018427387904 ≤ o.A ∧ o.A ≤ 4611686018427387904) ∧ (-4611686018427387904 ≤ o.B ∧ o.B ≤ 4611686018427387904) ∧ (-4611686018427387904 ≤ o.E ∧ o.E ≤ 4611686018427387904) ∧ o.C < 18446744073709551616
instance (o : Op6) : Decidable (mayP o) := by unfold mayP; infer_instance
theorem ln_one {o p : Op6} (ho : mayP o) (h : lnL o = lnL p) : o = p := by
  obtain ⟨h0, h1, h2, h3, h4, h5⟩ := lnL_inj h
  have := knL_inj ho.1 h0
  cases o; cases p
  simp only at this h1 h2 h3 h4 h5
  subst this h1 h2 h3 h4 h5
  rfl
end Go.Proofs.Ytffoinnllihdeaa
