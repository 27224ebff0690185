/- Numbers as bytes, strings that are put (stage 14): lists of numbers. No program is named. -/
namespace Go.Proofs.Ytkeojphhgebhdaa

/-- A number's bytes, the highest one first. -/
def dg (n : Nat) : List Int := if n < 256 then [(n : Int)] else dg (n / 256) ++ [((n % 256 : Nat) : Int)]
termination_by n
decreasing_by exact Nat.div_lt_self (by omega) (by decide)
theorem dg_one {n : Nat} (h : n < 256) : dg n = [(n : Int)] := by unfold dg; rw [if_pos h]
theorem dg_more {n : Nat} (h : ¬ n < 256) : dg n = dg (n / 256) ++ [((n % 256 : Nat) : Int)] := by rw [dg]; rw [if_neg h]
theorem dg_ind {p : Nat → Prop} (h1 : ∀ n, n < 256 → p n) (h2 : ∀ n, ¬ n < 256 → p (n / 256) → p n) (n : Nat) : p n := by
  induction n using Nat.strongRecOn with
  | ind n ih =>
    by_cases h : n < 256
    · exact h1 n h
    · exact h2 n h (ih _ (Nat.div_lt_self (by omega) (by decide)))
theorem dg_pos (n : Nat) : 0 < (dg n).length := by
  by_cases h : n < 256
  · rw [dg_one h]; simp
  · rw [dg_more h]; simp
theorem dg_bytes : ∀ n : Nat, ∀ z ∈ dg n, 0 ≤ z ∧ z ≤ 255 := dg_ind
  (fun n h z hz => by rw [dg_one h, List.mem_singleton] at hz; omega)
  (fun n h ih z hz => by
    rw [dg_more h, List.mem_append, List.mem_singleton] at hz
    rcases hz with hz | rfl
    · exact ih z hz
    · omega)
/-- The number that bytes stand for. -/
def vl (zs : List Int) : Int := zs.foldl (fun a z => a * 256 + z) 0
theorem vl_snoc (zs : List Int) (z : Int) : vl (zs ++ [z]) = vl zs * 256 + z := by unfold vl; rw [List.foldl_append]; rfl
theorem vl_dg : ∀ n : Nat, vl (dg n) = n := dg_ind
  (fun n h => by rw [dg_one h]; simp [vl])
  (fun n h ih => by rw [dg_more h, vl_snoc, ih]; omega)
theorem dg_inj {a b : Nat} (h : dg a = dg b) : a = b := by
  have := congrArg vl h
  rw [vl_dg, vl_dg] at this
  omega
theorem dg_len : ∀ (k n : Nat), n < 256 ^ (k + 1) → (dg n).length ≤ k + 1
  | 0, n, h => by rw [dg_one (by simpa using h)]; simp
  | k + 1, n, h => by
    by_cases h1 : n < 256
    · rw [dg_one h1]; simp
    · rw [dg_more h1, List.length_append]
      have : n / 256 < 256 ^ (k + 1) := Nat.div_lt_of_lt_mul (by rw [Nat.pow_succ, Nat.mul_comm] at h; exact h)
      have := dg_len k _ this
      simp; omega
theorem dg_long : ∀ (k n : Nat), 256 ^ k ≤ n → k + 1 ≤ (dg n).length
  | 0, n, _ => dg_pos n
  | k + 1, n, h => by
    have h1 : ¬ n < 256 := by
      have : 256 ^ 1 ≤ 256 ^ (k + 1) := Nat.pow_le_pow_right (by decide) (by omega)
      omega
    rw [dg_more h1, List.length_append]
    have := dg_long k (n / 256) ((Nat.le_div_iff_mul_le (by decide)).2 (by rw [Nat.pow_succ] at h; exact h))
    simp; omega
/-- Left of a number, and right of it. -/
def lef (n : Nat) : List Int := ((dg n).length : Int) :: dg n
def rig (n : Nat) : List Int := dg n ++ [((dg n).length : Int)]
theorem lef_len (n : Nat) : (lef n).length = (dg n).length + 1 := by simp [lef]
/-- In front of one row stands one number. -/
theorem lef_inj {a b : Nat} {r s : List Int} (h : lef a ++ r = lef b ++ s) : a = b ∧ r = s := by
  unfold lef at h
  simp only [List.cons_append, List.cons.injEq] at h
  obtain ⟨h1, h2⟩ := h
  have h3 := List.append_inj h2 (by omega)
  exact ⟨dg_inj h3.1, h3.2⟩
/-- A string, put. -/
def sto (zs : List Int) : List Int := lef (8 * zs.length) ++ zs
theorem sto_len (zs : List Int) : (sto zs).length = (lef (8 * zs.length)).length + zs.length := by simp [sto]
theorem sto_inj {a b r s : List Int} (h : sto a ++ r = sto b ++ s) : a = b ∧ r = s := by
  unfold sto at h
  rw [List.append_assoc, List.append_assoc] at h
  have h1 := lef_inj h
  exact List.append_inj h1.2 (by omega)
theorem sto_two {a b c d : List Int} : sto a ++ sto b = sto c ++ sto d ↔ a = c ∧ b = d := by
  constructor
  · intro h
    have h1 := sto_inj h
    have h2 := sto_inj (r := []) (s := []) (by simpa using h1.2)
    exact ⟨h1.1, h2.1⟩
  · rintro ⟨rfl, rfl⟩; rfl
/-! ### what a row begins with -/
/-- Bytes are a number's bytes if they are as few as hold it. -/
theorem vl_pos {zs : List Int} (h : ∀ z ∈ zs, 0 ≤ z ∧ z ≤ 255) : ∀ a : Int, 0 ≤ a → 0 ≤ zs.foldl (fun a z => a * 256 + z) a := by
  induction zs with
  | nil => intro a ha; exact ha
  | cons z zs ih =>
    intro a ha
    have := h z (by simp)
    exact ih (fun y hy => h y (by simp [hy])) _ (show 0 ≤ a * 256 + z by omega)
theorem vl_nonneg {zs : List Int} (h : ∀ z ∈ zs, 0 ≤ z ∧ z ≤ 255) : 0 ≤ vl zs := vl_pos h 0 (by decide)
theorem dg_vl : ∀ (k : Nat) (zs : List Int), zs.length = k + 1 → (∀ z ∈ zs, 0 ≤ z ∧ z ≤ 255) → (k = 0 ∨ zs.head? ≠ some 0) → dg (vl zs).toNat = zs
  | 0, zs, hl, hb, _ => by
    obtain ⟨z, rfl⟩ := List.length_eq_one_iff.1 hl
    have := hb z (by simp)
    have e : vl [z] = z := by simp [vl]
    rw [e, dg_one (by omega)]
    congr 1; omega
  | k + 1, zs, hl, hb, hh => by
    obtain ⟨ys, z, rfl⟩ : ∃ ys z, zs = ys ++ [z] := ⟨zs.dropLast, zs.getLast (by intro e; rw [e] at hl; simp at hl), (List.dropLast_concat_getLast _).symm⟩
    have hly : ys.length = k + 1 := by simpa using hl
    obtain ⟨y, ys', rfl⟩ : ∃ y ys', ys = y :: ys' := by
      cases ys with
      | nil => simp at hly
      | cons y ys' => exact ⟨y, ys', rfl⟩
    have hne : y ≠ 0 := by
      rcases hh with h | h
      · omega
      · simpa using h
    have hby : ∀ x ∈ y :: ys', 0 ≤ x ∧ x ≤ 255 := fun x hx => hb x (List.mem_append.2 (.inl hx))
    have ih := dg_vl k (y :: ys') hly hby (.inr (by simpa using hne))
    have hz := hb z (by simp)
    have h0 := vl_nonneg hby
    have h1 : 1 ≤ vl (y :: ys') := by
      by_cases e : vl (y :: ys') = 0
      · rw [e] at ih
        have : dg (0 : Int).toNat = [0] := dg_one (n := 0) (by decide)
        rw [this] at ih
        exact absurd (List.cons.inj ih).1.symm hne
      · omega
    rw [vl_snoc, dg_more (by omega)]
    have e1 : (vl (y :: ys') * 256 + z).toNat / 256 = (vl (y :: ys')).toNat := by omega
    have e2 : (((vl (y :: ys') * 256 + z).toNat % 256 : Nat) : Int) = z := by omega
    rw [e1, e2, ih]
/-- A row begins with a string of n bytes, put, of at most four bytes' number. -/
def Beg (L : List Int) (n : Nat) : Prop := (lef (8 * n)).length ≤ 5 ∧ n + (lef (8 * n)).length ≤ L.length ∧ L.take (lef (8 * n)).length = lef (8 * n)
theorem beg_one {L : List Int} {a b : Nat} (ha : Beg L a) (hb : Beg L b) : a = b := by
  have h1 := List.take_append_drop (lef (8 * a)).length L
  have h2 := List.take_append_drop (lef (8 * b)).length L
  rw [ha.2.2] at h1
  rw [hb.2.2] at h2
  have := (lef_inj (h1.trans h2.symm)).1
  omega
theorem beg_sto {z r : List Int} (h : (lef (8 * z.length)).length ≤ 5) : Beg (sto z ++ r) z.length := by
  refine ⟨h, by simp [sto]; omega, ?_⟩
  unfold sto
  rw [List.append_assoc, List.take_left']
  rfl
/-- .. and then this is the string. -/
theorem sto_beg {L : List Int} {n : Nat} (h : Beg L n) : sto ((L.drop (lef (8 * n)).length).take n) ++ (L.drop (lef (8 * n)).length).drop n = L := by
  have hl : ((L.drop (lef (8 * n)).length).take n).length = n := by
    rw [List.length_take, List.length_drop]; have := h.2.1; omega
  unfold sto
  rw [hl, List.append_assoc, List.take_append_drop]
  conv => rhs; rw [← List.take_append_drop (lef (8 * n)).length L, h.2.2]
end Go.Proofs.Ytkeojphhgebhdaa
