import Derived.Test.YtffoinnllihdeaaTrm
/- General: traces that are the same, and what follows. No program is named. -/
namespace Go.Proofs.Ytffoinnllihdeaa

/-- Are two ops the same, but for the constants of told ops? -/
def smO (x y : Op6) : Bool := decide (x.K = y.K ∧ x.D = y.D ∧ x.A = y.A ∧ x.B = y.B ∧ x.E = y.E ∧ (x.K = 4 ∨ x.C = y.C))
def smS (x y : Sp3) : Bool := decide (x.K = y.K ∧ x.F = y.F ∧ x.T = y.T)
/-- Are two traces the same? -/
def saB (N N' : Int) (L L' M M' : Nat) (f f' : Nat → Op6) (g g' : Nat → Sp3) : Bool := decide (N = N' ∧ L = L' ∧ M = M') && allB (fun i => smS (g i) (g' i)) M && allB (fun i => smO (f i) (f' i)) L
theorem smO_symm (x y : Op6) : smO x y = smO y x := by
  unfold smO
  rw [Bool.eq_iff_iff, decide_eq_true_eq, decide_eq_true_eq]
  constructor
  · rintro ⟨h1, h2, h3, h4, h5, h6⟩; exact ⟨h1.symm, h2.symm, h3.symm, h4.symm, h5.symm, by omega⟩
  · rintro ⟨h1, h2, h3, h4, h5, h6⟩; exact ⟨h1.symm, h2.symm, h3.symm, h4.symm, h5.symm, by omega⟩
theorem smS_symm (x y : Sp3) : smS x y = smS y x := by
  unfold smS
  rw [Bool.eq_iff_iff, decide_eq_true_eq, decide_eq_true_eq]
  constructor
  · rintro ⟨h1, h2, h3⟩; exact ⟨h1.symm, h2.symm, h3.symm⟩
  · rintro ⟨h1, h2, h3⟩; exact ⟨h1.symm, h2.symm, h3.symm⟩
theorem smO_refl (x : Op6) : smO x x = true := decide_eq_true ⟨rfl, rfl, rfl, rfl, rfl, .inr rfl⟩
theorem smS_refl (x : Sp3) : smS x x = true := decide_eq_true ⟨rfl, rfl, rfl⟩
theorem saB_refl (N : Int) (L M : Nat) (f : Nat → Op6) (g : Nat → Sp3) : saB N N L L M M f f g g = true := by
  unfold saB
  rw [decide_eq_true ⟨rfl, rfl, rfl⟩, allB_of (fun i _ => smS_refl _), allB_of (fun i _ => smO_refl _)]
  rfl
theorem saB_symm (N N' : Int) (L L' M M' : Nat) (f f' : Nat → Op6) (g g' : Nat → Sp3) : saB N N' L L' M M' f f' g g' = saB N' N L' L M' M f' f g' g := by
  by_cases h : N = N' ∧ L = L' ∧ M = M'
  · obtain ⟨rfl, rfl, rfl⟩ := h
    unfold saB
    rw [allB_ext (fun i _ => smS_symm (g i) (g' i)), allB_ext (fun i _ => smO_symm (f i) (f' i))]
  · unfold saB
    rw [decide_eq_false h, decide_eq_false (fun e => h ⟨e.1.symm, e.2.1.symm, e.2.2.symm⟩)]
    rfl
theorem saB_parts {N N' : Int} {L L' M M' : Nat} {f f' : Nat → Op6} {g g' : Nat → Sp3} (h : saB N N' L L' M M' f f' g g' = true) : (N = N' ∧ L = L' ∧ M = M') ∧ (∀ i, i < M → smS (g i) (g' i) = true) ∧ (∀ i, i < L → smO (f i) (f' i) = true) := by
  unfold saB at h
  rw [Bool.and_eq_true, Bool.and_eq_true, decide_eq_true_eq] at h
  exact ⟨h.1.1, allB_all h.1.2, allB_all h.2⟩
theorem kd_same {x y : Op6} (h : smO x y = true) : kd x = kd y := by
  unfold smO at h
  rw [decide_eq_true_eq] at h
  unfold kd
  rw [h.1]
theorem cnt_ext {p q : Op6 → Bool} {f f' : Nat → Op6} : ∀ {n : Nat}, (∀ i, i < n → p (f i) = q (f' i)) → cnt p f n = cnt q f' n
  | 0, _ => rfl
  | n + 1, h => by rw [cnt, cnt, cnt_ext (fun i hi => h i (by omega)), h n (by omega)]
theorem saB_tal {N N' : Int} {L L' M M' : Nat} {f f' : Nat → Op6} {g g' : Nat → Sp3} (h : saB N N' L L' M M' f f' g g' = true) (k : Nat) : tal f L k = tal f' L' k := by
  obtain ⟨⟨_, rfl, _⟩, _, ho⟩ := saB_parts h
  exact cnt_ext fun i hi => by simp only [kd_same (ho i hi)]
theorem okOp_same {x y : Op6} (h : smO x y = true) (a n : Int) : okOp x a n = okOp y a n := by
  unfold smO at h
  rw [decide_eq_true_eq] at h
  obtain ⟨K, D, A, B, E, C⟩ := x
  obtain ⟨K', D', A', B', E', C'⟩ := y
  simp only at h
  obtain ⟨rfl, rfl, rfl, rfl, rfl, h6⟩ := h
  have hc : okC K C = okC K C' := by
    rcases h6 with rfl | rfl
    · rfl
    · rfl
  have hh : okH ⟨K, D, A, B, E, C⟩ n = okH ⟨K, D, A, B, E, C'⟩ n := rfl
  have hr : ∀ j, rgB ⟨K, D, A, B, E, C⟩ a n j = rgB ⟨K, D, A, B, E, C'⟩ a n j := fun j => rfl
  unfold okOp
  rw [hh, allB_ext (fun j _ => hr j)]
  simp only [hc]
theorem saB_trB {N N' : Int} {L L' M M' : Nat} {f f' : Nat → Op6} {g g' : Nat → Sp3} (h : saB N N' L L' M M' f f' g g' = true) : trB N L M f g = trB N' L' M' f' g' := by
  obtain ⟨⟨rfl, rfl, rfl⟩, hs, ho⟩ := saB_parts h
  unfold trB
  have hk : ∀ i, i < L → (f i).K = (f' i).K ∧ ((f i).K = 2 → (f i).C = (f' i).C) := fun i hi => by
    have h1 := ho i hi
    unfold smO at h1
    rw [decide_eq_true_eq] at h1
    exact ⟨h1.1, fun e => by rcases h1.2.2.2.2.2 with h2 | h2 <;> omega⟩
  have h1 : allB (okO N f) L = allB (okO N f') L := allB_ext fun i hi => by
    unfold okO
    rw [okOp_same (ho i hi), cnt_ext (q := fun o => decide (o.K = 2)) (f' := f') (fun j hj => by simp only [(hk j (by omega)).1])]
    have := hk i hi
    congr 1
    rw [Bool.eq_iff_iff, decide_eq_true_eq, decide_eq_true_eq]
    rw [← this.1]
    constructor
    · intro e e2; rw [← this.2 e2]; exact e e2
    · intro e e2; rw [this.2 e2]; exact e e2
  have hsp : ∀ i, i < M → (g i).K = (g' i).K ∧ (g i).F = (g' i).F ∧ (g i).T = (g' i).T := fun i hi => by
    have h1 := hs i hi
    unfold smS at h1
    rw [decide_eq_true_eq] at h1
    exact h1
  have h2 : allB (okS L g) M = allB (okS L g') M := allB_ext fun i hi => by
    have a := hsp i hi
    have hl : lastT g i = lastT g' i := by
      unfold lastT
      split
      · rfl
      · exact (hsp (i - 1) (by omega)).2.2
    unfold okS
    rw [hl, a.1, a.2.1, a.2.2]
  rw [h1, h2]
/-- The sum of the first j. -/
def smT (T : Nat → Nat) : Nat → Nat
  | 0 => 0
  | j + 1 => smT T j + T j
theorem smT_le (T : Nat → Nat) (h : ∀ i, i < 13 → T i ≤ 4000000000000) : ∀ j, j ≤ 13 → smT T j ≤ j * 4000000000000
  | 0, _ => by simp [smT]
  | j + 1, hj => by have := smT_le T h j (by omega); have := h j (by omega); unfold smT; omega
theorem smT_one (T U : Nat → Nat) (k : Nat) (h : ∀ i, U i = if i = k then T i + 1 else T i) : ∀ j, smT U j = smT T j + (if k < j then 1 else 0)
  | 0 => by simp [smT]
  | j + 1 => by
    rw [smT, smT, smT_one T U k h j, h j]
    by_cases e : j = k
    · subst e; simp; omega
    · rw [if_neg e]
      by_cases e2 : k < j
      · rw [if_pos e2, if_pos (by omega)]; omega
      · rw [if_neg e2, if_neg (by omega)]; omega
theorem tal_sum (f : Nat → Op6) : ∀ L, smT (tal f L) 13 = L
  | 0 => by
    have h : ∀ j, smT (tal f 0) j = 0 := fun j => by
      induction j with
      | zero => rfl
      | succ j ih => rw [smT, ih]; rfl
    exact h 13
  | L + 1 => by
    have hk := kd_lt (f L)
    rw [smT_one (tal f L) (tal f (L + 1)) (kd (f L)) (fun i => tal_step f L i) 13, tal_sum f L, if_pos hk]
theorem tal_le (f : Nat → Op6) (L k : Nat) : tal f L k ≤ L := cnt_le _ f L
end Go.Proofs.Ytffoinnllihdeaa
