import Derived.Test.YtffoinnllihdeaaTrp
/- General: traces: what may be, tallies, what is opened; as numbers. No program is named. -/
namespace Go.Proofs.Ytffoinnllihdeaa

/-- Do all of the first n have p? -/
def allB (p : Nat → Bool) : Nat → Bool
  | 0 => true
  | n + 1 => allB p n && p n
theorem allB_all {p : Nat → Bool} : ∀ {n : Nat}, allB p n = true → ∀ i, i < n → p i = true
  | n + 1, h, i, hi => by
    rw [allB, Bool.and_eq_true] at h
    by_cases e : i = n
    · subst e; exact h.2
    · exact allB_all h.1 i (by omega)
theorem allB_of {p : Nat → Bool} : ∀ {n : Nat}, (∀ i, i < n → p i = true) → allB p n = true
  | 0, _ => rfl
  | n + 1, h => by rw [allB, allB_of (fun i hi => h i (by omega)), h n (by omega)]; rfl
theorem allB_no {p : Nat → Bool} {n i : Nat} (hi : i < n) (h : p i = false) : allB p n = false := by
  cases e : allB p n
  · rfl
  · have := allB_all e i hi; rw [h] at this; cases this
theorem allB_ext {p q : Nat → Bool} : ∀ {n : Nat}, (∀ i, i < n → p i = q i) → allB p n = allB q n
  | 0, _ => rfl
  | n + 1, h => by rw [allB, allB, allB_ext (fun i hi => h i (by omega)), h n (by omega)]

/-- How many registers an op of kind K is of, in a machine of n shares. -/
def rgN (K n : Int) : Int := if n ≠ 2 ∧ n ≠ 3 then 0 else if K = 2 then n - 1 else if K = 5 ∨ K = 7 then 2 else if K = 6 ∨ K = 8 ∨ K = 9 ∨ K = 10 ∨ K = 11 then 1 else if K = 12 then n else 0
theorem rgN_le (K n : Int) : 0 ≤ rgN K n ∧ rgN K n ≤ 3 := by
  unfold rgN
  split
  · omega
  · repeat' split
    all_goals omega
/-- The three registers of an op. -/
def rgL (o : Op6) (j : Nat) : Int := if j = 0 then o.A else if j = 1 then o.B else o.E
/-- Is the register of place j as it should be? -/
def rgB (o : Op6) (at_ n : Int) (j : Nat) : Bool := if (j : Int) < rgN o.K n then decide (0 ≤ rgL o j ∧ rgL o j < at_) else decide (rgL o j = -1)
def okC (K : Int) (C : Nat) : Bool := if K = 9 ∨ K = 10 ∨ K = 11 then decide (C < 64) else if K = 2 then decide (C < 1048576) else if K = 3 ∨ K = 4 ∨ K = 8 then true else decide (C = 0)
def okH (o : Op6) (n : Int) : Bool := decide ((n = 2 ∨ n = 3) ∧ 1 ≤ o.K ∧ o.K ≤ 12 ∧ -1 ≤ o.D ∧ o.D < n ∧ (o.K = 12 → o.D = -1))
/-- May an op stand at a place? -/
def okOp (o : Op6) (at_ n : Int) : Bool := okH o n && allB (rgB o at_ n) 3 && okC o.K o.C
/-- How many ops of the first i are of kind k. -/
def cnt (p : Op6 → Bool) (f : Nat → Op6) : Nat → Nat
  | 0 => 0
  | i + 1 => cnt p f i + (if p (f i) then 1 else 0)
theorem cnt_le (p : Op6 → Bool) (f : Nat → Op6) : ∀ i, cnt p f i ≤ i
  | 0 => Nat.le_refl _
  | i + 1 => by have := cnt_le p f i; unfold cnt; split <;> omega
/-- An op's class: its kind, or 0. -/
def kd (o : Op6) : Nat := if o.K < 1 ∨ 12 < o.K then 0 else o.K.toNat
theorem kd_lt (o : Op6) : kd o < 13 := by unfold kd; split <;> omega
theorem kd_eq {o : Op6} {k : Nat} (hk : 1 ≤ k ∧ k ≤ 12) : kd o = k ↔ o.K = (k : Int) := by unfold kd; split <;> omega
/-- The tally of the first i. -/
def tal (f : Nat → Op6) (i : Nat) : Nat → Nat := fun k => cnt (fun o => decide (kd o = k)) f i
theorem tal_step (f : Nat → Op6) (i k : Nat) : tal f (i + 1) k = if k = kd (f i) then tal f i k + 1 else tal f i k := by
  unfold tal
  rw [cnt]
  by_cases h : kd (f i) = k
  · rw [if_pos (by simpa using h), if_pos h.symm]
  · rw [if_neg (by simpa using h), if_neg (fun e => h e.symm)]; rfl
/-- Where what is opened stands. -/
def opL (f : Nat → Op6) : Nat → List Int
  | 0 => []
  | i + 1 => if (f i).K = 12 then opL f i ++ [(i : Int)] else opL f i
theorem opL_len (f : Nat → Op6) : ∀ i, (opL f i).length ≤ i
  | 0 => Nat.le_refl _
  | i + 1 => by have := opL_len f i; unfold opL; split <;> simp <;> omega
theorem opL_mem (f : Nat → Op6) : ∀ i, ∀ z ∈ opL f i, 0 ≤ z ∧ z < (i : Int)
  | 0, z, h => by cases h
  | i + 1, z, h => by
    unfold opL at h
    split at h
    · rcases List.mem_append.1 h with h | h
      · have := opL_mem f i z h; omega
      · rw [List.mem_singleton] at h; omega
    · have := opL_mem f i z h; omega
/-- Is the op of place i as it should be, in a trace of N shares? -/
def okO (N : Int) (f : Nat → Op6) (i : Nat) : Bool := okOp (f i) (i : Int) N && decide ((f i).K = 2 → (f i).C = cnt (fun o => decide (o.K = 2)) f i)
/-- Where the block ahead ends. -/
def lastT (g : Nat → Sp3) (j : Nat) : Int := if j = 0 then 0 else (g (j - 1)).T
def okS (L : Nat) (g : Nat → Sp3) (j : Nat) : Bool := decide ((1 ≤ (g j).K ∧ (g j).K ≤ 3) ∧ lastT g j ≤ (g j).F ∧ (g j).F < (g j).T ∧ (g j).T ≤ (L : Int))
/-- May a trace be? -/
def trB (N : Int) (L M : Nat) (f : Nat → Op6) (g : Nat → Sp3) : Bool := decide ((N = 2 ∨ N = 3) ∧ L ≤ 1048576) && allB (okO N f) L && allB (okS L g) M
end Go.Proofs.Ytffoinnllihdeaa
