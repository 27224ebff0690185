/- General: a region that draws, inside a fence that stands in no round: what reads one operand alone, and tells one value in every world of a class, may come up first. No program is named. -/
import Derived.Test.YthcjgjhoifnpjaaGen
import Derived.OrdersIn
import Derived.BigRegion
import Derived.Deep.MidRow
namespace Go.Proofs.Ythcjgjhoifnpjaa
open Go.RowKit
section
variable {F : Fence} {n : Nat} {P : Program} {md : Region.Mode} {ops : Array Oper} {Q : Exit → Act → World → Prop} {S : World → Prop}

/-- Whatever comes up next: S stands behind it, and so on. -/
def anyS (F : Fence) (n : Nat) (P : Program) (md : Region.Mode) (ops : Array Oper) (Q : Exit → Act → World → Prop) (S : World → Prop) (fuel : Nat) (l : Array Bool) (a : Act) (w : World) : Prop :=
  match fuel with
  | 0 => Region.ready md ops l = [] ∧ Q .normal a w
  | k + 1 => (Region.ready md ops l = [] → Q .normal a w) ∧ ∀ i, i ∈ Region.ready md ops l → wpOpIn F n P ops Q i (fun a' w' => S w' ∧ anyS F n P md ops Q S k (l.setIfInBounds i true) a' w') a w
theorem anyS_in (k : Nat) : ∀ (l : Array Bool) (a : Act) (w : World), anyS F n P md ops Q S k l a w → wpAnyIn F n P md ops Q k l a w := by
  induction k with
  | zero => exact fun _ _ _ h => h
  | succ k ih => exact fun l a w h => ⟨h.1, fun i hi => wpOpIn_mono (fun a' w' q => ih _ a' w' q.2) (h.2 i hi)⟩
/-- An operation that asks nothing but x: where that is p, it tells v, in every world of S. -/
structure Asks1 (P : Program) (S : World → Prop) (o : Oper) (x : Operand) (p v : Value) : Prop where
  one : o.op.operands = #[x]
  free : o.guard = none
  sel : ∀ cs b, o.op ≠ .select cs b
  call : ∀ ρ w, o.about P w ρ = none
  run : ∀ ρ : Operand → Value, ρ x = p → ∀ w, S w → (execOp ρ o).run P w = .ok (.value v) w
theorem always {o : Oper} (h : o.guard = none) (f : Nat → Option Bool) : Region.wanted o f = true := by simp [Region.wanted, h]
theorem put_none (a : Act) (v : Value) : a.put none v = a := rfl
/-- Another one, apart from it, leaves x alone, and goes as it would behind it. -/
theorem beside {j : Nat} {o oj : Oper} {x : Operand} {p v : Value} (hro : F.round = none) (hj : ops[j]? = some oj) (hap : o.apart ops oj = true) (hA : Asks1 P S o x p v) (hsj : ∀ cs b, oj.op ≠ .select cs b)
    (hQ : ∀ c a w, Q (.panic c) (a.put o.dst v) w → Q (.panic c) a w) {K : Act → World → Prop} {a : Act} {w : World} (hx : a.eval x = p) (h : wpOpIn F n P ops Q j K (a.put o.dst v) w) :
    wpOpIn F n P ops Q j (fun a' w' => a'.eval x = p ∧ K (a'.put o.dst v) w') a w := by
  obtain ⟨oA, hoA⟩ : ∃ oA : Oper, oA = { o with op := .move (.const v) } := ⟨_, rfl⟩
  obtain ⟨oB, hoB⟩ : ∃ oB : Oper, oB = { o with op := .move x, dst := none } := ⟨_, rfl⟩
  have gA : oA.guard = none := by rw [hoA]; exact hA.free
  have gB : oB.guard = none := by rw [hoB]; exact hA.free
  have mA : oA.op = .move (.const v) := by rw [hoA]
  have mB : oB.op = .move x := by rw [hoB]
  have rA : oA.op.operands = #[.const v] := by rw [mA]; rfl
  have rB : oB.op.operands = #[x] := by rw [mB]; rfl
  have lA : oA.looksAt ops = [] := by unfold Oper.looksAt; rw [rA, gA]; rfl
  have lB : oB.looksAt ops = o.looksAt ops := by unfold Oper.looksAt; rw [rB, gB, hA.one, hA.free]
  have aA : oA.apart ops oj = true := by
    simp only [Oper.apart, Bool.and_eq_true] at hap ⊢
    rw [lA, hoA]
    exact ⟨hap.1, by cases oj.dst <;> rfl⟩
  have aB : oB.apart ops oj = true := by
    simp only [Oper.apart, Bool.and_eq_true] at hap ⊢
    rw [lB, hoB]
    exact ⟨rfl, hap.2⟩
  have yA : ∀ a : Act, YieldsFenced P ops oA v a := fun a => ⟨.inl ⟨always gA _, fun w => by rw [BigFrame.run_move _ mA w]; rfl⟩, fun w => by unfold Oper.about; rw [mA]⟩
  have yB : YieldsFenced P ops oB p a := ⟨.inl ⟨always gB _, fun w => by rw [BigFrame.run_move _ mB w, hx]⟩, fun w => by unfold Oper.about; rw [mB]⟩
  have dA : oA.dst = o.dst := by rw [hoA]
  have dB : oB.dst = none := by rw [hoB]
  have h1 := wpOpIn_put (oi := oA) (v := v) hro hj aA (fun cs b e => by rw [mA] at e; cases e) hsj (by rw [dA]; exact hQ) (yA a) (by rw [dA]; exact h)
  have h2 := wpOpIn_put (oi := oB) (v := p) hro hj aB (fun cs b e => by rw [mB] at e; cases e) hsj (by rw [dB]; exact fun _ _ _ h => h) yB (by rw [dB, put_none]; exact h1)
  refine wpOpIn_mono (fun a' w' q => ?_) h2
  rw [dB, put_none, dA] at q
  refine ⟨?_, q.2.2⟩
  rcases q.1.1 with ⟨_, e⟩ | ⟨e, _⟩
  · have e := e w
    rw [BigFrame.run_move _ mB w] at e
    injection e with e
    injection e
  · rw [always gB] at e; cases e
theorem itself {i : Nat} {o : Oper} {x : Operand} {p v : Value} (hro : F.round = none) (hi : ops[i]? = some o) (hA : Asks1 P S o x p v) {K : Act → World → Prop} {a : Act} {w : World} (hx : a.eval x = p) (hS : S w) (h : K (a.put o.dst v) w) :
    wpOpIn F n P ops Q i K a w := by
  have hc := hA.call a.eval w
  unfold Go.wpOpIn
  rw [hi]
  have hw : Region.wanted o (yielded ops a.tmps) = true := always hA.free _
  simp only [hw, if_true]
  refine ⟨fun f e => (by rw [hc] at e; cases e), ?_⟩
  rw [hro, Oper.semAt_none, hA.run a.eval hx w hS]
  exact h
theorem first_of {i : Nat} {o : Oper} {x : Operand} {p v : Value} (hro : F.round = none) (hi : ops[i]? = some o) (hA : Asks1 P S o x p v) (hsel : ∀ (j : Nat) (o : Oper) cs b, ops[j]? = some o → o.op ≠ .select cs b)
    (hQ : ∀ c a w, Q (.panic c) (a.put o.dst v) w → Q (.panic c) a w) (k : Nat) : ∀ (l : Array Bool) (a : Act) (w : World),
    (∀ j oj, ops[j]? = some oj → j ≠ i → l.getD j true = false → (∀ e ∈ oj.after, Region.binds md e = true → e.on ≠ i) → o.apart ops oj = true) → i ∈ Region.ready md ops l → a.eval x = p → S w →
    anyS F n P md ops Q S k (l.setIfInBounds i true) (a.put o.dst v) w → anyS F n P md ops Q S (k + 1) l a w := by
  induction k with
  | zero =>
    intro l a w _ hr hx hS h
    refine ⟨fun e => absurd hr (by rw [e]; exact List.not_mem_nil), fun j hj => ?_⟩
    by_cases e : j = i
    · rw [e]; exact itself hro hi hA hx hS ⟨hS, h⟩
    · exact absurd (ready_mono hj e) (by rw [h.1]; exact List.not_mem_nil)
  | succ k ih =>
    intro l a w hf hr hx hS h
    refine ⟨fun e => absurd hr (by rw [e]; exact List.not_mem_nil), fun j hj => ?_⟩
    by_cases e : j = i
    · rw [e]; exact itself hro hi hA hx hS ⟨hS, h⟩
    obtain ⟨hun, oj, hoj, hall⟩ := mem_ready.1 hj
    have hno : ∀ e ∈ oj.after, Region.binds md e = true → e.on ≠ i := fun e he hb hei => by
      have h1 := hall e he hb
      have h0 := (mem_ready.1 hr).1
      rw [hei] at h1
      by_cases hlt : i < l.size
      · simp [hlt] at h0 h1; rw [h0] at h1; cases h1
      · simp [Array.getElem?_eq_none (Nat.le_of_not_lt hlt)] at h1
    refine wpOpIn_mono (fun a' w' q => ⟨q.2.1, ih (l.setIfInBounds j true) a' w' (fun m om hm hmi hlm hnm => hf m om hm hmi ?_ hnm) (ready_mono hr (fun q => e q.symm)) q.1 q.2.1 ?_⟩)
      (beside hro hoj (hf j oj hoj e hun hno) hA (fun cs b => hsel j oj cs b hoj) hQ hx (h.2 j (ready_mono hj e)))
    · by_cases hjm : j = m
      · rw [← hjm]; exact hun
      · rwa [getD_set_ne true hjm] at hlm
    · rw [Array.setIfInBounds_comm _ _ e]
      exact q.2.2
/-- It comes up first. -/
theorem anyS_take {i : Nat} {o : Oper} {x : Operand} {p v : Value} {k : Nat} {l : Array Bool} {a : Act} {w : World} (hi : ops[i]? = some o) (hA : Asks1 P S o x p v) (hx : a.eval x = p) (hro : F.round = none)
    (hs : Region.noSelect ops = true) (hf : Region.free md ops l i = true) (hr : (Region.ready md ops l).contains i = true) (hQ : ∀ c a w, Q (.panic c) (a.put o.dst v) w → Q (.panic c) a w) (hS : S w)
    (h : anyS F n P md ops Q S k (l.setIfInBounds i true) (a.put o.dst v) w) : anyS F n P md ops Q S (k + 1) l a w :=
  first_of hro hi hA (Region.noSelect_spec hs) hQ k l a w (Region.free_spec hi hf) (by simpa using hr) hx hS h
/-- One alone may come up. -/
theorem anyS_one {i : Nat} {o : Oper} {k : Nat} {l : Array Bool} {a : Act} {w : World} (hi : ops[i]? = some o) (hr : Region.ready md ops l = [i])
    (h : ∀ K' : Act → World → Prop, Hid (∀ a w, S w → anyS F n P md ops Q S k (l.setIfInBounds i true) a w → K' a w) → if Region.wanted o (yielded ops a.tmps) = true then Oper.wpIn F n P o a w K' Q else (∀ f, o.about P w a.eval = some f → F.fn f) ∧ K' (a.put o.dst undef) w) :
    anyS F n P md ops Q S (k + 1) l a w :=
  ⟨fun e => (by rw [hr] at e; cases e), fun j hj => by
    rw [hr, List.mem_singleton] at hj
    subst hj
    exact wpOpIn_step hi fun K' hK => h K' (hid fun a w s q => hK a w ⟨s, q⟩)⟩
/-- One of two may come up. -/
theorem anyS_two {i i' : Nat} {o o' : Oper} {k : Nat} {l : Array Bool} {a : Act} {w : World} (hi : ops[i]? = some o) (hi' : ops[i']? = some o') (hr : Region.ready md ops l = [i, i'])
    (h : ∀ K' : Act → World → Prop, Hid (∀ a w, S w → anyS F n P md ops Q S k (l.setIfInBounds i true) a w → K' a w) → if Region.wanted o (yielded ops a.tmps) = true then Oper.wpIn F n P o a w K' Q else (∀ f, o.about P w a.eval = some f → F.fn f) ∧ K' (a.put o.dst undef) w)
    (h' : ∀ K' : Act → World → Prop, Hid (∀ a w, S w → anyS F n P md ops Q S k (l.setIfInBounds i' true) a w → K' a w) → if Region.wanted o' (yielded ops a.tmps) = true then Oper.wpIn F n P o' a w K' Q else (∀ f, o'.about P w a.eval = some f → F.fn f) ∧ K' (a.put o'.dst undef) w) :
    anyS F n P md ops Q S (k + 1) l a w :=
  ⟨fun e => (by rw [hr] at e; cases e), fun j hj => by
    rw [hr] at hj
    rcases List.mem_cons.1 hj with e | hj
    · subst e
      exact wpOpIn_step hi fun K' hK => h K' (hid fun a w s q => hK a w ⟨s, q⟩)
    · rw [List.mem_singleton] at hj
      subst hj
      exact wpOpIn_step hi' fun K' hK => h' K' (hid fun a w s q => hK a w ⟨s, q⟩)⟩
theorem anyS_done {l : Array Bool} {a : Act} {w : World} (hr : Region.ready md ops l = []) (h : Q .normal a w) : ∀ k, anyS F n P md ops Q S k l a w
  | 0 => ⟨hr, h⟩
  | _ + 1 => ⟨fun _ => h, fun i hi => by rw [hr] at hi; cases hi⟩
theorem region_S {id : Nat} {a : Act} {w : World} (S : World → Prop) (hm : P.follows .mixedOrders = true) (h : anyS F n P .any ops Q S ops.size (Array.replicate ops.size false) a w.drew) : (Code.region id ops true).wpIn F n P Q a w :=
  wpIn_region_any hm (anyS_in _ _ _ _ h)
/-! ### what asks one operand -/
theorem asks_move {o : Oper} {x : Operand} {p : Value} (hg : o.guard = none) (ho : o.op = .move x) : Asks1 P S o x p p :=
  ⟨by rw [ho]; rfl, hg, fun cs b e => (by rw [ho] at e; cases e), fun ρ w => (by unfold Oper.about; rw [ho]), fun ρ h w _ => by rw [BigFrame.run_move _ ho w, h]⟩
theorem asks_of {o : Oper} {x : Operand} {p v : Value} (hg : o.guard = none) (h1 : o.op.operands = #[x]) (h2 : ∀ cs b, o.op ≠ .select cs b) (h3 : ∀ ρ w, o.about P w ρ = none)
    (h : ∀ ρ : Operand → Value, ρ x = p → ∀ w, S w → (execOp ρ o).run P w = .ok (.value v) w) : Asks1 P S o x p v := ⟨h1, hg, h2, h3, h⟩
theorem asks_load_mid {o : Oper} {x : Operand} (hg : o.guard = none) (ty : TypeId) (ho : o.op = .load ty x) (b off : Nat) (cs : List Value) (d : TypeDesc) (hS : ∀ w, S w → w.rangeAt b off cs)
    (hu : P.underlying ty = some d) (hd : d.isRow = true) (hi : (P.info? ty).map (·.size) = some cs.length) : Asks1 P S o x (.pointer (some ⟨b, off, none⟩)) (.agg cs.toArray) :=
  ⟨by rw [ho]; rfl, hg, fun cs b e => (by rw [ho] at e; cases e), fun ρ w => (by unfold Oper.about; rw [ho]), fun ρ h w hw => by
    unfold execOp
    simp only [ho, h, Instr.loadAt, Instr.sureAddr, Sem.run_bind, Sem.run_pure, Result.andThen_ok, run_loadVar_mid w b off ty cs d (hS w hw) hu hd hi]⟩
end
end Go.Proofs.Ythcjgjhoifnpjaa
