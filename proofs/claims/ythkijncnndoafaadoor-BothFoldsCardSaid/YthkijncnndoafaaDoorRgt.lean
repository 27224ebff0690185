import Derived.Test.YthkijncnndoafaaDoorGen
import Derived.Deep.RegionHeld
/- General: regions that draw: a condition T that holds till operation K (a store) has come up, and S that always holds. What K waits for may be taken first in every world that meets T. No program is named. -/
namespace Go.Proofs.YthkijncnndoafaaDoor
open Go.RowKit
section
variable {P : Program} {ops : Array Oper} {Q : Exit → Act → World → Prop} {md : Region.Mode} {S T : World → Prop} {K : Nat}

/-- Whatever order is picked from here on; S holds behind each operation, and T till K has come up. -/
def wpAnyT (P : Program) (md : Region.Mode) (ops : Array Oper) (Q : Exit → Act → World → Prop) (S T : World → Prop) (K : Nat) : Nat → Array Bool → Act → World → Prop
  | 0, listed, a, w => Region.ready md ops listed = [] ∧ Q .normal a w
  | fuel + 1, listed, a, w =>
    (Region.ready md ops listed = [] → Q .normal a w) ∧
    ∀ i ∈ Region.ready md ops listed, wpOp P ops Q i (fun a' w' => (S w' ∧ ((listed.setIfInBounds i true).getD K true = false → T w')) ∧ wpAnyT P md ops Q S T K fuel (listed.setIfInBounds i true) a' w') a w
theorem wpAny_of_t : ∀ (fuel : Nat) (listed : Array Bool) (a : Act) (w : World), wpAnyT P md ops Q S T K fuel listed a w → wpAny P md ops Q fuel listed a w
  | 0, _, _, _, h => h
  | fuel + 1, _, _, _, h => ⟨h.1, fun i hi => wpOp_mono (fun a' w' h' => wpAny_of_t fuel _ a' w' h'.2) (h.2 i hi)⟩
theorem getD_set_no {l : Array Bool} {i j : Nat} {x d : Bool} (h : i ≠ j) : (l.setIfInBounds i x).getD j d = l.getD j d := by
  simp only [Array.getD_eq_getD_getElem?, Array.getElem?_setIfInBounds_ne h]
theorem getD_two {l : Array Bool} {i : Nat} (h : l.getD i true = false) (k : l.getD i false = true) : False := by
  rw [Array.getD_eq_getD_getElem?] at h k
  cases q : l[i]? with
  | none => rw [q] at h; exact Bool.noConfusion h
  | some x => rw [q] at h k; exact Bool.noConfusion (h.symm.trans k)
/-- Whoever may come up beside i doesn't wait for i. -/
theorem beside {listed : Array Bool} {i j : Nat} {oj : Oper} (hi : i ∈ Region.ready md ops listed) (hj : j ∈ Region.ready md ops listed) (ho : ops[j]? = some oj) : ∀ e ∈ oj.after, Region.binds md e = true → e.on ≠ i := by
  intro e he hb q
  obtain ⟨_, o2, h2, hall⟩ := mem_ready.1 hj
  cases ho.symm.trans h2
  exact getD_two (mem_ready.1 hi).1 (q ▸ hall e he hb)
/-- Whoever has not come up, and doesn't wait for i, leaves i alone. -/
def Lets (md : Region.Mode) (ops : Array Oper) (i : Nat) (oi : Oper) (listed : Array Bool) : Prop :=
  ∀ j oj, ops[j]? = some oj → j ≠ i → listed.getD j true = false → (∀ e ∈ oj.after, Region.binds md e = true → e.on ≠ i) → oi.apart ops oj = true
theorem Lets.on {i j : Nat} {oi : Oper} {listed : Array Bool} (h : Lets md ops i oi listed) (hj : listed.getD j true = false) : Lets md ops i oi (listed.setIfInBounds j true) := by
  intro k ok h1 h2 h3 h4
  by_cases e : j = k
  · exact h k ok h1 h2 (e ▸ hj) h4
  · exact h k ok h1 h2 (by rwa [getD_set_no e] at h3) h4
/-- What is shown behind each operation. -/
def Shows (S T : World → Prop) (K : Nat) (listed : Array Bool) (w : World) : Prop := S w ∧ (listed.getD K true = false → T w)
theorem Shows.drop {i : Nat} {l : Array Bool} {w : World} (hiK : i ≠ K) (h : Shows S T K (l.setIfInBounds i true) w) : Shows S T K l w := ⟨h.1, fun q => h.2 (by rw [getD_set_no hiK]; exact q)⟩
theorem Shows.lay {i : Nat} {l : Array Bool} {w : World} (hiK : i ≠ K) (h : Shows S T K l w) : Shows S T K (l.setIfInBounds i true) w := ⟨h.1, fun q => h.2 (by rwa [getD_set_no hiK] at q)⟩
/-- The law: i is taken first; V: what its value asks; I: what lasts while it has not come up. -/
theorem rt_first {i : Nat} {oi : Oper} {v : Value} {V : World → Prop} {I : Array Bool → Prop} (hi : ops[i]? = some oi) (hsel : ∀ (j : Nat) (o : Oper) cs b, ops[j]? = some o → o.op ≠ .select cs b)
    (hQ : ∀ c a w, Q (.panic c) (a.put oi.dst v) w → Q (.panic c) a w) (hiK : i ≠ K) (hV : ∀ l w, I l → Shows S T K l w → V w)
    (hI : ∀ l j, I l → i ∈ Region.ready md ops l → j ∈ Region.ready md ops l → j ≠ i → I (l.setIfInBounds j true)) :
    ∀ (fuel : Nat) (listed : Array Bool) (a : Act) (w : World), Lets md ops i oi listed → i ∈ Region.ready md ops listed → YieldsIf P ops V oi v a → I listed → Shows S T K listed w →
      wpAnyT P md ops Q S T K fuel (listed.setIfInBounds i true) (a.put oi.dst v) w → wpAnyT P md ops Q S T K (fuel + 1) listed a w
  | fuel, listed, a, w, hl, hr, hy, hI0, hS, H => by
    have now : wpOp P ops Q i (fun a' w' => Shows S T K (listed.setIfInBounds i true) w' ∧ wpAnyT P md ops Q S T K fuel (listed.setIfInBounds i true) a' w') a w := hy.wpOp hi (hV _ _ hI0 hS) ⟨hS.lay hiK, H⟩
    refine ⟨fun q => absurd hr (by rw [q]; exact List.not_mem_nil), fun j hj => ?_⟩
    rcases Nat.decEq j i with hji | rfl
    case isTrue => exact now
    case isFalse =>
      match fuel, H, now with
      | 0, H, _ => exact absurd (ready_mono hj hji) (by rw [H.1]; exact List.not_mem_nil)
      | fuel + 1, H, _ =>
        obtain ⟨h0, oj, hoj, _⟩ := mem_ready.1 hj
        refine wpOp_mono (fun a' w' h3 => ?_) (wpOp_putIf hoj (hl j oj hoj hji h0 (beside hr hj hoj)) (fun cs b => hsel i oi cs b hi) (fun cs b => hsel j oj cs b hoj) hQ hy (H.2 j (ready_mono hj hji)))
        have hc : (listed.setIfInBounds i true).setIfInBounds j true = (listed.setIfInBounds j true).setIfInBounds i true := Array.setIfInBounds_comm _ _ (fun q => hji q.symm)
        have hs : Shows S T K (listed.setIfInBounds j true) w' := Shows.drop hiK (hc ▸ h3.2.1)
        exact ⟨hs, rt_first hi hsel hQ hiK hV hI fuel _ a' w' (hl.on h0) (ready_mono hr (fun q => hji q.symm)) h3.1 (hI _ _ hI0 hr hj hji) hs (hc ▸ h3.2.2)⟩
theorem rt_takeS {i : Nat} {oi : Oper} {v : Value} {fuel : Nat} {listed : Array Bool} {a : Act} {w : World} (hi : ops[i]? = some oi)
    (hs : Region.noSelect ops = true) (hf : Region.free md ops listed i = true) (hr : (Region.ready md ops listed).contains i = true) (hiK : (i == K) = false)
    (hQ : ∀ c a w, Q (.panic c) (a.put oi.dst v) w → Q (.panic c) a w) (hy : YieldsIf P ops S oi v a) (hS : S w ∧ (listed.getD K true = false → T w))
    (h : wpAnyT P md ops Q S T K fuel (listed.setIfInBounds i true) (a.put oi.dst v) w) : wpAnyT P md ops Q S T K (fuel + 1) listed a w :=
  rt_first (V := S) (I := fun _ => True) hi (Region.noSelect_spec hs) hQ (by simpa using hiK) (fun _ _ _ q => q.1) (fun _ _ _ _ _ _ => trivial) fuel listed a w (Region.free_spec hi hf) (by simpa using hr) hy trivial hS h
theorem rt_takeT {i : Nat} {oi : Oper} {v : Value} {fuel : Nat} {listed : Array Bool} {a : Act} {w : World} (hi : ops[i]? = some oi)
    (hs : Region.noSelect ops = true) (hf : Region.free md ops listed i = true) (hr : (Region.ready md ops listed).contains i = true) (hiK : (i == K) = false)
    (hw : (match ops[K]? with | some o => o.after.any (fun e => Region.binds md e && e.on == i) | none => false) = true) (hK : listed.getD K true = false)
    (hQ : ∀ c a w, Q (.panic c) (a.put oi.dst v) w → Q (.panic c) a w) (hy : YieldsIf P ops T oi v a) (hS : S w ∧ T w)
    (h : wpAnyT P md ops Q S T K fuel (listed.setIfInBounds i true) (a.put oi.dst v) w) : wpAnyT P md ops Q S T K (fuel + 1) listed a w := by
  cases hoK : ops[K]? with
  | none => rw [hoK] at hw; cases hw
  | some oK =>
    rw [hoK] at hw
    obtain ⟨e, he, h2⟩ := Array.any_eq_true'.1 hw
    rw [Bool.and_eq_true] at h2
    exact rt_first (V := T) (I := fun l => l.getD K true = false) hi (Region.noSelect_spec hs) hQ (by simpa using hiK) (fun _ _ q k => k.2 q) (fun l j q h1 h3 h4 => by
      have hjK : j ≠ K := fun k => by subst k; exact beside h1 h3 hoK e he h2.1 (by simpa using h2.2)
      rw [getD_set_no hjK]; exact q) fuel listed a w (Region.free_spec hi hf) (by simpa using hr) hy hK ⟨hS.1, fun _ => hS.2⟩ h
/-- Each of the operations comes up next. -/
def RtReady (P : Program) (md : Region.Mode) (ops : Array Oper) (Q : Exit → Act → World → Prop) (S T : World → Prop) (K : Nat) (fuel : Nat) (listed : Array Bool) (a : Act) (w : World) (rs : List Nat) : Prop :=
  ∀ i ∈ rs, wpOp P ops Q i (fun a' w' => (S w' ∧ ((listed.setIfInBounds i true).getD K true = false → T w')) ∧ wpAnyT P md ops Q S T K fuel (listed.setIfInBounds i true) a' w') a w
theorem RtReady.nil {fuel : Nat} {listed : Array Bool} {a : Act} {w : World} : RtReady P md ops Q S T K fuel listed a w [] := fun _ h => by cases h
/-- Ahead of K: behind it S and T hold. -/
theorem RtReady.consT {fuel : Nat} {listed : Array Bool} {a : Act} {w : World} {i : Nat} {o : Oper} {rs : List Nat} (ho : ops[i]? = some o)
    (h : ∀ K' : Act → World → Prop, Shut (∀ a w, S w ∧ T w → (S w ∧ T w → wpAnyT P md ops Q S T K fuel (listed.setIfInBounds i true) a w) → K' a w) → if Region.wanted o (yielded ops a.tmps) = true then Oper.wp P o a w K' Q else K' (a.put o.dst undef) w)
    (hs : RtReady P md ops Q S T K fuel listed a w rs) : RtReady P md ops Q S T K fuel listed a w (i :: rs) := fun j hj => by
  rcases List.mem_cons.1 hj with rfl | hj
  · exact wpOp_step ho (fun K' hK => h K' (fun a w hS hW => hK a w ⟨⟨hS.1, fun _ => hS.2⟩, hW hS⟩))
  · exact hs j hj
/-- K, and what comes behind it: S alone is shown. -/
theorem RtReady.consS {fuel : Nat} {listed : Array Bool} {a : Act} {w : World} {i : Nat} {o : Oper} {rs : List Nat} (ho : ops[i]? = some o) (hk : (listed.setIfInBounds i true).getD K true = true)
    (h : ∀ K' : Act → World → Prop, Shut (∀ a w, S w → (S w → wpAnyT P md ops Q S T K fuel (listed.setIfInBounds i true) a w) → K' a w) → if Region.wanted o (yielded ops a.tmps) = true then Oper.wp P o a w K' Q else K' (a.put o.dst undef) w)
    (hs : RtReady P md ops Q S T K fuel listed a w rs) : RtReady P md ops Q S T K fuel listed a w (i :: rs) := fun j hj => by
  rcases List.mem_cons.1 hj with rfl | hj
  · exact wpOp_step ho (fun K' hK => h K' (fun a w hS hW => hK a w ⟨⟨hS, fun e => by rw [hk] at e; cases e⟩, hW hS⟩))
  · exact hs j hj
theorem rt_ready {rs : List Nat} {fuel : Nat} {listed : Array Bool} {a : Act} {w : World} (hr : Region.ready md ops listed = rs) (hne : rs ≠ [])
    (h : RtReady P md ops Q S T K fuel listed a w rs) : wpAnyT P md ops Q S T K (fuel + 1) listed a w :=
  ⟨fun h0 => absurd (hr ▸ h0) hne, hr ▸ h⟩
theorem rt_done {listed : Array Bool} {a : Act} {w : World} (hr : Region.ready md ops listed = []) (h : Q .normal a w) :
    ∀ fuel, wpAnyT P md ops Q S T K fuel listed a w
  | 0 => ⟨hr, h⟩
  | _ + 1 => ⟨fun _ => h, by rw [hr]; simp⟩
/-- The beginning. -/
theorem wp_region_rt (S T : World → Prop) (K : Nat) {id : Nat} {a : Act} {w : World} (hm : P.follows .mixedOrders = true) (hS : S w.drew ∧ T w.drew)
    (h : S w.drew ∧ T w.drew → wpAnyT P .any ops Q S T K ops.size (Array.replicate ops.size false) a w.drew) : (Code.region id ops true).wp P Q a w :=
  wp_region_any hm (wpAny_of_t _ _ _ _ (h hS))
/-- Ahead of K. -/
theorem rt_takeA {i : Nat} {oi : Oper} {v : Value} {fuel : Nat} {listed : Array Bool} {a : Act} {w : World} (hi : ops[i]? = some oi)
    (hs : Region.noSelect ops = true) (hf : Region.free md ops listed i = true) (hr : (Region.ready md ops listed).contains i = true) (hiK : (i == K) = false)
    (hQ : ∀ c a w, Q (.panic c) (a.put oi.dst v) w → Q (.panic c) a w) (hy : YieldsIf P ops S oi v a) (hS : S w ∧ T w)
    (h : wpAnyT P md ops Q S T K fuel (listed.setIfInBounds i true) (a.put oi.dst v) w) : wpAnyT P md ops Q S T K (fuel + 1) listed a w := rt_takeS hi hs hf hr hiK hQ hy ⟨hS.1, fun _ => hS.2⟩ h
/-- Behind K. -/
theorem rt_takeB {i : Nat} {oi : Oper} {v : Value} {fuel : Nat} {listed : Array Bool} {a : Act} {w : World} (hi : ops[i]? = some oi)
    (hs : Region.noSelect ops = true) (hf : Region.free md ops listed i = true) (hr : (Region.ready md ops listed).contains i = true) (hiK : (i == K) = false) (hk : listed.getD K true = true)
    (hQ : ∀ c a w, Q (.panic c) (a.put oi.dst v) w → Q (.panic c) a w) (hy : YieldsIf P ops S oi v a) (hS : S w)
    (h : wpAnyT P md ops Q S T K fuel (listed.setIfInBounds i true) (a.put oi.dst v) w) : wpAnyT P md ops Q S T K (fuel + 1) listed a w := rt_takeS hi hs hf hr hiK hQ hy ⟨hS, fun e => by rw [hk] at e; cases e⟩ h
end
end Go.Proofs.YthkijncnndoafaaDoor
