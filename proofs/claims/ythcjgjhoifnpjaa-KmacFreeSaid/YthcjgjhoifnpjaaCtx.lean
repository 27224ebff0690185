import Derived.Test.YthcjgjhoifnpjaaGen
import Derived.RangeFuncNested
import Derived.RangeFuncCalls
import Derived.RangeFuncLeaves
import Derived.OrdersIn
import Derived.Deep.RegionHeld3
set_option maxRecDepth 100000
/- A range over a function inside the widest fence: regions that draw are walked there by the plain words; a round is one lemma; the statement is another. -/
namespace Go.Proofs.Ythcjgjhoifnpjaa
open Go.RowKit

/-- The widest fence, in a round or in none. -/
abbrev wideR (r : Option Nat) : Fence := { Fence.wide with round := r }
theorem callsR {r : Option Nat} {n : Nat} {P : Program} {f : FuncId} {args : Array Value} {w : World} {R : Ending → World → Prop} (h : Calls P f args w R) : CallsIn (wideR r) n P f args w R :=
  (callsIn_wide (n := n)).2 h
theorem rowsR {r : Option Nat} {n : Nat} {P : Program} {f : String} {args : Array Value} {w : World} {R : Value → World → Prop} (h : Rows P f args w R) : RowsIn (wideR r) n P f args w R :=
  fun c cs _ => let ⟨v, w', q, s⟩ := h c cs; ⟨v, w', q, (stepsIn_wide (P := P)).2 s⟩
theorem deepR {r : Option Nat} {n : Nat} : (wideR r).depth.isSome = true → 1 ≤ n := fun h => absurd h (by simp [Fence.wide])
section
variable {P : Program} {r : Option Nat} {n : Nat} {ops : Array Oper} {Q : Exit → Act → World → Prop}
theorem upon_R {o : Oper} {a : Act} {K : Act → World → Prop} {x : Result Next} (h : o.upon P a K Q x) : o.uponIn (wideR r) n P a K Q x := by
  cases x with
  | ok x w' =>
    cases x with
    | enter f args => exact ⟨deepR, callsR h⟩
    | row f args => exact ⟨deepR, rowsR h⟩
    | round l f t s b => exact h.elim
    | _ => exact h
  | halt x w' => cases x <;> exact h
theorem opIn_R {i : Nat} {K K' : Act → World → Prop} {a : Act} {w : World} (hd : ∀ (j : Nat) (o : Oper), ops[j]? = some o → ∀ c, o.op ≠ .defer c) (hQ : ∀ a w, ¬ Q .outgrown a w) (hK : ∀ a w, K a w → K' a w)
    (h : wpOp P ops Q i K a w) : wpOpIn (wideR r) n P ops Q i K' a w := by
  have h := wpOp_mono hK h
  unfold wpOp at h
  unfold wpOpIn
  cases ho : ops[i]? with
  | none => rw [ho] at h; exact h
  | some o =>
    rw [ho] at h
    simp only at h ⊢
    by_cases hw : Region.wanted o (yielded ops a.tmps) = true
    · rw [if_pos hw] at h ⊢
      refine ⟨fun _ _ => trivial, ?_⟩
      rw [Oper.semAt_eq _ _ _ (hd i o ho)]
      rcases h with h | ⟨_, a', w', h⟩
      · exact upon_R h
      · exact absurd h (hQ _ _)
    · rw [if_neg hw] at h ⊢
      exact ⟨fun _ _ => trivial, h⟩
theorem anyIn_R (hd : ∀ (j : Nat) (o : Oper), ops[j]? = some o → ∀ c, o.op ≠ .defer c) (hQ : ∀ a w, ¬ Q .outgrown a w) {md : Region.Mode} : ∀ (fuel : Nat) (listed : Array Bool) (a : Act) (w : World), wpAny P md ops Q fuel listed a w → wpAnyIn (wideR r) n P md ops Q fuel listed a w
  | 0, _, _, _, h => h
  | fuel + 1, _, _, _, h => ⟨h.1, fun i hi => opIn_R hd hQ (fun a w q => anyIn_R hd hQ fuel _ a w q) (h.2 i hi)⟩
/-- What is wanted of a region: that it comes to its end. -/
def nrm (Q : Exit → Act → World → Prop) : Exit → Act → World → Prop := Exit.then (fun a w => Q .normal a w) (fun _ _ _ => False)
theorem nrm_in {c : Code} {a : Act} {w : World} (h : c.wpIn (wideR r) n P (nrm Q) a w) : c.wpIn (wideR r) n P Q a w :=
  wpIn_mono h fun e _ _ q => by cases e <;> first | exact q | exact q.elim
theorem noDefer (hd : ops.all (fun o => match o.op with | .defer _ => false | _ => true) = true) (j : Nat) (o : Oper) (ho : ops[j]? = some o) (c : Call) : o.op ≠ .defer c := fun hc => by
  obtain ⟨hj, ho'⟩ := Array.getElem?_eq_some_iff.1 ho
  have h1 := (Array.all_eq_true.1 hd) j hj
  rw [ho', hc] at h1
  cases h1
/-- A region that draws, in a round or in none: by the plain words' own start. -/
theorem region_R {id : Nat} {a : Act} {w : World} (S : World → Prop) (hm : P.follows .mixedOrders = true) (hd : ops.all (fun o => match o.op with | .defer _ => false | _ => true) = true) (hS : S w.drew)
    (h : S w.drew → wpAnyH P .any ops (nrm Q) S ops.size (Array.replicate ops.size false) a w.drew) : (Code.region id ops true).wpIn (wideR r) n P Q a w :=
  nrm_in (wpIn_region_any hm (anyIn_R (noDefer hd) (fun _ _ h => h) _ _ _ _ (wpAny_of_held _ _ _ _ (h hS))))
theorem listIn_R (hQ : ∀ a w, ¬ Q .outgrown a w) : ∀ (l : List Oper) (a : Act) (w : World), (∀ o ∈ l, ∀ c, o.op ≠ .defer c) → wpList P ops Q l a w → wpListIn (wideR r) n P ops Q l a w
  | [], _, _, _, h => h
  | o :: rest, a, w, hd, h => by
    have ih := listIn_R hQ rest
    unfold wpList at h
    unfold wpListIn
    by_cases hw : Region.wanted o (yielded ops a.tmps) = true
    · rw [if_pos hw] at h ⊢
      refine ⟨fun _ _ => trivial, ?_⟩
      rw [Oper.semAt_eq _ _ _ (hd o (by simp))]
      rcases h with h | ⟨_, a', w', h⟩
      · exact upon_R (Oper.wp_mono (fun a w q => ih a w (fun o ho => hd o (by simp [ho])) q) h)
      · exact absurd h (hQ _ _)
    · rw [if_neg hw] at h ⊢
      exact ⟨fun _ _ => trivial, ih _ _ (fun o ho => hd o (by simp [ho])) h⟩
/-- A region in the text's order. -/
theorem region0_R {id : Nat} {l : List Oper} {a : Act} {w : World} (hd : l.toArray.all (fun o => match o.op with | .defer _ => false | _ => true) = true)
    (h : wpList P l.toArray (nrm Q) l a w) : (Code.region id l.toArray false).wpIn (wideR r) n P Q a w :=
  nrm_in (wpIn_region_lit (listIn_R (fun _ _ h => h) l a w (fun o ho => by
    obtain ⟨j, hj, he⟩ := List.getElem_of_mem ho
    exact noDefer hd j o (by simp [← he, hj])) h))
end

/-- How a round may be left, and what is wanted then. -/
def endPost (l : Nat) (rec : Loop) (R : Ending → World → Prop) : Exit → Act → World → Prop
  | .normal, _, w => w.heap[l]? = some (.loop { rec with state := .busy }) ∧ R (.returned (.bool true)) (w.putObj l (.loop { rec with state := .ready, pending := none }))
  | .exit id, _, w => w.heap[l]? = some (.loop { rec with state := .busy }) ∧ R (.returned (.bool false)) (w.putObj l (.loop { rec with state := .done, pending := some (.exit id) }))
  | .ret, _, w => w.heap[l]? = some (.loop { rec with state := .busy }) ∧ R (.returned (.bool false)) (w.putObj l (.loop { rec with state := .done, pending := some .ret }))
  | .goto _, _, _ => False
  | .panic _, _, _ => False
  | .outgrown, _, _ => False
/-- A call of yield: the loop's left side, then its body, in a round. -/
theorem round_wide {P : Program} {m l : Nat} {rec : Loop} {args : Array Value} {W : World} {R : Ending → World → Prop} {tmps : Array Value} {ps : Array Tmp} {assign body : Code} (hl : W.heap[l]? = some (.loop rec)) (hr : rec.state = .ready)
    (h2 : rec.tmps = tmps) (h3 : rec.params = ps) (h4 : rec.assign = assign) (h5 : rec.body = body) (hs : args.size = ps.size)
    (h : assign.wpIn (wideR (some l)) m P (Exit.then (fun a₁ w₁ => w₁.heap[l]? = some (.loop rec) ∧ body.wpIn (wideR (some l)) m P (endPost l rec R) a₁ (w₁.putObj l (.loop { rec with state := .busy }))) (fun _ _ _ => False))
      { tmps := (ps.zip args).foldl (fun t (p, v) => t.setIfInBounds p v) tmps, defers := [] } W) :
    YieldAt Fence.wide m P l args W R := by
  subst h2 h3 h4 h5
  refine ⟨_, _, _, _, run_yield hl hs, roundIn_of_wpIn trivial (wpIn_mono h ?_)⟩
  intro e a w hq
  cases e with
  | normal =>
    refine ⟨_, run_beginRound hq.1 hr, wpIn_mono hq.2 ?_⟩
    intro e a w hq
    cases e with
    | normal => exact ⟨_, _, run_endRound none hq.1, hq.2⟩
    | exit id => exact ⟨_, _, run_endRound (some (.exit id)) hq.1, hq.2⟩
    | ret => exact ⟨_, _, run_endRound (some .ret) hq.1, hq.2⟩
    | _ => exact hq.elim
  | _ => exact hq.elim
/-- The statement: the function that is ranged over is called, with the loop's record laid ahead of it. -/
theorem range_wide {P : Program} {n : Nat} {g : Operand} {ps : Array Tmp} {assign body : Code} {Q : Exit → Act → World → Prop} {a : Act} {w : World} {gf : Nat} {lb : Array Value} (l : Nat) (hl : w.heap.size + 1 = l)
    (hg : a.eval g = .func (.func gf) #[] lb) (eg : ∀ args w, (callFunc gf args).run P w = .ok (.enter gf args) w)
    (h : ∀ rec : Loop, rec.state = .ready → rec.pending = none → rec.tmps = a.tmps → rec.params = ps → rec.assign = assign → rec.body = body →
      Calls P gf (#[.func (.yield l) #[] #[]] ++ lb) ((w.alloc (.deferred (some []))).alloc (.loop rec)) fun e w' =>
      ∃ v rec, e = .returned v ∧ w'.heap[l]? = some (.loop rec) ∧ rec.state ≠ .busy ∧
        (match rec.pending with
        | none => Q .normal { a with defers := { target := .collected w.heap.size, args := #[] } :: a.defers } (w'.putObj l (.loop { rec with state := .exhausted }))
        | some c => c.wpIn Fence.wide n P Q { a with defers := { target := .collected w.heap.size, args := #[] } :: a.defers } (w'.putObj l (.loop { rec with state := .exhausted })))) :
    (Code.rangeFunc g ps assign body).wpIn Fence.wide n P Q a w := by
  subst hl
  refine wpIn_rangeFunc fun fn _ => ?_
  obtain ⟨rec, hrec⟩ : ∃ rec : Loop, { state := .ready, pending := none, fn, tmps := a.tmps, params := ps, assign, body, defers := w.heap.size } = rec := ⟨_, rfl⟩
  have h := h rec (by rw [← hrec]) (by rw [← hrec]) (by rw [← hrec]) (by rw [← hrec]) (by rw [← hrec]) (by rw [← hrec])
  have he := run_enterLoop_outer (P := P) (w := w) fn a.tmps ps assign body
  rw [hrec] at he
  obtain ⟨W1, hW1⟩ : ∃ W1, (w.alloc (.deferred (some []))).alloc (.loop rec) = W1 := ⟨_, rfl⟩
  rw [hW1] at h he
  refine ⟨w.heap.size + 1, [{ target := .collected w.heap.size, args := #[] }], W1, { target := .fn (.func gf) lb, args := #[.func (.yield (w.heap.size + 1)) #[] #[]] }, W1, gf, #[.func (.yield (w.heap.size + 1)) #[] #[]] ++ lb, W1, he, ?_, fun _ _ => trivial, ?_, deepR (r := none), ?_⟩
  · simp only [resolve, hg]
    simp [go_sem]
  · simp [invoke, go_sem, eg]
  · refine (callsIn_wide.2 h).mono ?_
    rintro e w' ⟨v, rec, rfl, hl, hb, hq⟩
    exact ⟨rec.pending, _, run_endLoop hl hb, hq⟩
end Go.Proofs.Ythcjgjhoifnpjaa
