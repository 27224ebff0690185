import Derived.Test.YtpjgpiieminaoaaGreatDoorAcv
import Derived.Test.YtpjgpiieminaoaaGreatDoorGen
import Derived.Test.YtpjgpiieminaoaaGreatDoorGdt
import Derived.RangeFuncNested
import Derived.RangeFuncCalls
import Derived.RangeFuncLeaves
import Derived.OrdersIn
import Derived.Deep.RegionHeld3
import Derived.Test.YtpjgpiieminaoaaGreatDoorBop
import Derived.Test.YtpjgpiieminaoaaGreatDoorFrp
import Derived.Shelf.Abstract
import Derived.Shelf.RegionOpen
import Derived.WalkKit
import Derived.OwnWalkIn
import Derived.TacticsInMore
import Derived.Sort.LoopGhostIn
import Derived.LoopIn
import Derived.Test.YtpjgpiieminaoaaGreatDoorProg
import Derived.Sort.CutIn
/- General: a struct that comes in: a bool, two ints, eight words, a byte, and a slice of words. -/
namespace Go.Proofs.YtpjgpiieminaoaaGreatDoor
open Go.ChangeShapes Go.WideShapes Go.ChangeAt Go.RowKit Go.Deep
set_option maxRecDepth 100000
theorem wdL_all {zs : List Int} (h : ∀ z ∈ zs, (Lit.int .u64 z).wf = true) : ∃ x : Nat → Nat, zs = wdL x zs.length ∧ ∀ i, x i < 2 ^ 64 := by
  obtain ⟨h1, h2⟩ := wdL_of h
  refine ⟨fun i => if i < zs.length then (nth zs i).toNat else 0, ?_, fun i => ?_⟩
  · refine h1.trans ?_
    unfold wdL
    refine List.map_congr_left fun i hi => ?_
    show ((nth zs i).toNat : Int) = ((if i < zs.length then (nth zs i).toNat else 0 : Nat) : Int)
    rw [if_pos (List.mem_range.1 hi)]
  · show (if i < zs.length then (nth zs i).toNat else 0) < 2 ^ 64
    split
    · exact h2 i (by assumption)
    · exact Nat.two_pow_pos 64
theorem askG_open {H : Type} {enc : TypeId × Value → H} {P : Program} {W : World} {held : Bool} {t tb ti ta t8 te s : TypeId} {fs : Array Field} {base : Nat} {v : Value} {d : DataW H} {p : List MemPlace} {ts : List TypeId} {ds : List (DataW H)} {j : Nat}
    (ht : P.underlying t = some (.struct fs)) (hfs : fs.toList.map (fun f => (f.type, f.offset)) = [(tb, 0), (ti, 1), (ti, 2), (ta, 3), (t8, 11), (s, 12)]) (hb : P.underlying tb = some .bool) (hi : P.underlying ti = some (.int .i64)) (ha : P.underlying ta = some (.array 8 te)) (h8 : P.underlying t8 = some (.int .u8)) (he : P.underlying te = some (.int .u64)) (hs : P.underlying s = some (.slice te))
    (cb : P.cellsOf tb = 1) (ci : P.cellsOf ti = 1) (ca : P.cellsOf ta = 8) (c8b : P.cellsOf t8 = 1) (cs : P.cellsOf s = 1) (ct : P.cellsOf t = 13) (ce : P.cellsOf te = 1) (be : P.bytesOf te = 8)
    (hv : Value.okWide P W .any base t v) (h : DataW.Trod enc P W 0 (fun _ => true) held t v d p) (hlt : ∀ x ∈ p, x.block < W.heap.size)
    (hsz : (DataW.weightsEach P ts ds).all (· ≤ reachBytes) = true) (hj : ts[j]? = some t) (hd : ds[j]? = some d) :
    ∃ (b : Bool) (kd z : Int) (my : Nat) (mv : Value) (x tw : Nat → Nat) (TN : Nat), v = .agg (asG b kd z x my mv) ∧ (Lit.int .i64 z).wf = true ∧ (∀ i, x i < 2 ^ 64) ∧ my < 256 ∧
      RdS .u64 W (fun g => g < W.heap.size) mv (wdL tw TN) ∧ (∀ i, tw i < 2 ^ 64) ∧ TN ≤ 17592186043904 := by
  obtain ⟨cells, rfl, hcs⟩ : ∃ cs, v = .agg cs ∧ cs.size = P.cellsOf t := by
    unfold Value.okWide at hv
    rw [ht] at hv
    obtain ⟨cs, h1, h2, _⟩ := hv
    exact ⟨cs, h1, h2⟩
  rw [ct] at hcs
  obtain ⟨l⟩ := cells
  match l, hcs with
  | [c0, c1, c2, c3, c4, c5, c6, c7, c8, c9, c10, c11, c12], _ =>
    obtain ⟨fuel, hf⟩ := h
    obtain ⟨xs, m, _, hx, _, hlen, hget⟩ := DataW.trod_struct ht hf
    have hfl : fs.size = 6 := by have := congrArg List.length hfs; simpa using this
    rw [hfl] at hlen
    have hfi : ∀ i q o, [(tb, 0), (ti, 1), (ti, 2), (ta, 3), (t8, 11), (s, 12)][i]? = some (q, o) → ∃ f : Field, fs[i]? = some f ∧ f.type = q ∧ f.offset = o := fun i q o hq => by
      rw [← hfs, List.getElem?_map, Option.map_eq_some_iff] at hq
      obtain ⟨f, h1, h2⟩ := hq
      injection h2 with h3 h4
      exact ⟨f, by simpa using h1, h3, h4⟩
    match xs, hlen with
    | [y0, y1, y2, y3, y4, y5], _ =>
      simp only [Prod.mk.injEq] at hx
      obtain ⟨rfl, rfl⟩ := hx
      have g : ∀ (i : Nat) (q : TypeId) (o : Nat), [(tb, 0), (ti, 1), (ti, 2), (ta, 3), (t8, 11), (s, 12)][i]? = some (q, o) → DataW.trod enc P W 0 (fun _ => true) held m q (([c0, c1, c2, c3, c4, c5, c6, c7, c8, c9, c10, c11, c12].drop o).take (P.cellsOf q)) = [y0, y1, y2, y3, y4, y5][i]? := fun i q o hq => by
        obtain ⟨f, h1, rfl, rfl⟩ := hfi i q o hq
        exact hget i f h1
      have g0 := g 0 tb 0 rfl
      have g1 := g 1 ti 1 rfl
      have g2 := g 2 ti 2 rfl
      have g3 := g 3 ta 3 rfl
      have g4 := g 4 t8 11 rfl
      have g5 := g 5 s 12 rfl
      rw [cb] at g0
      rw [ci] at g1 g2
      rw [ca] at g3
      rw [c8b] at g4
      rw [cs] at g5
      simp only [List.drop_succ_cons, List.drop_zero, List.take_succ_cons, List.take_zero, List.getElem?_cons_zero, List.getElem?_cons_succ] at g0 g1 g2 g3 g4 g5
      obtain ⟨b, e0, _⟩ := DataW.trod_bool hb g0
      obtain ⟨kd, e1, _, w1⟩ := DataW.trod_int hi g1
      obtain ⟨z, e2, _, w2⟩ := DataW.trod_int hi g2
      obtain ⟨my, e4, _, w4⟩ := DataW.trod_int h8 g4
      obtain ⟨zs, n, _, _, _, hl3, hw3⟩ := DataW.trod_array ha g3
      have hword : ∀ i, i < 8 → ∀ c, (([c3, c4, c5, c6, c7, c8, c9, c10] : List Value)[i]?) = some c → ∃ q : Nat, c = .int .u64 (q : Int) ∧ q < 2 ^ 64 := fun i hi c hc => by
        have hw := hw3 i hi
        rw [ce, Nat.mul_one] at hw
        have e : (([c3, c4, c5, c6, c7, c8, c9, c10] : List Value).drop i).take 1 = [c] := by
          rcases (by omega : i = 0 ∨ i = 1 ∨ i = 2 ∨ i = 3 ∨ i = 4 ∨ i = 5 ∨ i = 6 ∨ i = 7) with rfl | rfl | rfl | rfl | rfl | rfl | rfl | rfl <;> simp_all
        rw [e, List.getElem?_eq_getElem (by omega)] at hw
        obtain ⟨q, e1, _, wq⟩ := DataW.trod_int he hw
        simp only [List.cons.injEq, and_true] at e1
        obtain ⟨b1, b2⟩ := bounds_u64 wq
        exact ⟨q.toNat, by rw [e1]; congr 1; omega, by omega⟩
      obtain ⟨q0, r0, l0⟩ := hword 0 (by decide) c3 rfl
      obtain ⟨q1, r1, l1⟩ := hword 1 (by decide) c4 rfl
      obtain ⟨q2, r2, l2⟩ := hword 2 (by decide) c5 rfl
      obtain ⟨q3, r3, l3⟩ := hword 3 (by decide) c6 rfl
      obtain ⟨q4, r4, l4⟩ := hword 4 (by decide) c7 rfl
      obtain ⟨q5, r5, l5⟩ := hword 5 (by decide) c8 rfl
      obtain ⟨q6, r6, l6⟩ := hword 6 (by decide) c9 rfl
      obtain ⟨q7, r7, l7⟩ := hword 7 (by decide) c10 rfl
      simp only [List.cons.injEq, and_true] at e0 e1 e2 e4
      subst e0 e1 e2 e4 r0 r1 r2 r3 r4 r5 r6 r7
      have hall : ∀ (i : Nat) (y : DataW H), (fs.toList.map (·.type))[i]? = some s → ([y0, y1, y2, y3, y4, y5].map (·.1))[i]? = some y → ∀ k ∈ y.weights P s, k ≤ reachBytes := fun i y h1 h2 k hk => by
        have h8 := List.all_eq_true.1 hsz k (DataW.weights_mem_each hj hd k (by simp only [DataW.weights, ht]; exact each_has h1 h2 k hk))
        exact of_decide_eq_true h8
      have htp : fs.toList.map (·.type) = [tb, ti, ti, ta, t8, s] := by
        have := congrArg (List.map Prod.fst) hfs
        rw [List.map_map] at this
        exact this
      obtain ⟨zs, ⟨a, cap, rfl, hl, hw, hp⟩, hcap⟩ := rd_of_part (k := .u64) hs he ce be g5 (fun x hx => hlt x (by simp [hx])) (hall 5 y5.1 (by rw [htp]; rfl) rfl)
      obtain ⟨tw, hz, hbd⟩ := wdL_all hw
      have hc2 := hcap _ _ _ rfl
      have h88 : IntKind.u64.bits / 8 = 8 := rfl
      obtain ⟨m1, m2⟩ := bounds_u8 w4
      obtain ⟨mn, rfl⟩ := Int.eq_ofNat_of_zero_le m1
      refine ⟨b, kd, z, mn, _, fun i => [q0, q1, q2, q3, q4, q5, q6, q7].getD i 0, tw, zs.length, rfl, w2, fun i => ?_, by omega, hz ▸ ⟨a, cap, rfl, hc2.1, hc2.2, hl, hw, fun h0 => ?_⟩, hbd, by rw [h88] at hl; omega⟩
      · by_cases h : i < 8
        · rcases (by omega : i = 0 ∨ i = 1 ∨ i = 2 ∨ i = 3 ∨ i = 4 ∨ i = 5 ∨ i = 6 ∨ i = 7) with rfl | rfl | rfl | rfl | rfl | rfl | rfl | rfl <;> assumption
        · show ([q0, q1, q2, q3, q4, q5, q6, q7].getD i 0) < 2 ^ 64
          have e : [q0, q1, q2, q3, q4, q5, q6, q7][i]? = none := List.getElem?_eq_none (by simp; omega)
          rw [List.getD_eq_getElem?_getD, e]
          exact Nat.two_pow_pos 64
      · obtain ⟨b, off, e1, e2, e3⟩ := hp h0
        exact ⟨b, off, e1, e2, e2, e3⟩
end Go.Proofs.YtpjgpiieminaoaaGreatDoor

/- A range over a function inside the widest fence: regions that draw are walked there by the plain words; a round is one lemma; the statement is another. -/
namespace Go.Proofs.YtpjgpiieminaoaaGreatDoor
open Go.RowKit

/-- The widest fence, in a round or in none. -/
abbrev wideR (r : Option Nat) : Fence := { Fence.wide with round := r }
theorem callsR {r : Option Nat} {n : Nat} {P : Program} {f : FuncId} {args : Array Value} {w : World} {R : Ending → World → Prop} (h : Calls P f args w R) : CallsIn (wideR r) n P f args w R :=
  (callsIn_wide (n := n)).2 h
theorem rowsR {r : Option Nat} {n : Nat} {P : Program} {f : String} {args : Array Value} {w : World} {R : Value → World → Prop} (h : Rows P f args w R) : RowsIn (wideR r) n P f args w R :=
  fun c cs _ => let ⟨v, w', q, s⟩ := h c cs; ⟨v, w', q, (stepsIn_wide (P := P)).2 s⟩
theorem deepR {r : Option Nat} {n : Nat} : (wideR r).depth.isSome = true → 1 ≤ n := fun h => absurd h (by simp [Fence.wide])
section
variable {P : Program} {r : Option Nat} {n : Nat} {ops : Array Oper} {Q : Exit → Act → World → Prop}
theorem upon_R {o : Oper} {a : Act} {K : Act → World → Prop} {x : Result Next} (h : o.upon P a K Q x) : o.uponIn (wideR r) n P a K Q x := by
  cases x with
  | ok x w' =>
    cases x with
    | enter f args => exact ⟨deepR, callsR h⟩
    | row f args => exact ⟨deepR, rowsR h⟩
    | round l f t s b => exact h.elim
    | _ => exact h
  | halt x w' => cases x <;> exact h
theorem opIn_R {i : Nat} {K K' : Act → World → Prop} {a : Act} {w : World} (hd : ∀ (j : Nat) (o : Oper), ops[j]? = some o → ∀ c, o.op ≠ .defer c) (hQ : ∀ a w, ¬ Q .outgrown a w) (hK : ∀ a w, K a w → K' a w)
    (h : wpOp P ops Q i K a w) : wpOpIn (wideR r) n P ops Q i K' a w := by
  have h := wpOp_mono hK h
  unfold wpOp at h
  unfold wpOpIn
  cases ho : ops[i]? with
  | none => rw [ho] at h; exact h
  | some o =>
    rw [ho] at h
    simp only at h ⊢
    by_cases hw : Region.wanted o (yielded ops a.tmps) = true
    · rw [if_pos hw] at h ⊢
      refine ⟨fun _ _ => trivial, ?_⟩
      rw [Oper.semAt_eq _ _ _ (hd i o ho)]
      rcases h with h | ⟨_, a', w', h⟩
      · exact upon_R h
      · exact absurd h (hQ _ _)
    · rw [if_neg hw] at h ⊢
      exact ⟨fun _ _ => trivial, h⟩
theorem anyIn_R (hd : ∀ (j : Nat) (o : Oper), ops[j]? = some o → ∀ c, o.op ≠ .defer c) (hQ : ∀ a w, ¬ Q .outgrown a w) {md : Region.Mode} : ∀ (fuel : Nat) (listed : Array Bool) (a : Act) (w : World), wpAny P md ops Q fuel listed a w → wpAnyIn (wideR r) n P md ops Q fuel listed a w
  | 0, _, _, _, h => h
  | fuel + 1, _, _, _, h => ⟨h.1, fun i hi => opIn_R hd hQ (fun a w q => anyIn_R hd hQ fuel _ a w q) (h.2 i hi)⟩
/-- What is wanted of a region: that it comes to its end. -/
def nrm (Q : Exit → Act → World → Prop) : Exit → Act → World → Prop := Exit.then (fun a w => Q .normal a w) (fun _ _ _ => False)
theorem nrm_in {c : Code} {a : Act} {w : World} (h : c.wpIn (wideR r) n P (nrm Q) a w) : c.wpIn (wideR r) n P Q a w :=
  wpIn_mono h fun e _ _ q => by cases e <;> first | exact q | exact q.elim
theorem noDefer (hd : ops.all (fun o => match o.op with | .defer _ => false | _ => true) = true) (j : Nat) (o : Oper) (ho : ops[j]? = some o) (c : Call) : o.op ≠ .defer c := fun hc => by
  obtain ⟨hj, ho'⟩ := Array.getElem?_eq_some_iff.1 ho
  have h1 := (Array.all_eq_true.1 hd) j hj
  rw [ho', hc] at h1
  cases h1
end

/-- How a round may be left, and what is wanted then. -/
def endPost (l : Nat) (rec : Loop) (R : Ending → World → Prop) : Exit → Act → World → Prop
  | .normal, _, w => w.heap[l]? = some (.loop { rec with state := .busy }) ∧ R (.returned (.bool true)) (w.putObj l (.loop { rec with state := .ready, pending := none }))
  | .exit id, _, w => w.heap[l]? = some (.loop { rec with state := .busy }) ∧ R (.returned (.bool false)) (w.putObj l (.loop { rec with state := .done, pending := some (.exit id) }))
  | .ret, _, w => w.heap[l]? = some (.loop { rec with state := .busy }) ∧ R (.returned (.bool false)) (w.putObj l (.loop { rec with state := .done, pending := some .ret }))
  | .goto _, _, _ => False
  | .panic _, _, _ => False
  | .outgrown, _, _ => False
/-- A call of yield: the loop's left side, then its body, in a round. -/
theorem round_wide {P : Program} {m l : Nat} {rec : Loop} {args : Array Value} {W : World} {R : Ending → World → Prop} {tmps : Array Value} {ps : Array Tmp} {assign body : Code} (hl : W.heap[l]? = some (.loop rec)) (hr : rec.state = .ready)
    (h2 : rec.tmps = tmps) (h3 : rec.params = ps) (h4 : rec.assign = assign) (h5 : rec.body = body) (hs : args.size = ps.size)
    (h : assign.wpIn (wideR (some l)) m P (Exit.then (fun a₁ w₁ => w₁.heap[l]? = some (.loop rec) ∧ body.wpIn (wideR (some l)) m P (endPost l rec R) a₁ (w₁.putObj l (.loop { rec with state := .busy }))) (fun _ _ _ => False))
      { tmps := (ps.zip args).foldl (fun t (p, v) => t.setIfInBounds p v) tmps, defers := [] } W) :
    YieldAt Fence.wide m P l args W R := by
  subst h2 h3 h4 h5
  refine ⟨_, _, _, _, run_yield hl hs, roundIn_of_wpIn trivial (wpIn_mono h ?_)⟩
  intro e a w hq
  cases e with
  | normal =>
    refine ⟨_, run_beginRound hq.1 hr, wpIn_mono hq.2 ?_⟩
    intro e a w hq
    cases e with
    | normal => exact ⟨_, _, run_endRound none hq.1, hq.2⟩
    | exit id => exact ⟨_, _, run_endRound (some (.exit id)) hq.1, hq.2⟩
    | ret => exact ⟨_, _, run_endRound (some .ret) hq.1, hq.2⟩
    | _ => exact hq.elim
  | _ => exact hq.elim
/-- The statement: the function that is ranged over is called, with the loop's record laid ahead of it. -/
theorem range_wide {P : Program} {n : Nat} {g : Operand} {ps : Array Tmp} {assign body : Code} {Q : Exit → Act → World → Prop} {a : Act} {w : World} {gf : Nat} {lb : Array Value} (l : Nat) (hl : w.heap.size + 1 = l)
    (hg : a.eval g = .func (.func gf) #[] lb) (eg : ∀ args w, (callFunc gf args).run P w = .ok (.enter gf args) w)
    (h : ∀ rec : Loop, rec.state = .ready → rec.pending = none → rec.tmps = a.tmps → rec.params = ps → rec.assign = assign → rec.body = body →
      Calls P gf (#[.func (.yield l) #[] #[]] ++ lb) ((w.alloc (.deferred (some []))).alloc (.loop rec)) fun e w' =>
      ∃ v rec, e = .returned v ∧ w'.heap[l]? = some (.loop rec) ∧ rec.state ≠ .busy ∧
        (match rec.pending with
        | none => Q .normal { a with defers := { target := .collected w.heap.size, args := #[] } :: a.defers } (w'.putObj l (.loop { rec with state := .exhausted }))
        | some c => c.wpIn Fence.wide n P Q { a with defers := { target := .collected w.heap.size, args := #[] } :: a.defers } (w'.putObj l (.loop { rec with state := .exhausted })))) :
    (Code.rangeFunc g ps assign body).wpIn Fence.wide n P Q a w := by
  subst hl
  refine wpIn_rangeFunc fun fn _ => ?_
  obtain ⟨rec, hrec⟩ : ∃ rec : Loop, { state := .ready, pending := none, fn, tmps := a.tmps, params := ps, assign, body, defers := w.heap.size } = rec := ⟨_, rfl⟩
  have h := h rec (by rw [← hrec]) (by rw [← hrec]) (by rw [← hrec]) (by rw [← hrec]) (by rw [← hrec]) (by rw [← hrec])
  have he := run_enterLoop_outer (P := P) (w := w) fn a.tmps ps assign body
  rw [hrec] at he
  obtain ⟨W1, hW1⟩ : ∃ W1, (w.alloc (.deferred (some []))).alloc (.loop rec) = W1 := ⟨_, rfl⟩
  rw [hW1] at h he
  refine ⟨w.heap.size + 1, [{ target := .collected w.heap.size, args := #[] }], W1, { target := .fn (.func gf) lb, args := #[.func (.yield (w.heap.size + 1)) #[] #[]] }, W1, gf, #[.func (.yield (w.heap.size + 1)) #[] #[]] ++ lb, W1, he, ?_, fun _ _ => trivial, ?_, deepR (r := none), ?_⟩
  · simp only [resolve, hg]
    simp [go_sem]
  · simp [invoke, go_sem, eg]
  · refine (callsIn_wide.2 h).mono ?_
    rintro e w' ⟨v, rec, rfl, hl, hb, hq⟩
    exact ⟨rec.pending, _, run_endLoop hl hb, hq⟩
end Go.Proofs.YtpjgpiieminaoaaGreatDoor

/- Boxes of any kind beside two machines, turned wherever they stand; a row of bytes that may be nil; a region that draws and ends in a store, in a round. -/
namespace Go.Proofs.YtpjgpiieminaoaaGreatDoor
open Go.RowKit Go.Deep
set_option maxRecDepth 100000
section
variable {Pm : World → Nat → Ms → (Nat → Prop) → Prop} {lo : Nat} {X0 : Nat → Prop} {W w0 wx wy : World} {p b : Nat} {S1 S2 : Ms} {bs l r : List (Nat × Obj)}
theorem Gy.newO (hM : Mach Pm) (h : Gy Pm lo X0 W w0 wx p b S1 S2 bs) (o : Obj) : Gy Pm lo X0 W w0 (wx.alloc o) p b S1 S2 ((wx.heap.size, o) :: bs) := by
  have hb := (Below.refl wx.heap.size wx).alloc (Nat.le_refl _) o
  have h' := h.self hM hb
  refine ⟨(h.z.more hM hb).less (fun k hk => ?_), fun q hq => ?_, h'.st, h.lo, h'.le, ?_⟩
  · rcases hk with e | ⟨q, hq, rfl⟩
    · exact .inl (.inl e)
    · rcases List.mem_cons.1 hq with rfl | hq
      · exact .inr ⟨Nat.le_refl _, by simp⟩
      · exact .inl (.inr ⟨q, hq, rfl⟩)
  · rcases List.mem_cons.1 hq with rfl | hq
    · exact ⟨h.le, heap_alloc_new _ _⟩
    · exact h'.bx q hq
  · rw [List.map_cons, List.nodup_cons]
    refine ⟨fun e => ?_, h.nd⟩
    obtain ⟨q, hq, e⟩ := List.mem_map.1 e
    have := h.lt hq
    have e' : q.1 = wx.heap.size := e
    omega
theorem Gy.perm {bs' : List (Nat × Obj)} (h : Gy Pm lo X0 W w0 wx p b S1 S2 bs) (hp : bs'.Perm bs) : Gy Pm lo X0 W w0 wx p b S1 S2 bs' :=
  h.sub (fun _ hz => hp.mem_iff.1 hz) ((hp.map _).nodup_iff.2 h.nd)
/-- A box is turned, wherever it stands. -/
theorem Gy.turnMid (hM : Mach Pm) {n : Nat} {o o' : Obj} (h : Gy Pm lo X0 W w0 wx p b S1 S2 (l ++ (n, o) :: r)) (hn : wy.heap[n]? = some o') (ho : ∀ k, k ≠ n → wy.heap[k]? = wx.heap[k]?) (hs : wx.heap.size ≤ wy.heap.size) (hos : wy.os = wx.os ∧ wy.tape = wx.tape ∧ wy.output = wx.output) : Gy Pm lo X0 W w0 wy p b S1 S2 (l ++ (n, o') :: r) :=
  (Gy.turn hM (h.perm List.perm_middle.symm) hn ho hs hos).perm List.perm_middle
theorem Gy.putMid (hM : Mach Pm) {n : Nat} {o : Obj} (h : Gy Pm lo X0 W w0 wx p b S1 S2 (l ++ (n, o) :: r)) (o' : Obj) : Gy Pm lo X0 W w0 (wx.putObj n o') p b S1 S2 (l ++ (n, o') :: r) :=
  h.turnMid hM (World.putObj_heap_same (h.lt (List.mem_append_right _ (List.mem_cons_self ..)))) (fun k hk => World.putObj_heap_other hk) (Nat.le_of_eq World.putObj_size.symm) ⟨rfl, rfl, rfl⟩
theorem Gy.cellMid (hM : Mach Pm) {n : Nat} {cs : Array Value} {T : TypeId} (h : Gy Pm lo X0 W w0 wx p b S1 S2 (l ++ (n, .cells cs T (0, 0)) :: r)) (i : Nat) (v : Value) : Gy Pm lo X0 W w0 (wx.setCell ⟨n, i, none⟩ v) p b S1 S2 (l ++ (n, .cells (cs.setIfInBounds i v) T (0, 0)) :: r) :=
  h.turnMid hM (heap_setCell_same wx n i cs T v (h.bx _ (List.mem_append_right _ (List.mem_cons_self ..))).2) (fun k hk => heap_setCell_other wx ⟨n, i, none⟩ k v hk) (by simp [World.setCell]) ⟨rfl, rfl, rfl⟩
/-- A row that may be nil: its box, if it has one. -/
def Orb (E : TypeId) (v : Value) (n : Nat) (f : Nat → Nat) (l : List (Nat × Obj)) : Prop :=
  v = .slice none 0 0 ∧ n = 0 ∧ l = [] ∨ ∃ g o, BoB E v n f g o ∧ l = [(g, o)]
theorem Orb.row {E : TypeId} {v : Value} {n : Nat} {f : Nat → Nat} {l : List (Nat × Obj)} {w : World} (h : Orb E v n f l) (hb : ∀ q ∈ l, w.heap[q.1]? = some q.2) : w.ownsRow 0 E 1 v n ((ns n f).map (Value.int .u8)) := by
  rcases h with ⟨rfl, rfl, rfl⟩ | ⟨g, o, h, rfl⟩
  · exact ⟨rfl, .inl ⟨rfl, rfl⟩⟩
  · exact h.row (hb (g, o) (List.mem_singleton.2 rfl))
end
/-- A region that draws, with a store K: what T tells holds ahead of it. In a round or in none. -/
theorem region_Rt {r : Option Nat} {n : Nat} {P : Program} {ops : Array Oper} {Q : Exit → Act → World → Prop} {id : Nat} {a : Act} {w : World} (S T : World → Prop) (K : Nat) (hm : P.follows .mixedOrders = true) (hd : ops.all (fun o => match o.op with | .defer _ => false | _ => true) = true) (hS : S w.drew ∧ T w.drew)
    (h : S w.drew ∧ T w.drew → wpAnyT P .any ops (nrm Q) S T K ops.size (Array.replicate ops.size false) a w.drew) : (Code.region id ops true).wpIn (wideR r) n P Q a w :=
  nrm_in (wpIn_region_any hm (anyIn_R (noDefer hd) (fun _ _ h => h) _ _ _ _ (wpAny_of_t _ _ _ _ (h hS))))
end Go.Proofs.YtpjgpiieminaoaaGreatDoor

/- Guard: what words stand for, opened one by one, told to whatever loop ranges over them. -/
namespace Go.Proofs.YtpjgpiieminaoaaGreatDoor
open Go.RowKit Go.Shelf Go.Deep
set_option maxRecDepth 100000
attribute [local go_sem] Oper.semAt_some
theorem gclamp_any (n t : Int) (ht : 0 ≤ t) (w : World) : Calls Tryz.prog 35 #[.int .i64 n, .int .i64 t] w fun e w' => e = .returned (.int .i64 (min (max n 0) t)) ∧ w' = w := by
  by_cases h0 : n < 0
  · have q1 : decide (0 > n) = true := decide_eq_true h0
    have q2 : decide (n < 0) = true := decide_eq_true h0
    have q5 : decide (n > 0) = false := decide_eq_false (by omega)
    have q6 : decide (0 < n) = false := decide_eq_false (by omega)
    have q3 : decide (t < 0) = false := decide_eq_false (by omega)
    have q4 : decide (0 > t) = false := decide_eq_false (by omega)
    rw [show min (max n 0) t = 0 by omega]
    go_enter Tryz.func35, Tryz.ntmps35
    go_wp2
    go_ret
    exact ⟨rfl, rfl⟩
  · rcases (by omega : n = 0 ∨ 0 < n) with rfl | h1
    · have q3 : decide (t < 0) = false := decide_eq_false (by omega)
      have q4 : decide (0 > t) = false := decide_eq_false (by omega)
      rw [show min (max (0 : Int) 0) t = 0 by omega]
      go_enter Tryz.func35, Tryz.ntmps35
      go_wp2
      go_ret
      exact ⟨rfl, rfl⟩
    · have q1 : decide (0 > n) = false := decide_eq_false (by omega)
      have q2 : decide (n < 0) = false := decide_eq_false (by omega)
      have q5 : decide (n > 0) = true := decide_eq_true h1
      have q6 : decide (0 < n) = true := decide_eq_true h1
      by_cases h2 : t < n
      · have q3 : decide (t < n) = true := decide_eq_true h2
        have q4 : decide (n > t) = true := decide_eq_true h2
        rw [show min (max n 0) t = t by omega]
        go_enter Tryz.func35, Tryz.ntmps35
        go_wp2
        go_ret
        exact ⟨rfl, rfl⟩
      · have q3 : decide (t < n) = false := decide_eq_false h2
        have q4 : decide (n > t) = false := decide_eq_false h2
        rw [show min (max n 0) t = n by omega]
        go_enter Tryz.func35, Tryz.ntmps35
        go_wp2
        go_ret
        exact ⟨rfl, rfl⟩
theorem gopened_any (b : Nat) (va : Option Addr) (L cap fB Bn : Nat) (w : World) : Calls Tryz.prog 36 #[.pointer (some ⟨b, 0, none⟩), .slice va L cap, .func (.func fB) #[] #[.pointer (some ⟨Bn, 0, none⟩)]] w fun e w' => e = .returned (.func (.func 66) #[] #[.pointer (some ⟨w.heap.size + 1, 0, none⟩), .pointer (some ⟨w.heap.size + 2, 0, none⟩), .pointer (some ⟨w.heap.size, 0, none⟩)]) ∧ w' = ((w.alloc (.cells #[.pointer (some ⟨b, 0, none⟩)] 27)).alloc (.cells #[.slice va L cap] 29)).alloc (.cells #[.func (.func fB) #[] #[.pointer (some ⟨Bn, 0, none⟩)]] 34) := by
  go_enter Tryz.func36, Tryz.ntmps36
  go_wp2
  go_ret
  exact ⟨rfl, rfl⟩
theorem gone_box {w : World} {b : Nat} {v : Value} {t : TypeId} (h : w.heap[b]? = some (.cells #[v] t (0, 0))) : w.cell? ⟨b, 0, none⟩ = some v := by simp [World.cell?, h]
set_option maxHeartbeats 3200000 in
theorem gopened_iter (J J' : Nat → World → Prop) (l Bm Bl Bf Bn fB b : Nat) (V : Nat → Nat → Int) (L : Nat) (va : Option Addr) (cap : Nat) (B : Nat → Int) (y : Nat → Nat) (C : Nat) (W : World)
    (hL : L ≤ 100000 ∧ L ≤ cap ∧ cap ≤ maxLen) (hC : C ≤ L ∧ (∀ k, k < C → 0 < B k) ∧ (C < L → B C ≤ 0)) (hJs : ∀ k A B, J k A → Below A.heap.size A B → J k B)
    (hJb : ∀ k A, J k A → A.heap[Bl]? = some (.cells #[.slice va L cap] 29 (0, 0)) ∧ A.heap[Bf]? = some (.cells #[.func (.func fB) #[] #[.pointer (some ⟨Bn, 0, none⟩)]] 34 (0, 0)) ∧ A.heap[Bm]? = some (.cells #[.pointer (some ⟨b, 0, none⟩)] 27 (0, 0)))
    (hJc : ∀ k A, J k A → ∀ g off, va = some ⟨g, off, none⟩ → ∀ j, j < L → ∀ c, c < 3 → A.cell? ⟨g, off + j * 3 + c, none⟩ = some (.int .i64 (V j c))) (hva : 0 < L → ∃ g off, va = some ⟨g, off, none⟩)
    (hB : ∀ k A, k < L → J k A → Calls Tryz.prog fB #[.int .i64 (k : Int), .pointer (some ⟨Bn, 0, none⟩)] A fun e w' => e = .returned (.int .i64 (B k)) ∧ w' = A)
    (hW : ∀ k A, k < C → J k A → Calls Tryz.prog 33 #[.pointer (some ⟨b, 0, none⟩), .agg (wdV (V k)), .int .i64 (B k)] A fun e w' => e = .returned (.int .u64 (y k : Int)) ∧ J' k w')
    (hY : ∀ k A, k < C → J' k A → YieldAt Fence.wide 4 Tryz.prog l #[.int .i64 (k : Int), .int .u64 (y k : Int)] A (fun e B => e = .returned (.bool true) ∧ J (k + 1) B))
    (h0 : J 0 W) (eB : ∀ args w, (callFunc fB args).run Tryz.prog w = .ok (.enter fB args) w) : Calls Tryz.prog 66 #[.func (.yield l) #[] #[], .pointer (some ⟨Bl, 0, none⟩), .pointer (some ⟨Bf, 0, none⟩), .pointer (some ⟨Bm, 0, none⟩)] W fun e w' => (∃ v, e = .returned v) ∧ J C w' := by
  have c0 := gone_box (hJb 0 W h0).1
  have H0 := hid h0
  have HL := hid hL
  have HC := hid hC
  have HJS := hid hJs
  have HJB := hid hJb
  have HJC := hid hJc
  have HVA := hid hva
  have HB := hid hB
  have HW := hid hW
  have HY := hid hY
  clear h0 hL hC hJs hJb hJc hva hB hW hY
  refine (callsIn_wide (n := 5)).1 ?_
  refine callsIn_of_wp Tryz.func66 rfl trivial ?_ rfl
  simp only [Tryz.ntmps66, List.size_toArray, List.length_cons, List.length_nil, Nat.reduceAdd, Nat.reduceSub, Array.replicate_succ, Array.replicate_zero, List.push_toArray, List.append_toArray, List.nil_append, List.cons_append]
  gi_wp2
  clear c0
  gi_loopg [5, 6, 7, 10] L (fun m _ _ _ iv wr => ∃ k : Nat, m + k = L ∧ k ≤ C ∧ iv = .int .i64 (k : Int) ∧ J k wr)
  case atStart => exact ⟨0, by omega, Nat.zero_le _, rfl, H0.out⟩
  case round =>
    clear H0
    obtain ⟨k, hgk, hkc, rfl, hj⟩ := hrel
    have HI := hid hj
    clear hj
    have hl := HL.out
    by_cases hlt : k < L
    · obtain ⟨g, off, rfl⟩ := HVA.out (by omega)
      have i1 : (k : Int) < (L : Int) := by omega
      have i0 : (0 : Int) ≤ (k : Int) := by omega
      have hcw := HJC.out k wr HI.out g off rfl k hlt
      have k0 : wr.cell? ⟨g, off + k * 3, none⟩ = some (.int .i64 (V k 0)) := hcw 0 (by decide)
      have k1 : wr.cell? ⟨g, off + k * 3 + 1, none⟩ = some (.int .i64 (V k 1)) := hcw 1 (by decide)
      have k2 : wr.cell? ⟨g, off + k * 3 + 2, none⟩ = some (.int .i64 (V k 2)) := hcw 2 (by decide)
      have HI2 := hid (HJS.out k wr _ HI.out ((Below.refl _ _).alloc (Nat.le_refl _) (.cells #[.int .i64 (V k 0), .int .i64 (V k 1), .int .i64 (V k 2)] 37)))
      have hjb := HJB.out k _ HI2.out
      have cf : (wr.alloc (.cells #[.int .i64 (V k 0), .int .i64 (V k 1), .int .i64 (V k 2)] 37)).cell? ⟨Bf, 0, none⟩ = some (.func (.func fB) #[] #[.pointer (some ⟨Bn, 0, none⟩)]) := gone_box hjb.2.1
      have cm : (wr.alloc (.cells #[.int .i64 (V k 0), .int .i64 (V k 1), .int .i64 (V k 2)] 37)).cell? ⟨Bm, 0, none⟩ = some (.pointer (some ⟨b, 0, none⟩)) := gone_box hjb.2.2
      have HBC := hid (HB.out k _ hlt HI2.out)
      clear hcw hjb
      by_cases hk : k < C
      · have HWC : Hid (Calls Tryz.prog 33 #[.pointer (some ⟨b, 0, none⟩), .agg #[.int .i64 (V k 0), .int .i64 (V k 1), .int .i64 (V k 2)], .int .i64 (B k)] (wr.alloc (.cells #[.int .i64 (V k 0), .int .i64 (V k 1), .int .i64 (V k 2)] 37)) fun e w' => e = .returned (.int .u64 (y k : Int)) ∧ J' k w') := hid (HW.out k _ hk HI2.out)
        have HYI := hid (fun A hA => HY.out k A hk hA)
        have HN : Hid (gk + k = L ∧ k < C ∧ L ≤ 100000) := hid ⟨hgk, hk, HL.out.1⟩
        have hb0 := HC.out.2.1 k hk
        have q1 : decide (B k ≤ 0) = false := decide_eq_false (by omega)
        generalize B k = z at *
        generalize y k = yk at *
        clear hkc hk hgk HB HW HY
        gi_wp2_with (first
          | (refine ⟨trivial, ?_⟩; (with_reducible refine (callsIn_wide.2 HBC.out).mono ?_); rintro e w1 ⟨rfl, rfl⟩)
          | (refine ⟨trivial, ?_⟩; gi_at_call 33; refine (callsIn_wide.2 HWC.out).mono ?_; rintro e w2 ⟨rfl, hj'⟩; obtain ⟨fn, tmps, assign, body, hy, hRD⟩ := HYI.out _ hj'; clear hj'))
        refine hRD.mono ?_
        clear hRD hy
        rintro e w4 ⟨rfl, hj⟩
        have HT := hid hj
        clear hj
        gi_wp2
        gi_roundg (gk - 1)
        case rel => exact ⟨k + 1, by have := HN.out; omega, by have := HN.out; omega, by have := HN.out; go_num, HT.out⟩
        case measure => have := HN.out; omega
      · obtain rfl : k = C := by omega
        have hb0 := HC.out.2.2 hlt
        have q1 : decide (B k ≤ 0) = true := decide_eq_true hb0
        have HI3 := HI2
        generalize B k = z at *
        clear hk hkc hgk HB HW HY
        gi_wp2_with (refine ⟨trivial, ?_⟩; (with_reducible refine (callsIn_wide.2 HBC.out).mono ?_); rintro e w1 ⟨rfl, rfl⟩)
        refine ⟨trivial, ?_⟩
        gi_wp2
        refine ⟨fun _ h => (by cases h), ?_⟩
        gi_wp2
        refine bodyPost_ret (results_none rfl _ _ _) rfl ?_
        exact ⟨⟨_, rfl⟩, HI3.out⟩
    · have hkL : k = C := by have := HC.out.1; omega
      have hnot : ¬ ((k : Int) < (L : Int)) := by omega
      have HE : Hid (J C wr) := hid (by rw [← hkL]; exact HI.out)
      clear hkL hkc hgk hlt
      gi_wp2
      go_end0
      exact ⟨⟨_, rfl⟩, HE.out⟩
end Go.Proofs.YtpjgpiieminaoaaGreatDoor

/- Guard: the program's Bytes. -/
namespace Go.Proofs.YtpjgpiieminaoaaGreatDoor
open Go.RowKit Go.Shelf Go.Deep
set_option maxRecDepth 100000
attribute [local go_sem] Oper.semAt_some
theorem pinfo8 : (Tryz.prog.info? 5).map (fun i => (i.zero, i.size, i.bytes)) = some (some (.int .u8 0), 1, 1) := by kernel_rfl
theorem gmake_room (w : World) (n : Nat) (hn : n ≤ 70368744177664) :
    (Instr.makeSlice 47 (.int .i64 0) (.int .i64 n)).run Tryz.prog w = .ok (.slice (some ⟨w.heap.size, 0, none⟩) 0 n) (w.alloc (.cells (madeCells #[.int .u8 0] n) 5)) := by
  obtain ⟨i0, hi, hz0, hz1, hz2⟩ := info_parts pinfo8
  have := run_make (P := Tryz.prog) w 47 5 i0 _ Tryz.underlying47 hi hz0 .i64 .i64 0 n (by omega) (by omega) (by rw [hz2]; simp; omega) (by omega)
  rw [this]
  simp [hz1, Value.cells]
theorem BoB.room (E : TypeId) (f : Nat → Nat) (m g : Nat) (hm : m ≤ maxLen) : BoB E (.slice (some ⟨g, 0, none⟩) 0 m) 0 f g (.cells (madeCells #[.int .u8 0] m) E (0, 0)) :=
  ⟨m, madeCells #[.int .u8 0] m, rfl, rfl, Nat.zero_le _, hm, by simp [size_madeCells], by simp [ns]⟩
theorem gbits_any (k nn Bn : Nat) (w : World) (hb : w.heap[Bn]? = some (.cells #[.int .i64 (nn : Int)] 3 (0, 0))) (hn : nn ≤ 100000) (hk : k ≤ 100000) : Calls Tryz.prog 37 #[.int .i64 (k : Int), .pointer (some ⟨Bn, 0, none⟩)] w fun e w' => e = .returned (.int .i64 (8 * ((nn : Int) - 8 * (k : Int)))) ∧ w' = w := by
  have c0 := gone_box hb
  have e1 : IntKind.i64.wrap (8 * (k : Int)) = 8 * (k : Int) := by rw [IntKind.wrap_i64]; omega
  have e2 : IntKind.i64.wrap ((nn : Int) - 8 * (k : Int)) = (nn : Int) - 8 * (k : Int) := by rw [IntKind.wrap_i64]; omega
  have e3 : IntKind.i64.wrap (8 * ((nn : Int) - 8 * (k : Int))) = 8 * ((nn : Int) - 8 * (k : Int)) := by rw [IntKind.wrap_i64]; omega
  clear hb
  go_enter Tryz.func37, Tryz.ntmps37
  go_wp2
  go_ret
  exact ⟨rfl, rfl⟩
/-- Between two rounds: j words are told, i opened. -/
def GbJ (Pm : World → Nat → Ms → (Nat → Prop) → Prop) (lo : Nat) (X : Nat → Prop) (w : World) (b bd : Nat) (St : Nat → Ms) (S2 : Ms) (cF : Nat → Nat) (z : Int) (va : Option Addr) (L cap nn s2 : Nat) (rec : Loop) (i j : Nat) (A : World) : Prop :=
  ∃ ov g o, BoB 5 ov (gyM z j) cF g o ∧ Gy Pm lo X w w A b bd (St i) S2 ((g, o) :: [(s2 + 6, .loop rec), (s2 + 5, .deferred (some [])), (s2 + 4, .cells #[.func (.func 37) #[] #[.pointer (some ⟨w.heap.size, 0, none⟩)]] 34 (0, 0)), (s2 + 3, .cells #[.slice va L cap] 29 (0, 0)), (s2 + 2, .cells #[.pointer (some ⟨b, 0, none⟩)] 27 (0, 0)), (s2 + 1, .cells #[ov] 47 (0, 0)), (w.heap.size, .cells #[.int .i64 (nn : Int)] 3 (0, 0))])
set_option maxHeartbeats 6400000 in
theorem qgbytes {Pm : World → Nat → Ms → (Nat → Prop) → Prop} (hM : Mach Pm) {lo : Nat} {X : Nat → Prop} {W w : World} {b bd k : Nat} {S S2 : Ms} (V : Nat → Nat → Int) (L : Nat) (v : Value) (z : Int) (h : Bz Pm lo X W w b bd S S2) (hp : Pv w) (hl : gpair < lo) (hq : Bq k S) (hk : k + 14 * L + 200 ≤ 100000) (hn : S.n = 2 ∨ S.n = 3) (hV : ∀ j, Wb (V j)) (hr : WsR w v L V X) :
    Calls Tryz.prog 14 #[.pointer (some ⟨b, 0, none⟩), v, .int .i64 z] w (TellsB Pm lo X W w b bd (gyS S V z (gyC z L)) S2 (ns (gyM z (gyC z L)) (gyF S V z))) := by
  have HLOW : Hid (Below lo W w) := hid h.low
  obtain ⟨va, cap, rfl, hcl, hcm, hrd⟩ := hr
  obtain ⟨nn, hnn⟩ : ∃ nn : Nat, (nn : Int) = min (max z 0) (8 * (L : Int)) := ⟨(min (max z 0) (8 * (L : Int))).toNat, by omega⟩
  have HM : Hid (∀ j, j < gyC z L → ∀ (bs : List (Nat × Obj)) (w' : World), Gy Pm lo X w w w' b bd (gyS S V z j) S2 bs → Calls Tryz.prog 33 #[.pointer (some ⟨b, 0, none⟩), .agg (wdV (V j)), .int .i64 (8 * ((nn : Int) - 8 * (j : Int)))] w' fun e w2 => e = .returned (.int .u64 (gyV S V z j : Int)) ∧ Gy Pm lo X w w w2 b bd (gyS S V z (j + 1)) S2 bs) := hid (fun j hj bs w' h' => h'.lift (fun _ _ hz' => by
    have hl2 := gyC_lt.1 hj
    exact qglow hM (V j) _ (lwN (8 * gyK z j)) (lwZ_of (by unfold gyK; omega)).symm hz' (Pv.bz hp hl h'.z) hl (gyS_bq (N := z) hq hn hV (j := j) (by omega)) (by omega) (by rw [(gyS_ext S V z j).n]; exact hn) (hV j)))
  have HY : Hid (∀ j, j < gyC z L → gyV S V z j < 2 ^ 64) := hid (fun j hj => by
    have hl := (gyC_lt.1 hj).1
    exact gyV_lt hq hn hV (by omega))
  have HCLM : Hid (∀ w, Calls Tryz.prog 35 #[.int .i64 z, .int .i64 (8 * (L : Int))] w fun e w' => e = .returned (.int .i64 (nn : Int)) ∧ w' = w) := hid (fun w => by rw [hnn]; exact gclamp_any z _ (by omega) w)
  have HG0 : Hid (Gy Pm lo X w w (w.alloc (.cells #[.int .i64 (nn : Int)] 3)) b bd S S2 [(w.heap.size, .cells #[.int .i64 (nn : Int)] 3 (0, 0))]) := hid ((Gy.start h.base).newO hM _)
  have HLB : Hid (L ≤ 7200) := hid (by omega)
  have HNN := hid hnn
  have HCL : Hid (L ≤ cap ∧ cap ≤ maxLen) := hid ⟨hcl, hcm⟩
  have HRD := hid hrd
  have em : IntKind.i64.wrap (8 * (L : Int)) = 8 * (L : Int) := by rw [IntKind.wrap_i64]; omega
  clear h hp hl hq hk hn hV hcl hcm hrd hnn
  obtain ⟨St, hSt⟩ : ∃ St : Nat → Ms, ∀ j, gyS S V z j = St j := ⟨_, fun _ => rfl⟩
  have HS0 : Hid (S = St 0) := hid (hSt 0)
  obtain ⟨yv, hyv⟩ : ∃ yv : Nat → Nat, ∀ j, gyV S V z j = yv j := ⟨_, fun _ => rfl⟩
  obtain ⟨cF, hcF⟩ : ∃ cF : Nat → Nat, gyF S V z = cF := ⟨_, rfl⟩
  have HCW : Hid (∀ j q, q < 8 → cF (8 * j + q) = byF (yv j) q) := hid (fun j q hq => by rw [← hcF, ← hyv]; exact gyF_word hq)
  have HCL2 : Hid (∀ i, cF i < 256) := hid (fun i => by rw [← hcF]; exact gyF_lt S V z i)
  simp only [hSt, hyv, hcF] at HM HY ⊢
  rw [HS0.out] at HG0
  clear hSt hyv hcF HS0
  refine (callsIn_wide (n := 7)).1 ?_
  refine callsIn_of_wp_marks Tryz.func14 rfl trivial ?_ rfl
  simp only [Tryz.ntmps14, List.size_toArray, List.length_cons, List.length_nil, Nat.reduceAdd, Nat.reduceSub, Array.replicate_succ, Array.replicate_zero, List.push_toArray, List.append_toArray, List.nil_append, List.cons_append]
  gi_upto_region 2 with (refine ⟨trivial, ?_⟩; gi_at_call 35; refine (callsIn_wide.2 (HCLM.out _)).mono ?_; rintro e w1 ⟨rfl, rfl⟩)
  obtain ⟨w2, hw2⟩ : ∃ w2, w.alloc (.cells #[.int .i64 (nn : Int)] 3) = w2 := ⟨_, rfl⟩
  rw [hw2] at HG0 ⊢
  clear hw2 em
  have c2 := gone_box (HG0.out.mem (n := w.heap.size) (u := .cells #[.int .i64 (nn : Int)] 3 (0, 0)) (by simp))
  have hmk := gmake_room w2 nn (by have := HNN.out; have := HLB.out; omega)
  have HG : Hid (∀ (o1 o2 o3 o4 o5 o6 o7 : Obj), Gy Pm lo X w w (((((((w2.alloc o1).alloc o2).alloc o3).alloc o4).alloc o5).alloc o6).alloc o7) b bd (St 0) S2 ((w2.heap.size, o1) :: [(w2.heap.size + 6, o7), (w2.heap.size + 5, o6), (w2.heap.size + 4, o5), (w2.heap.size + 3, o4), (w2.heap.size + 2, o3), (w2.heap.size + 1, o2), (w.heap.size, .cells #[.int .i64 (nn : Int)] 3 (0, 0))])) := hid (fun o1 o2 o3 o4 o5 o6 o7 => by
    have g := (((((((HG0.out).newO hM o1).newO hM o2).newO hM o3).newO hM o4).newO hM o5).newO hM o6).newO hM o7
    simp only [World.size_alloc, Nat.add_assoc, Nat.reduceAdd] at g
    exact g.perm (bs' := (w2.heap.size, o1) :: ([(w2.heap.size + 6, o7), (w2.heap.size + 5, o6), (w2.heap.size + 4, o5), (w2.heap.size + 3, o4), (w2.heap.size + 2, o3), (w2.heap.size + 1, o2)] ++ [(w.heap.size, .cells #[.int .i64 (nn : Int)] 3 (0, 0))])) List.perm_middle.symm)
  gi_wp2_with (refine ⟨trivial, ?_⟩; gi_at_call 36; refine (callsIn_wide.2 (gopened_any b va L cap _ _ _)).mono ?_; rintro e w1 ⟨rfl, rfl⟩)
  clear c2 hmk
  refine range_wide (w2.heap.size + 6) (by simp) (gf := 66) (lb := #[.pointer (some ⟨w2.heap.size + 3, 0, none⟩), .pointer (some ⟨w2.heap.size + 4, 0, none⟩), .pointer (some ⟨w2.heap.size + 2, 0, none⟩)]) rfl (enters_of Tryz.func66 (by kernel_rfl) rfl) (fun rec r1 r0 r2 r3 r4 r5 => ?_)
  have HJ0 : Hid (GbJ Pm lo X w b bd St S2 cF z va L cap nn w2.heap.size rec 0 0 _) := hid ⟨.slice (some ⟨w2.heap.size, 0, none⟩) 0 nn, w2.heap.size, _, by rw [show gyM z 0 = 0 by unfold gyM; omega]; exact BoB.room 5 cF nn w2.heap.size (by unfold maxLen; have := HNN.out; have := HLB.out; omega), HG.out _ _ _ _ _ _ _⟩
  refine (gopened_iter (fun j => GbJ Pm lo X w b bd St S2 cF z va L cap nn w2.heap.size rec j j) (fun j => GbJ Pm lo X w b bd St S2 cF z va L cap nn w2.heap.size rec (j + 1) j) (w2.heap.size + 6) (w2.heap.size + 2) (w2.heap.size + 3) (w2.heap.size + 4) w.heap.size 37 b V L va cap (fun k => 8 * ((nn : Int) - 8 * (k : Int))) yv (gyC z L) _ ⟨by have := HLB.out; omega, HCL.out.1, HCL.out.2⟩ ⟨gyC_le z L, fun k hk => ?_, fun hk => ?_⟩ (fun j A B ⟨ov, g, o, a1, a2⟩ hb => ⟨ov, g, o, a1, a2.self hM hb⟩) (fun j A ⟨ov, g, o, _, a2⟩ => ⟨a2.mem (by simp), a2.mem (by simp), a2.mem (by simp)⟩) (fun j A ⟨ov, g2, o, _, a2⟩ g off e i hi c hc => ?_) (fun h => by obtain ⟨g, off, e, _⟩ := HRD.out h; exact ⟨g, off, e⟩) (fun j A hj ⟨ov, g, o, _, a2⟩ => ?_) (fun j A hj ⟨ov, g, o, a1, a2⟩ => (HM.out j hj _ _ a2).mono fun e w' ⟨e1, e2⟩ => ⟨e1, ov, g, o, a1, e2⟩) (fun j A hj hJ => ?_) HJ0.out (enters_of Tryz.func37 (by kernel_rfl) rfl)).mono ?_
  · have := gyC_lt.1 hk; have := HNN.out; omega
  · have hc : ¬ (gyC z L < L ∧ 8 * ((gyC z L : Nat) : Int) < z) := fun h => Nat.lt_irrefl _ (gyC_lt.2 h)
    have := HNN.out; omega
  · obtain ⟨g', off', e', hX, hg, hcell⟩ := HRD.out (by omega)
    rw [e] at e'
    cases e'
    rw [← hcell i hi c hc]
    exact cell_same (a2.st g hX).2 _
  · exact gbits_any j nn w.heap.size A (a2.mem (by simp)) (by have := HNN.out; have := HLB.out; omega) (by have := HLB.out; omega)
  · obtain ⟨ov, g0, o0, hbo, hA⟩ := hJ
    have HJL := hid hj
    have HBO := hid hbo
    have HA := hid hA
    obtain ⟨capv, rfl, hcv1, hcv2⟩ := hbo.form
    have hlp : A.heap[w2.heap.size + 6]? = some (.loop rec) := hA.mem (by simp)
    have HRC : Hid (({ rec with state := .ready, pending := none } : Loop) = rec) := hid (by cases rec; simp_all)
    refine round_wide hlp r1 r2 r3 r4 r5 rfl ?_
    clear hj hbo hA HJ0 HG r0 r1 r2 r3 r4 r5
    simp only [Array.zip, List.zipWith_toArray, List.zipWith_cons_cons, List.zipWith_nil_right, List.foldl_toArray, List.foldl_cons, List.foldl_nil, List.setIfInBounds_toArray, lay_out]
    show Code.wpIn (wideR _) _ _ _ _ _ _
    gi_wp2
    refine ⟨hlp, ?_⟩
    clear hlp
    have HWD : Hid (Gy Pm lo X w w (A.putObj (w2.heap.size + 6) (.loop { rec with state := .busy })) b bd (St (j + 1)) S2 ((g0, o0) :: [(w2.heap.size + 6, .loop { rec with state := .busy }), (w2.heap.size + 5, .deferred (some [])), (w2.heap.size + 4, .cells #[.func (.func 37) #[] #[.pointer (some ⟨w.heap.size, 0, none⟩)]] 34 (0, 0)), (w2.heap.size + 3, .cells #[.slice va L cap] 29 (0, 0)), (w2.heap.size + 2, .cells #[.pointer (some ⟨b, 0, none⟩)] 27 (0, 0)), (w2.heap.size + 1, .cells #[(.slice (some ⟨g0, 0, none⟩) (gyM z j) capv)] 47 (0, 0)), (w.heap.size, .cells #[.int .i64 (nn : Int)] 3 (0, 0))])) := hid (Gy.putMid (l := [_]) hM HA.out (.loop { rec with state := .busy }))
    obtain ⟨C, hC⟩ : ∃ C, A.putObj (w2.heap.size + 6) (.loop { rec with state := .busy }) = C := ⟨_, rfl⟩
    rw [hC] at HWD ⊢
    clear hC HA
    gi_wp2_with fail
    have hlt := HJL.out
    have h8 := gyK_le z j
    have hmn := gyM_next hlt
    have hkj := gyC_lt.1 hlt
    obtain ⟨kz, hkz⟩ : ∃ kz : Int, kz = (nn : Int) - ((gyM z j : Nat) : Int) := ⟨_, rfl⟩
    have hkk : (min (max kz 0) 8).toNat = gyK z j := by have := HNN.out; rw [hkz, hmn.1]; unfold gyK; omega
    have es : IntKind.i64.wrap ((nn : Int) - ((gyM z j : Nat) : Int)) = kz := by rw [IntKind.wrap_i64, hkz]; have := HNN.out; have := HLB.out; rw [hmn.1]; omega
    have HST : Hid (∀ w, Calls Tryz.prog 38 #[.int .u64 (yv j : Int), .int .i64 kz] w fun e w' => ∃ v', e = .returned v' ∧ Rd .u8 w' v' (ns (gyK z j) (byF (yv j))) ∧ Below w.heap.size w w') := hid (fun w => by
      have hy := HY.out j hlt
      refine (store_any (yv j : Int) kz w (by omega)).mono fun e w' ⟨v', e1, e2, e3⟩ => ⟨v', e1, ?_, e3⟩
      rw [hkk, store_math, rsL_ns] at e2
      exact e2.rd (by rw [ns_len, show IntKind.u8.bits / 8 = 1 from rfl]; omega) (ns_wf (fun i _ => byF_lt _ _)))
    have HKP : Hid (0 < gyK z j) := hid (gyK_pos hlt)
    obtain ⟨nb, hnb⟩ : ∃ nb, gyM z j = nb := ⟨_, rfl⟩
    rw [hnb] at hmn HBO HWD es
    have HNX : Hid (gyM z (j + 1) = nb + gyK z j) := hid (by rw [← hmn.2])
    have HCF : Hid (∀ q, q < gyK z j → cF (nb + q) = byF (yv j) q) := hid (fun q hq => by
      rw [hmn.1]
      exact HCW.out j q (by have := gyK_le z j; omega))
    have HLM : Hid (nb + gyK z j ≤ 100000000) := hid (by have := gyK_le z j; have h9 := HLB.out; have h8 := (gyC_lt.1 hlt).1; rw [hmn.1]; omega)
    obtain ⟨kk, hkn⟩ : ∃ kk : Nat, gyK z j = kk := ⟨_, rfl⟩
    simp only [hkn] at HST HKP HNX HCF HLM
    clear HM HY hlt hmn hnb hkn h8 HCW hkz hkk hkj hcv1 hcv2
    obtain ⟨yF, hyF⟩ : ∃ yF, byF (yv j) = yF := ⟨_, rfl⟩
    rw [hyF] at HST HCF
    clear hyF
    generalize yv j = y at *
    obtain ⟨ov, hov⟩ : ∃ ov, Value.slice (some ⟨g0, 0, none⟩) nb capv = ov := ⟨_, rfl⟩
    have HOV : Hid (Value.slice (some ⟨g0, 0, none⟩) nb capv = ov) := hid hov
    rw [hov] at HBO HWD
    clear hov
    have G0 := hid (HWD.out.self hM ((Below.refl _ C).drew))
    refine region_Rt (fun w' => w'.heap[w.heap.size]? = some (.cells #[.int .i64 (nn : Int)] 3 (0, 0))) (fun w' => w'.heap[w2.heap.size + 1]? = some (.cells #[ov] 47 (0, 0))) 8 (by kernel_rfl) (by kernel_rfl) ⟨G0.out.mem (by simp), G0.out.mem (by simp)⟩ (fun h0 => ?_)
    generalize C.drew = y0 at *
    · skip
      refine rt_takeA (i := 1) (v := .int .u64 (y : Int)) rfl (by kernel_rfl) (by kernel_rfl) (by kernel_rfl) rfl (fun _ _ _ h => h) (.inl ⟨by rfl, fun w hw => by clear hw; go_simp⟩) h0 ?_
      try simp only [Act.put, lay_out]
      refine rt_takeA (i := 2) (v := .int .i64 (nn : Int)) rfl (by kernel_rfl) (by kernel_rfl) (by kernel_rfl) rfl (fun _ _ _ h => h) (.inl ⟨by rfl, fun w hw => by have hc := gone_box hw; clear hw; go_simp⟩) h0 ?_
      try simp only [Act.put, lay_out]
      refine rt_takeT (i := 0) (v := ov) rfl (by kernel_rfl) (by kernel_rfl) (by kernel_rfl) rfl (by kernel_rfl) (by kernel_rfl) (fun _ _ _ h => h) (.inl ⟨by rfl, fun w hw => by have hc := gone_box hw; clear hw; go_simp⟩) h0 ?_
      try simp only [Act.put, lay_out]
      refine rt_takeT (i := 3) (v := ov) rfl (by kernel_rfl) (by kernel_rfl) (by kernel_rfl) rfl (by kernel_rfl) (by kernel_rfl) (fun _ _ _ h => h) (.inl ⟨by rfl, fun w hw => by have hc := gone_box hw; clear hw; go_simp⟩) h0 ?_
      try simp only [Act.put, lay_out]
      refine rt_takeA (i := 4) (v := .int .i64 (nb : Int)) rfl (by kernel_rfl) (by kernel_rfl) (by kernel_rfl) rfl (fun _ _ _ h => h) (.inl ⟨by rfl, fun w hw => by clear hw; rw [← HOV.out]; go_simp⟩) h0 ?_
      try simp only [Act.put, lay_out]
      refine rt_takeA (i := 5) (v := .int .i64 kz) rfl (by kernel_rfl) (by kernel_rfl) (by kernel_rfl) rfl (fun _ _ _ h => h) (.inl ⟨by rfl, fun w hw => by clear hw; go_simp⟩) h0 ?_
      try simp only [Act.put, lay_out]
      refine rt_ready (rs := [6]) (by kernel_rfl) (by simp) (RtReady.consT rfl (fun K hK => ?_) RtReady.nil)
      rw [if_pos (by rfl)]
      go_simp
      go_at_call 38
      (with_reducible refine (HST.out _).mono ?_); rintro e y3 ⟨sv, rfl, hrd, hb⟩
      have G3 := hid (G0.out.self hM hb)
      have HR := hid hrd
      clear hb hrd
      refine hK.out _ _ ⟨G3.out.mem (by simp), G3.out.mem (by simp)⟩ (fun h3x => ?_)
      clear hK K
      try simp only [Act.put, lay_out]
      refine rt_ready (rs := [7]) (by kernel_rfl) (by simp) (RtReady.consT rfl (fun K hK => ?_) RtReady.nil)
      rw [if_pos (by rfl)]
      refine wp_append_bob _ _ 47 rfl 5 Tryz.underlying47 pinfo8 ov nb cF rfl HBO.out (G3.out.bl 0 rfl) sv kk yF rfl HR.out HKP.out HCF.out HLM.out (fun g1 cap' y4 o1 a1 a2 a3 a4 => ?_)
      have G4 := hid (G3.out.grown hM a3 a4 a2)
      have HB1 := hid a1
      clear a1 a2 a3 a4
      refine hK.out _ _ ⟨G4.out.mem (by simp), G4.out.mem (by simp)⟩ (fun h4x => ?_)
      clear hK K
      try simp only [Act.put, lay_out]
      refine rt_ready (rs := [8]) (by kernel_rfl) (by simp) (RtReady.consS rfl (by kernel_rfl) (fun K hK => ?_) RtReady.nil)
      rw [if_pos (by rfl)]
      have c7 := gone_box (G4.out.mem (n := w2.heap.size + 1) (u := .cells #[ov] 47 (0, 0)) (by simp))
      have f7 := frozen_of_row y4 (w2.heap.size + 1) 0 #[ov] 47 (G4.out.mem (by simp))
      go_simp
      clear c7 f7
      have G5 := hid (Gy.cellMid (l := (g1, o1) :: [(w2.heap.size + 6, .loop { rec with state := .busy }), (w2.heap.size + 5, .deferred (some [])), (w2.heap.size + 4, .cells #[.func (.func 37) #[] #[.pointer (some ⟨w.heap.size, 0, none⟩)]] 34 (0, 0)), (w2.heap.size + 3, .cells #[.slice va L cap] 29 (0, 0)), (w2.heap.size + 2, .cells #[.pointer (some ⟨b, 0, none⟩)] 27 (0, 0))]) hM G4.out 0 (.slice (some ⟨g1, 0, none⟩) (nb + kk) cap'))
      refine hK.out _ _ (G5.out.mem (by simp)) (fun h5x => ?_)
      clear hK K
      try simp only [Act.put, lay_out]
      refine rt_done (by kernel_rfl) ?_ _
      simp only [nrm, Exit.then, Exit.inBlock]
      have hb := G5.out
      have G6 := hid (Gy.putMid (l := [_]) hM hb (.loop { rec with state := .ready, pending := none }))
      have HLQ : Hid ((y4.setCell ⟨w2.heap.size + 1, 0, none⟩ (.slice (some ⟨g1, 0, none⟩) (nb + kk) cap')).heap[w2.heap.size + 6]? = some (.loop { rec with state := .busy })) := hid (G5.out.mem (by simp))
      have HEND : Hid (GbJ Pm lo X w b bd St S2 cF z va L cap nn w2.heap.size rec (j + 1) (j + 1) ((y4.setCell ⟨w2.heap.size + 1, 0, none⟩ (.slice (some ⟨g1, 0, none⟩) (nb + kk) cap')).putObj (w2.heap.size + 6) (.loop { rec with state := .ready, pending := none }))) := hid ⟨_, g1, o1, by rw [HNX.out]; exact HB1.out, by
        have h9 := G6.out
        rw [HRC.out] at h9 ⊢
        exact h9⟩
      clear hb G6 h0 h3x h4x h5x
      go_at_K
      exact ⟨HLQ.out, rfl, HEND.out⟩
  · rintro e w' ⟨⟨v, rfl⟩, ov, g0, o0, hbo, hg⟩
    refine ⟨v, rec, rfl, hg.mem (by simp), by rw [r1]; simp, ?_⟩
    rw [r0]
    dsimp only
    have G1 := hid (Gy.putMid (l := [_]) hM hg (.loop { rec with state := .exhausted }))
    have HBO := hid hbo
    clear hg hbo HJ0 HG
    obtain ⟨w6, hw6⟩ : ∃ w6, w'.putObj (w2.heap.size + 6) (.loop { rec with state := .exhausted }) = w6 := ⟨_, rfl⟩
    rw [r0] at hw6
    simp only [r0] at G1
    rw [hw6] at G1 ⊢
    clear hw6 r0 r1 r2 r3 r4 r5
    have hK : w6.heap[w2.heap.size + 5]? = some (.deferred (some [])) := G1.out.mem (by simp)
    have hc := gone_box (G1.out.mem (n := w2.heap.size + 1) (u := .cells #[ov] 47 (0, 0)) (by simp))
    simp only [World.size_alloc, Nat.add_assoc, Nat.reduceAdd]
    gi_wp2
    refine ⟨by simp, .inl ⟨_, _, rfl, run_takeDeferred hK, ?_⟩⟩
    have G2 := Gy.putMid (l := [_, _]) hM G1.out
    refine ⟨_, results_tmp rfl _ _ _, ?_⟩
    have G3 := G2 (.deferred none)
    refine ⟨_, fun k => k = g0, rfl, ?_, fun k hk => by rw [hk]; exact (G3.bx _ (List.mem_cons_self ..)).1, ?_, fun k hk => (G3.st k hk).2⟩
    · exact HBO.out.rds (G3.bl 0 rfl) (fun i _ => HCL2.out i) (by have h9 := HLB.out; have := gyM_le z (gyC z L); have := gyC_le z L; omega)
    · exact (G3.z.less (fun k hk => hk.imp id (fun e => ⟨(g0, o0), List.mem_cons_self .., e.symm⟩))).up HLOW.out
end Go.Proofs.YtpjgpiieminaoaaGreatDoor
