import Derived.Test.YthhkhcacljgelaaGreatAes
import Derived.Test.YthhkhcacljgelaaGreatOcb
import Derived.Test.YthhkhcacljgelaaGreatGen
import Derived.RangeFuncNested
import Derived.RangeFuncCalls
import Derived.RangeFuncLeaves
import Derived.OrdersIn
import Derived.Deep.RegionHeld3
import Derived.Test.YthhkhcacljgelaaGreatProg
import Derived.Shelf.Abstract
import Derived.Shelf.RegionOpen
import Derived.WalkKit
import Derived.OwnWalkIn
import Derived.TacticsInMore
import Derived.Sort.LoopGhostIn
import Derived.LoopIn
import Derived.Deep.DeepAppendRoom
import Derived.Test.YthhkhcacljgelaaGreatArd
import Derived.Test.YthhkhcacljgelaaGreatCpy
import Derived.Test.YthhkhcacljgelaaGreatKyy
set_option maxRecDepth 100000
/- Counters of 16 bytes, the first byte highest, and the stream that a cipher makes of them. -/
namespace Go.Proofs.YthhkhcacljgelaaGreat
open Go.RowKit

/-- What is carried into byte 15 - j, if k is put onto f. -/
def car (f : Nat → Nat) (k : Nat) : Nat → Nat
  | 0 => k
  | j + 1 => (f (15 - j) + car f k j) / 256
/-- f and k. -/
def lat (f : Nat → Nat) (k : Nat) : Nat → Nat := fun i => (f i + car f k (15 - i)) % 256
theorem lat_b (f : Nat → Nat) (k : Nat) : B16 (lat f k) := fun _ _ => Nat.mod_lt _ (by decide)
/-- The number of the last j bytes. -/
def val (f : Nat → Nat) : Nat → Nat
  | 0 => 0
  | j + 1 => val f j + 256 ^ j * f (15 - j)
theorem val_lt {f : Nat → Nat} (h : B16 f) : ∀ j, j ≤ 16 → val f j < 256 ^ j
  | 0, _ => Nat.one_pos
  | j + 1, hj => by
    have ih := val_lt h j (by omega)
    have hb : f (15 - j) ≤ 255 := by have := h (15 - j) (by omega); omega
    have h2 : 256 ^ j * f (15 - j) ≤ 256 ^ j * 255 := Nat.mul_le_mul_left _ hb
    show val f j + 256 ^ j * f (15 - j) < 256 ^ (j + 1)
    rw [Nat.pow_succ]; omega
theorem val_lat (f : Nat → Nat) (k : Nat) : ∀ j, j ≤ 16 → val f j + k = val (lat f k) j + 256 ^ j * car f k j
  | 0, _ => by show 0 + k = 0 + 1 * k; omega
  | j + 1, hj => by
    have ih := val_lat f k j (by omega)
    show val f j + 256 ^ j * f (15 - j) + k = val (lat f k) j + 256 ^ j * lat f k (15 - j) + 256 ^ (j + 1) * ((f (15 - j) + car f k j) / 256)
    have e : lat f k (15 - j) = (f (15 - j) + car f k j) % 256 := by unfold lat; rw [show 15 - (15 - j) = j by omega]
    rw [e, Nat.pow_succ, Nat.mul_assoc, Nat.add_assoc (val (lat f k) j), ← Nat.mul_add]
    rw [show (f (15 - j) + car f k j) % 256 + 256 * ((f (15 - j) + car f k j) / 256) = f (15 - j) + car f k j by omega, Nat.mul_add]
    omega
theorem val_mod (f : Nat → Nat) (k : Nat) : val (lat f k) 16 = (val f 16 + k) % 256 ^ 16 := by
  rw [val_lat f k 16 (Nat.le_refl _), Nat.add_mul_mod_self_left, Nat.mod_eq_of_lt (val_lt (lat_b f k) 16 (Nat.le_refl _))]
theorem val_inj {f g : Nat → Nat} (hf : B16 f) (hg : B16 g) : ∀ j, j ≤ 16 → val f j = val g j → ∀ t, t < j → f (15 - t) = g (15 - t)
  | 0, _, _ => fun t ht => absurd ht (by omega)
  | j + 1, hj, h => by
    have h1 := val_lt hf j (by omega)
    have h2 := val_lt hg j (by omega)
    have hp : 0 < 256 ^ j := Nat.pow_pos (by decide)
    have e : val f j + 256 ^ j * f (15 - j) = val g j + 256 ^ j * g (15 - j) := h
    have m := congrArg (· % 256 ^ j) e
    have d := congrArg (· / 256 ^ j) e
    simp only [Nat.add_mul_mod_self_left, Nat.mod_eq_of_lt h1, Nat.mod_eq_of_lt h2] at m
    simp only [Nat.add_mul_div_left _ _ hp, Nat.div_eq_of_lt h1, Nat.div_eq_of_lt h2, Nat.zero_add] at d
    intro t ht
    by_cases e' : t = j
    · subst e'; exact d
    · exact val_inj hf hg j (by omega) m t (by omega)
theorem val_eq {f g : Nat → Nat} (hf : B16 f) (hg : B16 g) (h : val f 16 = val g 16) : Eq16 f g := fun i hi => by
  have := val_inj hf hg 16 (Nat.le_refl _) h (15 - i) (by omega)
  rwa [show 15 - (15 - i) = i by omega] at this
theorem lat_zero {f : Nat → Nat} (h : B16 f) : Eq16 (lat f 0) f := val_eq (lat_b f 0) h (by rw [val_mod, Nat.add_zero, Nat.mod_eq_of_lt (val_lt h 16 (Nat.le_refl _))])
theorem lat_lat (f : Nat → Nat) (a b : Nat) : Eq16 (lat (lat f a) b) (lat f (a + b)) :=
  val_eq (lat_b _ _) (lat_b _ _) (by rw [val_mod, val_mod, val_mod, Nat.mod_add_mod, Nat.add_assoc])
theorem lat_e {f g : Nat → Nat} (h : Eq16 f g) (k : Nat) : Eq16 (lat f k) (lat g k) := by
  have : ∀ j, j ≤ 16 → val f j = val g j := fun j => by
    induction j with
    | zero => intro _; rfl
    | succ j ih => intro hj; show val f j + 256 ^ j * f (15 - j) = val g j + 256 ^ j * g (15 - j); rw [ih (by omega), h (15 - j) (by omega)]
  exact val_eq (lat_b _ _) (lat_b _ _) (by rw [val_mod, val_mod, this 16 (Nat.le_refl _)])
/-- The document's way: the rest of k and the carry apart. -/
theorem car_doc (n k : Nat) : (n + k % 256) % 256 = (n + k) % 256 ∧ k / 256 + (n + k % 256) / 256 = (n + k) / 256 := by omega
/-- One more: where the carry ends. -/
theorem car_one (f : Nat → Nat) (hf : B16 f) : ∀ j, j ≤ 16 → car f 1 j ≤ 1
  | 0, _ => Nat.le_refl _
  | j + 1, hj => by
    have ih := car_one f hf j (by omega)
    have hb := hf (15 - j) (by omega)
    show (f (15 - j) + car f 1 j) / 256 ≤ 1
    omega
/-- Byte j of the stream of a begin. -/
def strF (Y : Nat → Nat → Nat) (R : Nat) (f : Nat → Nat) (j : Nat) : Nat := blkF Y R (lat f (j / 16)) (j % 16)
theorem strF_later (Y : Nat → Nat → Nat) (R : Nat) (f : Nat → Nat) (a j : Nat) : strF Y R (lat f a) j = strF Y R f (16 * a + j) := by
  unfold strF
  rw [show (16 * a + j) / 16 = a + j / 16 by omega, show (16 * a + j) % 16 = j % 16 by omega]
  exact blk_e (lat_lat f a (j / 16)) _ (Nat.mod_lt _ (by decide))
theorem strF_b {Y : Nat → Nat → Nat} {R : Nat} (hY : YB Y R) (f : Nat → Nat) (j : Nat) : strF Y R f j < 256 := blkF_b hY (lat_b f _) _ (Nat.mod_lt _ (by decide))
end Go.Proofs.YthhkhcacljgelaaGreat

/- A counter and one; a counter that is being added to: without a program. -/
namespace Go.Proofs.YthhkhcacljgelaaGreat
open Go.RowKit
set_option maxRecDepth 100000
theorem car_zero {f : Nat → Nat} (hf : B16 f) {k a : Nat} (h : car f k a = 0) : ∀ b, a + b ≤ 16 → car f k (a + b) = 0
  | 0, _ => h
  | b + 1, hb => by
    have ih := car_zero hf h b (by omega)
    have := hf (15 - (a + b)) (by omega)
    show (f (15 - (a + b)) + car f k (a + b)) / 256 = 0
    rw [ih]; omega
/-- What of a counter has been turned from the last byte on. -/
def latTo (f : Nat → Nat) (k m : Nat) : Nat → Nat := fun i => if 16 ≤ i + m then lat f k i else f i
theorem latTo_zero (f : Nat → Nat) (k : Nat) : ∀ i, i < 16 → latTo f k 0 i = f i := fun i hi => if_neg (by omega)
theorem latTo_all (f : Nat → Nat) (k : Nat) : ∀ i, i < 16 → latTo f k 16 i = lat f k i := fun i _ => if_pos (by omega)
theorem latTo_step (f : Nat → Nat) (k : Nat) {m : Nat} (hm : m < 16) : ∀ i, i < 16 → upd (latTo f k m) (15 - m) ((f (15 - m) + car f k m) % 256) i = latTo f k (m + 1) i := fun i hi => by
  unfold upd latTo
  by_cases e : i = 15 - m
  · subst e
    rw [if_pos rfl, if_pos (by omega)]
    unfold lat
    rw [show 15 - (15 - m) = m by omega]
  · rw [if_neg e]
    by_cases e2 : 16 ≤ i + m
    · rw [if_pos e2, if_pos (by omega)]
    · rw [if_neg e2, if_neg (by omega)]
theorem latTo_b {f : Nat → Nat} (hf : B16 f) (k m : Nat) : B16 (latTo f k m) := fun i hi => by
  unfold latTo
  by_cases e : 16 ≤ i + m
  · rw [if_pos e]; exact lat_b f k i hi
  · rw [if_neg e]; exact hf i hi
theorem inc_at {f : Nat → Nat} (hf : B16 f) : ∀ j m, j + m = 16 → car f 1 m = 1 → ∀ g : Nat → Nat, (∀ i, i < 16 → g i = latTo f 1 m i) → incAt (ns 16 g) j = ns 16 (lat f 1)
  | 0, m, hj, _, g, hg => by
    obtain rfl : m = 16 := by omega
    show ns 16 g = _
    exact ns_ext fun i hi => (hg i hi).trans (latTo_all f 1 i hi)
  | j + 1, m, hj, hc, g, hg => by
    have hjm : j = 15 - m := by omega
    have hgj : g j = f j := by rw [hg j (by omega)]; exact if_neg (by omega)
    have hb := hf j (by omega)
    have hs := latTo_step f 1 (m := m) (by omega)
    have hcs : car f 1 (m + 1) = (f j + 1) / 256 := by show (f (15 - m) + car f 1 m) / 256 = _; rw [hc, hjm]
    unfold incAt
    rw [ns_nth g (show j < 16 by omega), hgj]
    by_cases h : f j < 255
    · rw [if_pos (by omega), show ((f j : Int) + 1) = ((f j + 1 : Nat) : Int) by omega, ns_set]
      refine ns_ext fun i hi => ?_
      have hz : car f 1 (m + 1) = 0 := by rw [hcs]; omega
      by_cases e : i = j
      · subst e
        unfold upd lat
        rw [if_pos rfl, show 15 - i = m by omega, hc]; omega
      · unfold upd
        rw [if_neg e, hg i hi]
        unfold latTo
        by_cases e2 : 16 ≤ i + m
        · rw [if_pos e2]
        · rw [if_neg e2]
          have h0 := car_zero hf hz (15 - i - (m + 1)) (by omega)
          rw [show m + 1 + (15 - i - (m + 1)) = 15 - i by omega] at h0
          unfold lat
          rw [h0, Nat.add_zero, Nat.mod_eq_of_lt (hf i hi)]
    · have h255 : f j = 255 := by omega
      rw [if_neg (by omega), show (0 : Int) = ((0 : Nat) : Int) by rfl, ns_set]
      refine inc_at hf j (m + 1) (by omega) (by rw [hcs, h255]) _ fun i hi => ?_
      rw [← hs i hi, ← hjm, h255, hc]
      unfold upd
      by_cases e : i = j
      · rw [if_pos e, if_pos e]
      · rw [if_neg e, if_neg e, hg i hi]
theorem inc_lat {f : Nat → Nat} (hf : B16 f) : incAt (ns 16 f) 16 = ns 16 (lat f 1) := inc_at hf 16 0 rfl rfl f fun i hi => (latTo_zero f 1 i hi).symm
theorem car_le (f : Nat → Nat) (hf : B16 f) (k : Nat) : ∀ m, m ≤ 16 → car f k m ≤ k + 1
  | 0, _ => Nat.le_succ _
  | m + 1, hm => by
    have ih := car_le f hf k m (by omega)
    have := hf (15 - m) (by omega)
    show (f (15 - m) + car f k m) / 256 ≤ k + 1
    omega
/-- A later counter of a later one. -/
theorem lat_succ (f : Nat → Nat) (k : Nat) : Eq16 (lat (lat f k) 1) (lat f (k + 1)) := lat_lat f k 1
end Go.Proofs.YthhkhcacljgelaaGreat

/- A range over a function inside the widest fence: regions that draw are walked there by the plain words; a round is one lemma; the statement is another. -/
namespace Go.Proofs.YthhkhcacljgelaaGreat
open Go.RowKit

/-- The widest fence, in a round or in none. -/
abbrev wideR (r : Option Nat) : Fence := { Fence.wide with round := r }
theorem callsR {r : Option Nat} {n : Nat} {P : Program} {f : FuncId} {args : Array Value} {w : World} {R : Ending → World → Prop} (h : Calls P f args w R) : CallsIn (wideR r) n P f args w R :=
  (callsIn_wide (n := n)).2 h
theorem rowsR {r : Option Nat} {n : Nat} {P : Program} {f : String} {args : Array Value} {w : World} {R : Value → World → Prop} (h : Rows P f args w R) : RowsIn (wideR r) n P f args w R :=
  fun c cs _ => let ⟨v, w', q, s⟩ := h c cs; ⟨v, w', q, (stepsIn_wide (P := P)).2 s⟩
theorem deepR {r : Option Nat} {n : Nat} : (wideR r).depth.isSome = true → 1 ≤ n := fun h => absurd h (by simp [Fence.wide])
section
variable {P : Program} {r : Option Nat} {n : Nat} {ops : Array Oper} {Q : Exit → Act → World → Prop}
theorem upon_R {o : Oper} {a : Act} {K : Act → World → Prop} {x : Result Next} (h : o.upon P a K Q x) : o.uponIn (wideR r) n P a K Q x := by
  cases x with
  | ok x w' =>
    cases x with
    | enter f args => exact ⟨deepR, callsR h⟩
    | row f args => exact ⟨deepR, rowsR h⟩
    | round l f t s b => exact h.elim
    | _ => exact h
  | halt x w' => cases x <;> exact h
theorem opIn_R {i : Nat} {K K' : Act → World → Prop} {a : Act} {w : World} (hd : ∀ (j : Nat) (o : Oper), ops[j]? = some o → ∀ c, o.op ≠ .defer c) (hQ : ∀ a w, ¬ Q .outgrown a w) (hK : ∀ a w, K a w → K' a w)
    (h : wpOp P ops Q i K a w) : wpOpIn (wideR r) n P ops Q i K' a w := by
  have h := wpOp_mono hK h
  unfold wpOp at h
  unfold wpOpIn
  cases ho : ops[i]? with
  | none => rw [ho] at h; exact h
  | some o =>
    rw [ho] at h
    simp only at h ⊢
    by_cases hw : Region.wanted o (yielded ops a.tmps) = true
    · rw [if_pos hw] at h ⊢
      refine ⟨fun _ _ => trivial, ?_⟩
      rw [Oper.semAt_eq _ _ _ (hd i o ho)]
      rcases h with h | ⟨_, a', w', h⟩
      · exact upon_R h
      · exact absurd h (hQ _ _)
    · rw [if_neg hw] at h ⊢
      exact ⟨fun _ _ => trivial, h⟩
theorem anyIn_R (hd : ∀ (j : Nat) (o : Oper), ops[j]? = some o → ∀ c, o.op ≠ .defer c) (hQ : ∀ a w, ¬ Q .outgrown a w) {md : Region.Mode} : ∀ (fuel : Nat) (listed : Array Bool) (a : Act) (w : World), wpAny P md ops Q fuel listed a w → wpAnyIn (wideR r) n P md ops Q fuel listed a w
  | 0, _, _, _, h => h
  | fuel + 1, _, _, _, h => ⟨h.1, fun i hi => opIn_R hd hQ (fun a w q => anyIn_R hd hQ fuel _ a w q) (h.2 i hi)⟩
/-- What is wanted of a region: that it comes to its end. -/
def nrm (Q : Exit → Act → World → Prop) : Exit → Act → World → Prop := Exit.then (fun a w => Q .normal a w) (fun _ _ _ => False)
theorem nrm_in {c : Code} {a : Act} {w : World} (h : c.wpIn (wideR r) n P (nrm Q) a w) : c.wpIn (wideR r) n P Q a w :=
  wpIn_mono h fun e _ _ q => by cases e <;> first | exact q | exact q.elim
theorem noDefer (hd : ops.all (fun o => match o.op with | .defer _ => false | _ => true) = true) (j : Nat) (o : Oper) (ho : ops[j]? = some o) (c : Call) : o.op ≠ .defer c := fun hc => by
  obtain ⟨hj, ho'⟩ := Array.getElem?_eq_some_iff.1 ho
  have h1 := (Array.all_eq_true.1 hd) j hj
  rw [ho', hc] at h1
  cases h1
/-- A region that draws, in a round or in none: by the plain words' own start. -/
theorem region_R {id : Nat} {a : Act} {w : World} (S : World → Prop) (hm : P.follows .mixedOrders = true) (hd : ops.all (fun o => match o.op with | .defer _ => false | _ => true) = true) (hS : S w.drew)
    (h : S w.drew → wpAnyH P .any ops (nrm Q) S ops.size (Array.replicate ops.size false) a w.drew) : (Code.region id ops true).wpIn (wideR r) n P Q a w :=
  nrm_in (wpIn_region_any hm (anyIn_R (noDefer hd) (fun _ _ h => h) _ _ _ _ (wpAny_of_held _ _ _ _ (h hS))))
theorem listIn_R (hQ : ∀ a w, ¬ Q .outgrown a w) : ∀ (l : List Oper) (a : Act) (w : World), (∀ o ∈ l, ∀ c, o.op ≠ .defer c) → wpList P ops Q l a w → wpListIn (wideR r) n P ops Q l a w
  | [], _, _, _, h => h
  | o :: rest, a, w, hd, h => by
    have ih := listIn_R hQ rest
    unfold wpList at h
    unfold wpListIn
    by_cases hw : Region.wanted o (yielded ops a.tmps) = true
    · rw [if_pos hw] at h ⊢
      refine ⟨fun _ _ => trivial, ?_⟩
      rw [Oper.semAt_eq _ _ _ (hd o (by simp))]
      rcases h with h | ⟨_, a', w', h⟩
      · exact upon_R (Oper.wp_mono (fun a w q => ih a w (fun o ho => hd o (by simp [ho])) q) h)
      · exact absurd h (hQ _ _)
    · rw [if_neg hw] at h ⊢
      exact ⟨fun _ _ => trivial, ih _ _ (fun o ho => hd o (by simp [ho])) h⟩
/-- A region in the text's order. -/
theorem region0_R {id : Nat} {l : List Oper} {a : Act} {w : World} (hd : l.toArray.all (fun o => match o.op with | .defer _ => false | _ => true) = true)
    (h : wpList P l.toArray (nrm Q) l a w) : (Code.region id l.toArray false).wpIn (wideR r) n P Q a w :=
  nrm_in (wpIn_region_lit (listIn_R (fun _ _ h => h) l a w (fun o ho => by
    obtain ⟨j, hj, he⟩ := List.getElem_of_mem ho
    exact noDefer hd j o (by simp [← he, hj])) h))
end

/-- How a round may be left, and what is wanted then. -/
def endPost (l : Nat) (rec : Loop) (R : Ending → World → Prop) : Exit → Act → World → Prop
  | .normal, _, w => w.heap[l]? = some (.loop { rec with state := .busy }) ∧ R (.returned (.bool true)) (w.putObj l (.loop { rec with state := .ready, pending := none }))
  | .exit id, _, w => w.heap[l]? = some (.loop { rec with state := .busy }) ∧ R (.returned (.bool false)) (w.putObj l (.loop { rec with state := .done, pending := some (.exit id) }))
  | .ret, _, w => w.heap[l]? = some (.loop { rec with state := .busy }) ∧ R (.returned (.bool false)) (w.putObj l (.loop { rec with state := .done, pending := some .ret }))
  | .goto _, _, _ => False
  | .panic _, _, _ => False
  | .outgrown, _, _ => False
/-- A call of yield: the loop's left side, then its body, in a round. -/
theorem round_wide {P : Program} {m l : Nat} {rec : Loop} {args : Array Value} {W : World} {R : Ending → World → Prop} {tmps : Array Value} {ps : Array Tmp} {assign body : Code} (hl : W.heap[l]? = some (.loop rec)) (hr : rec.state = .ready)
    (h2 : rec.tmps = tmps) (h3 : rec.params = ps) (h4 : rec.assign = assign) (h5 : rec.body = body) (hs : args.size = ps.size)
    (h : assign.wpIn (wideR (some l)) m P (Exit.then (fun a₁ w₁ => w₁.heap[l]? = some (.loop rec) ∧ body.wpIn (wideR (some l)) m P (endPost l rec R) a₁ (w₁.putObj l (.loop { rec with state := .busy }))) (fun _ _ _ => False))
      { tmps := (ps.zip args).foldl (fun t (p, v) => t.setIfInBounds p v) tmps, defers := [] } W) :
    YieldAt Fence.wide m P l args W R := by
  subst h2 h3 h4 h5
  refine ⟨_, _, _, _, run_yield hl hs, roundIn_of_wpIn trivial (wpIn_mono h ?_)⟩
  intro e a w hq
  cases e with
  | normal =>
    refine ⟨_, run_beginRound hq.1 hr, wpIn_mono hq.2 ?_⟩
    intro e a w hq
    cases e with
    | normal => exact ⟨_, _, run_endRound none hq.1, hq.2⟩
    | exit id => exact ⟨_, _, run_endRound (some (.exit id)) hq.1, hq.2⟩
    | ret => exact ⟨_, _, run_endRound (some .ret) hq.1, hq.2⟩
    | _ => exact hq.elim
  | _ => exact hq.elim
/-- The statement: the function that is ranged over is called, with the loop's record laid ahead of it. -/
theorem range_wide {P : Program} {n : Nat} {g : Operand} {ps : Array Tmp} {assign body : Code} {Q : Exit → Act → World → Prop} {a : Act} {w : World} {gf : Nat} {lb : Array Value} (l : Nat) (hl : w.heap.size + 1 = l)
    (hg : a.eval g = .func (.func gf) #[] lb) (eg : ∀ args w, (callFunc gf args).run P w = .ok (.enter gf args) w)
    (h : ∀ rec : Loop, rec.state = .ready → rec.pending = none → rec.tmps = a.tmps → rec.params = ps → rec.assign = assign → rec.body = body →
      Calls P gf (#[.func (.yield l) #[] #[]] ++ lb) ((w.alloc (.deferred (some []))).alloc (.loop rec)) fun e w' =>
      ∃ v rec, e = .returned v ∧ w'.heap[l]? = some (.loop rec) ∧ rec.state ≠ .busy ∧
        (match rec.pending with
        | none => Q .normal { a with defers := { target := .collected w.heap.size, args := #[] } :: a.defers } (w'.putObj l (.loop { rec with state := .exhausted }))
        | some c => c.wpIn Fence.wide n P Q { a with defers := { target := .collected w.heap.size, args := #[] } :: a.defers } (w'.putObj l (.loop { rec with state := .exhausted })))) :
    (Code.rangeFunc g ps assign body).wpIn Fence.wide n P Q a w := by
  subst hl
  refine wpIn_rangeFunc fun fn _ => ?_
  obtain ⟨rec, hrec⟩ : ∃ rec : Loop, { state := .ready, pending := none, fn, tmps := a.tmps, params := ps, assign, body, defers := w.heap.size } = rec := ⟨_, rfl⟩
  have h := h rec (by rw [← hrec]) (by rw [← hrec]) (by rw [← hrec]) (by rw [← hrec]) (by rw [← hrec]) (by rw [← hrec])
  have he := run_enterLoop_outer (P := P) (w := w) fn a.tmps ps assign body
  rw [hrec] at he
  obtain ⟨W1, hW1⟩ : ∃ W1, (w.alloc (.deferred (some []))).alloc (.loop rec) = W1 := ⟨_, rfl⟩
  rw [hW1] at h he
  refine ⟨w.heap.size + 1, [{ target := .collected w.heap.size, args := #[] }], W1, { target := .fn (.func gf) lb, args := #[.func (.yield (w.heap.size + 1)) #[] #[]] }, W1, gf, #[.func (.yield (w.heap.size + 1)) #[] #[]] ++ lb, W1, he, ?_, fun _ _ => trivial, ?_, deepR (r := none), ?_⟩
  · simp only [resolve, hg]
    simp [go_sem]
  · simp [invoke, go_sem, eg]
  · refine (callsIn_wide.2 h).mono ?_
    rintro e w' ⟨v, rec, rfl, hl, hb, hq⟩
    exact ⟨rec.pending, _, run_endLoop hl hb, hq⟩
end Go.Proofs.YthhkhcacljgelaaGreat

/- Counters that are later, the program's and the document's; why there is no stream. -/
namespace Go.Proofs.YthhkhcacljgelaaGreat
open Go.RowKit
set_option maxRecDepth 100000
theorem wrap_u64_nat {n : Nat} (h : n < 18446744073709551616) : IntKind.u64.wrap (n : Int) = n := by rw [IntKind.wrap_u64]; omega

set_option maxHeartbeats 800000 in
theorem later_any (g off c : Nat) (f : Nat → Nat) (k : Nat) (w : World) (hk : k < 9223372036854775808) (h : Wd w 16 g off f) :
    Calls Tryz.prog 47 #[.slice (some ⟨g, off, none⟩) 16 c, .int .i64 k] w fun e w' =>
      e = .returned (.slice (some ⟨w.heap.size, 0, none⟩) 16 16) ∧ Own .u8 w.heap.size 5 w' (.slice (some ⟨w.heap.size, 0, none⟩) 16 16) (ns 16 (lat f k)) ∧ Below w.heap.size w w' := by
  have hmk : (Instr.makeSlice 22 (.int .i64 16) (.int .i64 16)).run Tryz.prog w = .ok (.slice (some ⟨w.heap.size, 0, none⟩) 16 16) (w.alloc (.cells (madeCells #[.int .u8 0] 16) 5)) := run_make_ints (P := Tryz.prog) w .u8 .i64 22 5 16 Tryz.underlying22 info8 (by decide) (by decide)
  have hk0 : IntKind.u64.wrap (k : Int) = k := wrap_u64_nat (by omega)
  have HW := hid h
  have HK := hid hk
  have HO : Hid (Own .u8 w.heap.size 5 (w.alloc (.cells (madeCells #[.int .u8 0] 16) 5)) (.slice (some ⟨w.heap.size, 0, none⟩) 16 16) (ns 16 (fun _ => 0))) := hid (by
    have := own_made (k := .u8) (B := w.heap.size) (E := 5) w 16 (Nat.le_refl _) (by unfold maxLen; omega)
    rwa [ns_zero] at this)
  clear h hk
  go_enter Tryz.func47, Tryz.ntmps47
  go_wp2
  go_loopw [6, 7] (fun x i wr => ∃ (m : Nat) (L : Nat → Nat), m ≤ 16 ∧ x = .int .u64 (car f k m) ∧ i = .int .i64 (15 - m) ∧ (∀ j, j < 16 → 16 ≤ j + m → L j = lat f k j) ∧ Own .u8 w.heap.size 5 wr (.slice (some ⟨w.heap.size, 0, none⟩) 16 16) (ns 16 L) ∧ Below w.heap.size w wr) (fun _ i _ => (intOf i + 1).toNat)
  case atStart => exact ⟨0, fun _ => 0, by omega, rfl, rfl, fun j h1 h2 => absurd h2 (by omega), HO.out, (Below.refl _ _).alloc (Nat.le_refl _) _⟩
  case round =>
    obtain ⟨m, L, hm, rfl, rfl, hL, hown, hlow⟩ := hrel
    have HL := hid hlow
    have HLL := hid hL
    have HO := hid hown
    clear hlow hL hown
    by_cases h16 : m = 16
    · subst h16
      go_wp2
      go_ret
      exact ⟨rfl, (ns_ext fun j hj => HLL.out j hj (by omega)) ▸ HO.out, HL.out⟩
    · have hm' : m < 16 := by omega
      obtain ⟨g', cap', hv, hg1, hg2, hcell, hfr, hset⟩ := HO.out.part (by rw [ns_len]; omega)
      simp only [Value.slice.injEq, Option.some.injEq, Addr.mk.injEq] at hv
      obtain ⟨⟨rfl, -, -⟩, -, rfl⟩ := hv
      have c1 := (HL.out.cell (p := ⟨g, off + (15 - m), none⟩) HW.out.lt).trans (HW.out.cell (15 - m) (by omega))
      have c2 := hfr (15 - m)
      have c3 := hcell (15 - m) (by rw [ns_len]; omega)
      have e15 : (15 : Int) - m = ((15 - m : Nat) : Int) := by omega
      have hfb := HW.out.byte (15 - m) (by omega)
      have hcb := car_le f HW.out.byte k m (by omega)
      have hkk := HK.out
      have hw1 : IntKind.u64.wrap ((f (15 - m) : Nat) : Int) = ((f (15 - m) : Nat) : Int) := wrap_u64_nat (by omega)
      have hw2 : IntKind.u64.wrap ((car f k m : Int) + (f (15 - m) : Int)) = ((car f k m + f (15 - m) : Nat) : Int) := by rw [← Int.natCast_add]; exact wrap_u64_nat (by omega)
      have HST := hid (fun z : Int => hset (15 - m) z (by rw [ns_len]; omega))
      have HZ : Hid (∀ i, i < 16 → 16 ≤ i + (m + 1) → upd L (15 - m) ((car f k m + f (15 - m)) % 256) i = lat f k i) := hid (fun i hi h => by
        unfold upd
        by_cases e : i = 15 - m
        · subst e
          rw [if_pos rfl]; unfold lat
          rw [show 15 - (15 - m) = m by omega, Nat.add_comm]
        · rw [if_neg e]; exact HLL.out i hi (by omega))
      have HC1 : Hid (car f k (m + 1) = (car f k m + f (15 - m)) / 256) := hid (by show (f (15 - m) + car f k m) / 256 = _; rw [Nat.add_comm])
      clear hcell hfr hset
      rw [e15]
      generalize car f k m = x at *
      generalize hq : 15 - m = q at *
      have hqb : q < 16 := by omega
      have hq0 : (q : Int) < 16 := by omega
      have hq1 : (0 : Int) ≤ q := by omega
      have HQ : Hid (15 - m = q ∧ m < 16) := hid ⟨hq, hm'⟩
      have HX : Hid (x ≤ k + 1 ∧ k < 9223372036854775808) := hid ⟨hcb, hkk⟩
      have HF : Hid (f q < 256) := hid hfb
      clear hq hm' h16 hm hcb hkk hfb hk0 hmk
      clear e15
      go_wp2
      go_roundw
      case rel =>
        refine ⟨m + 1, upd L q ((x + f q) % 256), by have := HQ.out.2; omega, ?_, ?_, HZ.out, ?_, HL.out.setCell (Nat.le_refl _) _⟩
        · rw [HC1.out]; congr 1
        · have := HQ.out; congr 1; omega
        · have := HST.out (((x + f q) % 256 : Nat) : Int)
          rw [ns_set] at this
          exact this
      case measure => (simp [intOf] <;> omega)

theorem w64 {n : Int} (h0 : 0 ≤ n) (h1 : n < 9223372036854775808) : wrap64 n = n := by unfold wrap64; omega
theorem doc_byte {x y : Nat} (hy : y < 256) : (wrap64 (wrap64 (y : Int) + (x : Int) % 256)).tmod 256 % 256 = (((y + x) % 256 : Nat) : Int) := by
  rw [w64 (n := (y : Int)) (by omega) (by omega), w64 (by omega) (by omega), Int.tmod_eq_emod_of_nonneg (by omega)]; omega
theorem doc_carry {x y : Nat} (hx : x ≤ 9223372036854775808) (hy : y < 256) : wrap64 (wrap64 ((x : Int) / 256) + wrap64 ((wrap64 (wrap64 (y : Int) + (x : Int) % 256)).tdiv 256)) = (((y + x) / 256 : Nat) : Int) := by
  rw [w64 (n := (y : Int)) (by omega) (by omega), w64 (n := (y : Int) + (x : Int) % 256) (by omega) (by omega), Int.tdiv_eq_ediv_of_nonneg (by omega), w64 (n := (x : Int) / 256) (by omega) (by omega), w64 (n := ((y : Int) + (x : Int) % 256) / 256) (by omega) (by omega), w64 (by omega) (by omega)]; omega
/-- Why there is no stream: the code of the error. -/
def ckr (L : Nat) (q : Bool) : Int := if L ≠ 16 then 5 else if q then 1 else 0
theorem refused_any (a : Option Addr) (L c : Nat) (q : Bool) (w : World) :
    Calls Tryz.prog 46 #[.slice a L c, .bool q] w fun e w' => e = .returned (.int .i64 (ckr L q)) ∧ w' = w := by
  by_cases h : L = 16
  · subst h
    cases q
    · go_enter Tryz.func46, Tryz.ntmps46
      go_wp2
      go_ret
      exact ⟨rfl, rfl⟩
    · go_enter Tryz.func46, Tryz.ntmps46
      go_wp2
      go_ret
      exact ⟨rfl, rfl⟩
  · have h1 : ¬ ((L : Int) = 16) := by omega
    have h2 : ckr L q = 5 := if_pos h
    rw [h2]
    have h3 : ((L : Int) != 16) = true := by rw [bne_iff_ne]; exact h1
    go_enter Tryz.func46, Tryz.ntmps46
    go_wp2
    go_ret
    exact ⟨rfl, rfl⟩
/-- A number that may not be. -/
def outs (n : Int) : Bool := decide (n < 0) || decide (n > 65536)
end Go.Proofs.YthhkhcacljgelaaGreat

/- At. -/
namespace Go.Proofs.YthhkhcacljgelaaGreat
open Go.RowKit
set_option maxRecDepth 100000
/-- No answer, and why. -/
def none2 (e : Int) : Ending := .returned (.tuple #[.slice none 0 0, .int .i64 e])
end Go.Proofs.YthhkhcacljgelaaGreat

/- The stream's blocks: the function that tells them, for whatever loop ranges over it. -/
namespace Go.Proofs.YthhkhcacljgelaaGreat
open Go.RowKit Go.Shelf
set_option maxRecDepth 100000
attribute [local go_sem] Oper.semAt_some

theorem blocks_any (d g off n c : Nat) (w : World) :
    Calls Tryz.prog 49 #[.pointer (some ⟨d, 0, none⟩), .slice (some ⟨g, off, none⟩) n c] w fun e w' => e = .returned (.func (.func 64) #[] #[.pointer (some ⟨w.heap.size + 1, 0, none⟩), .pointer (some ⟨w.heap.size, 0, none⟩)]) ∧ w' = (w.alloc (.cells #[.pointer (some ⟨d, 0, none⟩)] 26)).alloc (.cells #[.slice (some ⟨g, off, none⟩) n c] 22) := by
  go_enter Tryz.func49, Tryz.ntmps49
  go_wp2
  go_ret
  exact ⟨rfl, rfl⟩

/-- What a round leaves alone: whatever S does not name. -/
structure Kp (S : Nat → Prop) (A B : World) : Prop where
  size : A.heap.size ≤ B.heap.size
  block : ∀ j, j < A.heap.size → ¬ S j → B.heap[j]? = A.heap[j]?
section
variable {S : Nat → Prop} {A B : World}
theorem Kp.wd (h : Kp S A B) {n g off : Nat} {f : Nat → Nat} (hw : Wd A n g off f) (hS : ¬ S g) : Wd B n g off f := hw.same h.size (h.block g hw.lt hS)
theorem Kp.box (h : Kp S A B) {g : Nat} {o : Obj} (hw : A.heap[g]? = some o) (hS : ¬ S g) : B.heap[g]? = some o := (h.block g (Array.getElem?_eq_some_iff.1 hw).1 hS).trans hw
theorem Kp.ci (h : Kp S A B) {d b c cap n : Nat} {Y : Nat → Nat → Nat} (hc : Ci A d b c cap n Y) (hd : ¬ S d) (hb : ¬ S b) (hcc : ¬ S c) : Ci B d b c cap n Y :=
  ⟨h.box hc.blk hd, hc.box.same (h.block b hc.box.lt hb), hc.rows.same h.size (h.block c hc.rows.lt hcc), hc.ne⟩
end
theorem one_box {w : World} {b : Nat} {v : Value} {t : TypeId} (h : w.heap[b]? = some (.cells #[v] t (0, 0))) : w.cell? ⟨b, 0, none⟩ = some v := by simp [World.cell?, h]

/-- Between two rounds, k of them being over. -/
structure It (W : World) (S : Nat → Prop) (J : Nat → World → Prop) (d b c cap R1 Bc : Nat) (Y : Nat → Nat → Nat) (f : Nat → Nat) (k g off : Nat) (F : Nat → Nat) (wr : World) : Prop where
  ci : Ci wr d b c cap R1 Y
  own : wr.heap[Bc]? = some (.cells #[.pointer (some ⟨d, 0, none⟩)] 26 (0, 0))
  cnt : Wd wr 16 g off F
  eq : Eq16 F (lat f k)
  ne : g ≠ b ∧ Bc ≠ b
  out : ¬ S d ∧ ¬ S b ∧ ¬ S c ∧ ¬ S Bc ∧ ¬ S g
  big : W.heap.size ≤ wr.heap.size
  inv : J k wr

section
variable {W : World} {S : Nat → Prop} {J : Nat → World → Prop} {d b c cap R1 Bc : Nat} {Y : Nat → Nat → Nat} {f : Nat → Nat} {k g off : Nat} {F : Nat → Nat} {wr w' : World}
theorem It.asked (h : It W S J d b c cap R1 Bc Y f k g off F wr) (hJ : ∀ k A B, J k A → Only b A B → J k B) (hci : Ci w' d b c cap R1 Y) (o : Only b wr w') : It W S J d b c cap R1 Bc Y f k g off F w' :=
  ⟨hci, (o.block _ (Array.getElem?_eq_some_iff.1 h.own).1 h.ne.2).trans h.own, h.cnt.only o h.ne.1, h.eq, h.ne, h.out, Nat.le_trans h.big o.size, hJ _ _ _ h.inv o⟩
theorem It.drew (h : It W S J d b c cap R1 Bc Y f k g off F wr) (hJ : ∀ k A B, J k A → Only b A B → J k B) : It W S J d b c cap R1 Bc Y f k g off F wr.drew :=
  h.asked hJ h.ci.drew (Only.refl b wr).drew
end
section
variable {W : World} {S : Nat → Prop} {J : Nat → World → Prop} {d b c cap R1 Bc : Nat} {Y : Nat → Nat → Nat} {f : Nat → Nat} {k g off : Nat} {F : Nat → Nat} {wr w' : World}
/-- .. and when a round has gone on. -/
structure Mid (W : World) (S : Nat → Prop) (J : Nat → World → Prop) (d b c cap R1 Bc : Nat) (Y : Nat → Nat → Nat) (f : Nat → Nat) (k g off : Nat) (F : Nat → Nat) (wr : World) : Prop where
  ci : Ci wr d b c cap R1 Y
  own : wr.heap[Bc]? = some (.cells #[.pointer (some ⟨d, 0, none⟩)] 26 (0, 0))
  cnt : Wd wr 16 g off F
  eq : Eq16 F (lat f k)
  ne : g ≠ b ∧ Bc ≠ b
  out : ¬ S d ∧ ¬ S b ∧ ¬ S c ∧ ¬ S Bc ∧ ¬ S g
  big : W.heap.size ≤ wr.heap.size
  inv : J (k + 1) wr
theorem It.told (h : It W S J d b c cap R1 Bc Y f k g off F wr) (hj : J (k + 1) w') (hk : Kp S wr w') : Mid W S J d b c cap R1 Bc Y f k g off F w' :=
  ⟨hk.ci h.ci h.out.1 h.out.2.1 h.out.2.2.1, hk.box h.own h.out.2.2.2.1, hk.wd h.cnt h.out.2.2.2.2, h.eq, h.ne, h.out, Nat.le_trans h.big hk.size, hj⟩
theorem Mid.next (h : Mid W S J d b c cap R1 Bc Y f k g off F wr) (hS : ∀ j, S j → j < W.heap.size) (hJ : ∀ k A B, J k A → Only b A B → J k B) {g' : Nat} (hw : Wd w' 16 g' 0 (lat F 1)) (hg : wr.heap.size ≤ g') (hlow : Below wr.heap.size wr w') :
    It W S J d b c cap R1 Bc Y f (k + 1) g' 0 (lat F 1) w' :=
  ⟨h.ci.self hlow, (hlow.block _ (Array.getElem?_eq_some_iff.1 h.own).1).trans h.own, hw, (lat_e h.eq 1).trans (lat_succ f k), ⟨by have := h.ci.box.lt; omega, h.ne.2⟩,
    ⟨h.out.1, h.out.2.1, h.out.2.2.1, h.out.2.2.2.1, fun q => by have := hS _ q; have := h.big; omega⟩, Nat.le_trans h.big hlow.size, hJ _ _ _ h.inv (Only.of_below hlow)⟩
end
/-- A counter and one, a new one. -/
theorem inc_ns (g off c : Nat) (f : Nat → Nat) (w : World) (h : Wd w 16 g off f) :
    Calls Tryz.prog 65 #[.slice (some ⟨g, off, none⟩) 16 c] w fun e w' => ∃ g' c', e = .returned (.slice (some ⟨g', 0, none⟩) 16 c') ∧ Wd w' 16 g' 0 (lat f 1) ∧ w.heap.size ≤ g' ∧ Below w.heap.size w w' := by
  refine (inc_any _ _ w (h.rd c (by decide))).mono ?_
  rintro e w' ⟨u, rfl, hown, hlow⟩
  rw [ns_len, inc_lat h.byte] at hown
  obtain ⟨g', c', rfl, hg, _⟩ := hown.part (by rw [ns_len]; decide)
  rw [ns_len] at hown ⊢
  exact ⟨g', c', rfl, Wd.of_own hown (by decide) (lat_b f 1), hg, hlow⟩
theorem load16 {P : Program} {op : Oper} {a : Act} {g o : Nat} {f : Nat → Nat} (x : Operand) (ho : op.op = .load 48 x) (hx : a.eval x = .pointer (some ⟨g, o, none⟩)) (hu : P.underlying 48 = some (.array 16 5)) (hi : (P.info? 48).map (·.size) = some 16) {w : World} (h : Wd w 16 g o f) :
    (execOp a.eval op).run P w = .ok (.value (.agg (ba 16 f))) w := by
  have h1 := run_loadVar_mid (P := P) w g o 48 (ba 16 f).toList _ h.range hu rfl (by rw [Array.length_toList, ba_size]; exact hi)
  rw [Array.toArray_toList] at h1
  unfold execOp
  simp only [ho, hx, Instr.loadAt, Instr.sureAddr, Sem.run_bind, Sem.run_pure, Result.andThen_ok, h1]

theorem opIn_value {n : Nat} {P : Program} {o : Oper} {a : Act} {w w' : World} {K : Act → World → Prop} {Q : Exit → Act → World → Prop} {v : Value} (h : (execOp a.eval o).run P w = .ok (.value v) w') (k : K (a.put o.dst v) w') : Oper.wpIn Fence.wide n P o a w K Q :=
  ⟨fun _ _ => trivial, by
    show Oper.uponIn _ _ _ _ _ _ _ ((execOp a.eval o).run P w)
    rw [h]; exact k⟩
theorem arr_off (g o c : Nat) (w : World) : (Instr.arrayAt 48 (.slice (some ⟨g, o, none⟩) 16 c)).run Tryz.prog w = .ok (.pointer (some ⟨g, o, none⟩)) w := by
  simp [Instr.arrayAt, run_underlying Tryz.underlying48]
set_option maxHeartbeats 3200000 in
theorem iter_any (S : Nat → Prop) (J : Nat → World → Prop) (Jx : World → Prop) (l d b c cap R R1 Bc Bb g off cc K : Nat) (Y : Nat → Nat → Nat) (f : Nat → Nat) (W : World)
    (hR1 : R1 = R + 1) (hR : 0 < R) (hl : R ≤ 1000) (hS : ∀ j, S j → j < W.heap.size) (hK : ∀ k A, J k A → k < K)
    (hJ : ∀ k A B, J k A → Only b A B → J k B)
    (hY : ∀ k A, J k A → YieldAt Fence.wide 4 Tryz.prog l #[.agg (ba 16 (blkF Y R (lat f k)))] A (fun e B => (e = .returned (.bool true) ∧ J (k + 1) B ∧ Kp S A B) ∨ (e = .returned (.bool false) ∧ Jx B ∧ Kp S A B)))
    (h0 : It W S J d b c cap R1 Bc Y f 0 g off f W) (hBb : W.heap[Bb]? = some (.cells #[.slice (some ⟨g, off, none⟩) 16 cc] 22 (0, 0))) :
    Calls Tryz.prog 64 #[.func (.yield l) #[] #[], .pointer (some ⟨Bb, 0, none⟩), .pointer (some ⟨Bc, 0, none⟩)] W fun e w' => (∃ v, e = .returned v) ∧ Jx w' ∧ Ci w' d b c cap R1 Y := by
  have cb := one_box hBb
  have H0 := hid h0
  have HS := hid hS; have HKK := hid hK; have HJ := hid hJ; have HY := hid hY
  have HR := hid (And.intro hR1 (And.intro hR hl))
  clear h0 hBb hS hK hJ hY hR1 hR hl
  refine (callsIn_wide (n := 5)).1 ?_
  refine callsIn_of_wp Tryz.func64 rfl trivial ?_ rfl
  simp only [Tryz.ntmps64, List.size_toArray, List.length_cons, List.length_nil, Nat.reduceAdd, Nat.reduceSub, Array.replicate_succ, Array.replicate_zero, List.push_toArray, List.append_toArray, List.nil_append, List.cons_append]
  gi_wp2
  gi_loopg [4] K (fun m v wr => ∃ (k gk ok ck : Nat) (F : Nat → Nat), m = K - k ∧ v = .slice (some ⟨gk, ok, none⟩) 16 ck ∧ It W S J d b c cap R1 Bc Y f k gk ok F wr)
  case atStart => exact ⟨0, g, off, cc, f, by omega, rfl, H0.out⟩
  case round =>
    obtain ⟨k, gk, ok, ck, F, rfl, rfl, hit⟩ := hrel
    have HI := hid hit
    clear hit
    gi_wp2
    refine wpIn_region_any (by kernel_rfl) ?_
    have HD := hid (HI.out.drew HJ.out)
    change wpAnyIn _ _ _ _ _ _ _ _ _ (World.drew _)
    generalize wr.drew = w2 at *
    refine wpAnyIn_take (i := 0) (v := .func (.yield l) #[] #[]) rfl rfl (by kernel_rfl) (by kernel_rfl) (by kernel_rfl) (fun _ _ _ h => h) ⟨Or.inl ⟨by rfl, fun w => by go_simp⟩, fun _ => rfl⟩ ?_
    simp only [Act.put, lay_out]
    refine wpAnyIn_take (i := 2) (v := .slice (some ⟨gk, ok, none⟩) 16 ck) rfl rfl (by kernel_rfl) (by kernel_rfl) (by kernel_rfl) (fun _ _ _ h => h) ⟨Or.inl ⟨by rfl, fun w => by go_simp⟩, fun _ => rfl⟩ ?_
    simp only [Act.put, lay_out]
    refine wpAnyIn_take (i := 3) (v := .pointer (some ⟨gk, ok, none⟩)) rfl rfl (by kernel_rfl) (by kernel_rfl) (by kernel_rfl) (fun _ _ _ h => h) ⟨Or.inl ⟨by rfl, fun w => by have := arr_off gk ok ck w; go_simp⟩, fun _ => rfl⟩ ?_
    simp only [Act.put, lay_out]
    have c7 : w2.cell? ⟨Bc, 0, none⟩ = some (.pointer (some ⟨d, 0, none⟩)) := one_box HD.out.own
    have BLK : Hid (ba 16 (blkF Y R F) = ba 16 (blkF Y R (lat f k))) := hid (ba_ext fun j hj => blk_e HI.out.eq j hj)
    have BLK : Hid (ba 16 (blkF Y R F) = ba 16 (blkF Y R (lat f k))) := hid (ba_ext fun j hj => blk_e HI.out.eq j hj)
    have BLK : Hid (ba 16 (blkF Y R F) = ba 16 (blkF Y R (lat f k))) := hid (ba_ext fun j hj => blk_e HI.out.eq j hj)
    have BLK : Hid (ba 16 (blkF Y R F) = ba 16 (blkF Y R (lat f k))) := hid (ba_ext fun j hj => blk_e HI.out.eq j hj)
    have BLK : Hid (ba 16 (blkF Y R F) = ba 16 (blkF Y R (lat f k))) := hid (ba_ext fun j hj => blk_e HI.out.eq j hj)
    have BLK : Hid (ba 16 (blkF Y R F) = ba 16 (blkF Y R (lat f k))) := hid (ba_ext fun j hj => blk_e HI.out.eq j hj)
    refine wpAnyIn_ready (rs := [1, 4]) (by kernel_rfl) (by simp) (AllReadyIn.cons rfl (fun K hK => ?_) (AllReadyIn.cons rfl (fun K hK => ?_) AllReadyIn.nil))
    · rw [if_pos (by rfl)]
      go_simp
      refine hK _ _ ?_
      clear hK K
      refine wpAnyIn_ready (rs := [4]) (by kernel_rfl) (by simp) (AllReadyIn.cons rfl (fun K hK => ?_) AllReadyIn.nil)
      rw [if_pos (by rfl)]
      refine opIn_value (load16 (.tmp 9) rfl rfl Tryz.underlying48 infoa HD.out.cnt) ?_
      refine hK _ _ ?_
      clear hK K
      simp only [Act.put, lay_out]
      refine wpAnyIn_ready (rs := [5]) (by kernel_rfl) (by simp) (AllReadyIn.cons rfl (fun K hK => ?_) AllReadyIn.nil)
      rw [if_pos (by rfl)]
      go_simp
      refine ⟨trivial, ?_⟩
      gi_at_call 61
      refine (callsIn_wide.2 (block_any d b c cap R R1 Y F _ HR.out.1 HR.out.2.1 HR.out.2.2 (fun j hj => HD.out.cnt.byte j hj) HD.out.ci)).mono ?_
      rintro e w3 ⟨rfl, hci, ho⟩
      have HE := hid (HD.out.asked HJ.out hci ho)
      have hy := HY.out k w3 HE.out.inv
      rw [← BLK.out] at hy
      obtain ⟨fn, tmps, assign, body, hy, hRD⟩ := hy
      clear hci ho
      refine hK _ _ ?_
      clear hK K
      try simp only [Act.put, lay_out]
      refine wpAnyIn_ready (rs := [6]) (by kernel_rfl) (by simp) (AllReadyIn.cons rfl (fun K hK => ?_) AllReadyIn.nil)
      rw [if_pos (by rfl)]
      go_simp
      refine hRD.mono ?_
      clear hRD hy
      rintro e w4 (⟨rfl, hj, hk⟩ | ⟨rfl, hjx, hk⟩)
      · have HT := hid (HE.out.told hj hk)
        have HM := hid (HKK.out _ _ HE.out.inv)
        have HN := hid (HKK.out _ _ hj)
        have HIN := hid (inc_ns gk ok ck F _ HT.out.cnt)
        clear hj hk
        refine hK _ _ ?_
        clear hK K
        refine wpAnyIn_done (by kernel_rfl) ?_ _
        try simp only [Act.put, lay_out]
        gi_wp2
        refine ⟨trivial, ?_⟩
        gi_at_call 65
        refine (callsIn_wide.2 HIN.out).mono ?_
        rintro e w5 ⟨g5, c5, rfl, hw5, hg5, hlow5⟩
        have HU := hid (HT.out.next HS.out HJ.out hw5 hg5 hlow5)
        clear hw5 hg5 hlow5
        gi_wp2
        gi_roundg (K - (k + 1))
        case rel => exact ⟨k + 1, g5, 0, c5, _, rfl, rfl, HU.out⟩
        case measure => have := HM.out; have := HN.out; omega
      · have HC := hid (hk.ci HE.out.ci HE.out.out.1 HE.out.out.2.1 HE.out.out.2.2.1)
        have HX := hid hjx
        clear hjx hk
        refine hK _ _ ?_
        clear hK K
        refine wpAnyIn_done (by kernel_rfl) ?_ _
        try simp only [Act.put, lay_out]
        gi_wp2
        go_end0
        exact ⟨⟨_, rfl⟩, HX.out, HC.out⟩
    · rw [if_pos (by rfl)]
      refine opIn_value (load16 (.tmp 9) rfl rfl Tryz.underlying48 infoa HD.out.cnt) ?_
      refine hK _ _ ?_
      clear hK K
      simp only [Act.put, lay_out]
      refine wpAnyIn_ready (rs := [1]) (by kernel_rfl) (by simp) (AllReadyIn.cons rfl (fun K hK => ?_) AllReadyIn.nil)
      rw [if_pos (by rfl)]
      go_simp
      refine hK _ _ ?_
      clear hK K
      refine wpAnyIn_ready (rs := [5]) (by kernel_rfl) (by simp) (AllReadyIn.cons rfl (fun K hK => ?_) AllReadyIn.nil)
      rw [if_pos (by rfl)]
      go_simp
      refine ⟨trivial, ?_⟩
      gi_at_call 61
      refine (callsIn_wide.2 (block_any d b c cap R R1 Y F _ HR.out.1 HR.out.2.1 HR.out.2.2 (fun j hj => HD.out.cnt.byte j hj) HD.out.ci)).mono ?_
      rintro e w3 ⟨rfl, hci, ho⟩
      have HE := hid (HD.out.asked HJ.out hci ho)
      have hy := HY.out k w3 HE.out.inv
      rw [← BLK.out] at hy
      obtain ⟨fn, tmps, assign, body, hy, hRD⟩ := hy
      clear hci ho
      refine hK _ _ ?_
      clear hK K
      try simp only [Act.put, lay_out]
      refine wpAnyIn_ready (rs := [6]) (by kernel_rfl) (by simp) (AllReadyIn.cons rfl (fun K hK => ?_) AllReadyIn.nil)
      rw [if_pos (by rfl)]
      go_simp
      refine hRD.mono ?_
      clear hRD hy
      rintro e w4 (⟨rfl, hj, hk⟩ | ⟨rfl, hjx, hk⟩)
      · have HT := hid (HE.out.told hj hk)
        have HM := hid (HKK.out _ _ HE.out.inv)
        have HN := hid (HKK.out _ _ hj)
        have HIN := hid (inc_ns gk ok ck F _ HT.out.cnt)
        clear hj hk
        refine hK _ _ ?_
        clear hK K
        refine wpAnyIn_done (by kernel_rfl) ?_ _
        try simp only [Act.put, lay_out]
        gi_wp2
        refine ⟨trivial, ?_⟩
        gi_at_call 65
        refine (callsIn_wide.2 HIN.out).mono ?_
        rintro e w5 ⟨g5, c5, rfl, hw5, hg5, hlow5⟩
        have HU := hid (HT.out.next HS.out HJ.out hw5 hg5 hlow5)
        clear hw5 hg5 hlow5
        gi_wp2
        gi_roundg (K - (k + 1))
        case rel => exact ⟨k + 1, g5, 0, c5, _, rfl, rfl, HU.out⟩
        case measure => have := HM.out; have := HN.out; omega
      · have HC := hid (hk.ci HE.out.ci HE.out.out.1 HE.out.out.2.1 HE.out.out.2.2.1)
        have HX := hid hjx
        clear hjx hk
        refine hK _ _ ?_
        clear hK K
        refine wpAnyIn_done (by kernel_rfl) ?_ _
        try simp only [Act.put, lay_out]
        gi_wp2
        go_end0
        exact ⟨⟨_, rfl⟩, HX.out, HC.out⟩
end Go.Proofs.YthhkhcacljgelaaGreat

/- The first bytes of a stream: a loop over the function that tells its blocks. -/
namespace Go.Proofs.YthhkhcacljgelaaGreat
open Go.RowKit Go.Shelf
set_option maxRecDepth 100000
attribute [local go_sem] Oper.semAt_some

/-- Room for n bytes, of which none is there. -/
theorem make_room (w : World) (n : Nat) (hn : n ≤ 70368744177664) :
    (Instr.makeSlice 22 (.int .i64 0) (.int .i64 n)).run Tryz.prog w = .ok (.slice (some ⟨w.heap.size, 0, none⟩) 0 n) (w.alloc (.cells (madeCells #[.int .u8 0] n) 5)) := by
  obtain ⟨i0, hi, hz0, hz1, hz2⟩ := info_parts info8
  have := run_make (P := Tryz.prog) w 22 5 i0 _ Tryz.underlying22 hi hz0 .i64 .i64 0 n (by omega) (by omega) (by rw [hz2]; simp; omega) (by omega)
  rw [this]
  simp [hz1, Value.cells]
theorem own_room (w : World) (n : Nat) (hn : n ≤ maxLen) : Own .u8 w.heap.size 5 (w.alloc (.cells (madeCells #[.int .u8 0] n) 5)) (.slice (some ⟨w.heap.size, 0, none⟩) 0 n) [] :=
  ⟨rfl, .inr ⟨w.heap.size, n, madeCells #[.int .u8 0] n, rfl, Nat.le_refl _, heap_alloc_new w _, Nat.zero_le _, hn, by simp [size_madeCells], by simp⟩⟩

theorem only_put {b l : Nat} {w A : World} (h : Only b w A) (hl : w.heap.size ≤ l) (o : Obj) : Only b w (A.putObj l o) :=
  ⟨h.os, h.tape, h.output, by rw [World.putObj_size]; exact h.size, fun j hj hb => (World.putObj_heap_other (by omega)).trans (h.block j hj hb)⟩
theorem ci_put {A : World} {d b c cap n l : Nat} {Y : Nat → Nat → Nat} (h : Ci A d b c cap n Y) (hd : d ≠ l) (hb : b ≠ l) (hc : c ≠ l) (o : Obj) : Ci (A.putObj l o) d b c cap n Y :=
  ⟨(World.putObj_heap_other hd).trans h.blk, h.box.same (World.putObj_heap_other hb), h.rows.same (by rw [World.putObj_size]; exact Nat.le_refl _) (World.putObj_heap_other hc), h.ne⟩
/-- Between two rounds: k blocks have been put. -/
structure Fs (w : World) (b n : Nat) (F : Nat → Nat) (rec : Loop) (k : Nat) (A : World) : Prop where
  loop : A.heap[w.heap.size + 4]? = some (.loop rec)
  dfr : A.heap[w.heap.size + 3]? = some (.deferred (some []))
  num : A.heap[w.heap.size]? = some (.cells #[.int .i64 n] 3 (0, 0))
  out : A.heap[w.heap.size + 2]? = some (.cells #[.slice (some ⟨w.heap.size + 1, 0, none⟩) (16 * k) n] 22 (0, 0))
  own : Own .u8 w.heap.size 5 A (.slice (some ⟨w.heap.size + 1, 0, none⟩) (16 * k) n) (ns (16 * k) F)
  low : Only b w A
  lt : 16 * k < n ∨ (k = 0 ∧ n = 0)
/-- The last round has been left. -/
structure Fe (w : World) (b n : Nat) (F : Nat → Nat) (rec : Loop) (A : World) : Prop where
  loop : A.heap[w.heap.size + 4]? = some (.loop { rec with state := .done, pending := some (.exit 0) })
  dfr : A.heap[w.heap.size + 3]? = some (.deferred (some []))
  out : A.heap[w.heap.size + 2]? = some (.cells #[.slice (some ⟨w.heap.size + 1, 0, none⟩) n n] 22 (0, 0))
  own : Own .u8 w.heap.size 5 A (.slice (some ⟨w.heap.size + 1, 0, none⟩) n n) (ns n F)
  low : Only b w A
section
variable {w : World} {b n : Nat} {F : Nat → Nat} {rec : Loop} {k : Nat} {A B : World}
theorem Fs.only (h : Fs w b n F rec k A) (hb : b < w.heap.size) (o : Only b A B) : Fs w b n F rec k B := by
  have ha := fun j (hj : w.heap.size ≤ j) (hl : j < A.heap.size) => o.block j hl (by omega)
  have hlt := (Array.getElem?_eq_some_iff.1 h.loop).1
  exact ⟨(ha _ (by omega) hlt).trans h.loop, (ha _ (by omega) (by omega)).trans h.dfr, (ha _ (by omega) (by omega)).trans h.num, (ha _ (by omega) (by omega)).trans h.out, own_same h.own (ha _ (by omega) (by omega)), h.low.trans o, h.lt⟩
/-- In a round: q bytes have been put; the block B lies at x. -/
structure Rb (w : World) (b n : Nat) (F : Nat → Nat) (rec : Loop) (x : Nat) (B : Nat → Nat) (A : World) (q : Nat) (C : World) : Prop where
  loop : C.heap[w.heap.size + 4]? = some (.loop { rec with state := .busy })
  dfr : C.heap[w.heap.size + 3]? = some (.deferred (some []))
  num : C.heap[w.heap.size]? = some (.cells #[.int .i64 n] 3 (0, 0))
  out : C.heap[w.heap.size + 2]? = some (.cells #[.slice (some ⟨w.heap.size + 1, 0, none⟩) q n] 22 (0, 0))
  own : Own .u8 w.heap.size 5 C (.slice (some ⟨w.heap.size + 1, 0, none⟩) q n) (ns q F)
  low : Only b w C
  blk : At C x 16 48 B
  big : w.heap.size + 5 ≤ x
  kp : Kp (fun j => j = w.heap.size + 1 ∨ j = w.heap.size + 2 ∨ j = w.heap.size + 4) A C
theorem Fs.start_ {B : Nat → Nat} (h : Fs w b n F rec k A) (_ : b < w.heap.size) {A1 : World} (hA : A1.heap[A.heap.size]? = some (.cells (ba 16 (fun _ => 0)) 48 (0, 0))) (hs : A1.heap.size = A.heap.size + 1) (ho : ∀ j, j < A.heap.size → A1.heap[j]? = A.heap[j]?)
    (e1 : A1.os = A.os) (e2 : A1.tape = A.tape) (e3 : A1.output = A.output) : ∀ C, (A1.setRow A.heap.size (ba 16 B)).putObj (w.heap.size + 4) (.loop { rec with state := .busy }) = C → Rb w b n F rec A.heap.size B A (16 * k) C := by
  rintro C rfl
  have hl := (Array.getElem?_eq_some_iff.1 h.loop).1
  have hk : ∀ j, j < A.heap.size → j ≠ w.heap.size + 4 → ((A1.setRow A.heap.size (ba 16 B)).putObj (w.heap.size + 4) (.loop { rec with state := .busy })).heap[j]? = A.heap[j]? := fun j hj hn =>
    (World.putObj_heap_other hn).trans ((setRow_other A1 A.heap.size j (ba 16 B) (by omega)).trans (ho j hj))
  have hz : ((A1.setRow A.heap.size (ba 16 B)).putObj (w.heap.size + 4) (.loop { rec with state := .busy })).heap.size = A.heap.size + 1 := by rw [World.putObj_size]; simpa using hs
  refine ⟨World.putObj_heap_same (by rw [show (A1.setRow A.heap.size (ba 16 B)).heap.size = A1.heap.size by simp, hs]; omega), (hk _ (by omega) (by omega)).trans h.dfr, (hk _ (by omega) (by omega)).trans h.num, (hk _ (by omega) (by omega)).trans h.out, own_same h.own (hk _ (by omega) (by omega)),
    ⟨e1.trans h.low.os, e2.trans h.low.tape, e3.trans h.low.output, by rw [hz]; have := h.low.size; omega, fun j hj hjb => (hk j (by have := h.low.size; omega) (by omega)).trans (h.low.block j hj hjb)⟩,
    (World.putObj_heap_other (by omega)).trans (At.row (t := 48) (n := 16) (f := fun _ => 0) hA B), by omega, ⟨by rw [hz]; omega, fun j hj hS => hk j hj (fun e => hS (.inr (.inr e)))⟩⟩
section
variable {x q m : Nat} {B : Nat → Nat} {C C1 : World}
theorem Rb.drew (h : Rb w b n F rec x B A q C) : Rb w b n F rec x B A q C.drew := ⟨h.loop, h.dfr, h.num, h.out, h.own, h.low.drew, h.blk, h.big, ⟨h.kp.size, h.kp.block⟩⟩
/-- The row has grown; the variable not yet. -/
structure Rm (w : World) (b n : Nat) (F : Nat → Nat) (rec : Loop) (x : Nat) (B : Nat → Nat) (A : World) (q m : Nat) (C : World) : Prop where
  loop : C.heap[w.heap.size + 4]? = some (.loop { rec with state := .busy })
  dfr : C.heap[w.heap.size + 3]? = some (.deferred (some []))
  num : C.heap[w.heap.size]? = some (.cells #[.int .i64 n] 3 (0, 0))
  out : C.heap[w.heap.size + 2]? = some (.cells #[.slice (some ⟨w.heap.size + 1, 0, none⟩) q n] 22 (0, 0))
  own : Own .u8 w.heap.size 5 C (.slice (some ⟨w.heap.size + 1, 0, none⟩) (q + m) n) (ns (q + m) F)
  low : Only b w C
  blk : At C x 16 48 B
  big : w.heap.size + 5 ≤ x
  kp : Kp (fun j => j = w.heap.size + 1 ∨ j = w.heap.size + 2 ∨ j = w.heap.size + 4) A C
theorem Rb.grown (h : Rb w b n F rec x B A q C) (hg : C.grownBy C1 (some (w.heap.size + 1))) (ho : Own .u8 w.heap.size 5 C1 (.slice (some ⟨w.heap.size + 1, 0, none⟩) (q + m) n) (ns (q + m) F)) : Rm w b n F rec x B A q m C1 := by
  have hk : ∀ j, j < C.heap.size → j ≠ w.heap.size + 1 → C1.heap[j]? = C.heap[j]? := fun j hj hn => hg.block j hj (fun e => hn (by injection e))
  have hl := (Array.getElem?_eq_some_iff.1 h.loop).1
  exact ⟨(hk _ (by omega) (by omega)).trans h.loop, (hk _ (by omega) (by omega)).trans h.dfr, (hk _ (by omega) (by omega)).trans h.num, (hk _ (by omega) (by omega)).trans h.out, ho,
    ⟨hg.os.trans h.low.os, hg.tape.trans h.low.tape, hg.output.trans h.low.output, Nat.le_trans h.low.size hg.size, fun j hj hb => (hk j (by omega) (by omega)).trans (h.low.block j hj hb)⟩,
    (hk _ h.blk.lt (by have := h.big; omega)).trans h.blk, h.big, ⟨Nat.le_trans h.kp.size hg.size, fun j hj hS => (hk j (Nat.lt_of_lt_of_le hj h.kp.size) (fun e => hS (.inl e))).trans (h.kp.block j hj hS)⟩⟩
theorem Rm.put (h : Rm w b n F rec x B A q m C) : Rb w b n F rec x B A (q + m) (C.setCell ⟨w.heap.size + 1 + 1, 0, none⟩ (.slice (some ⟨w.heap.size + 1, 0, none⟩) (q + m) n)) := by
  have hk : ∀ j, j ≠ w.heap.size + 2 → (C.setCell ⟨w.heap.size + 1 + 1, 0, none⟩ (.slice (some ⟨w.heap.size + 1, 0, none⟩) (q + m) n)).heap[j]? = C.heap[j]? := fun j hn => heap_setCell_other C _ j _ hn
  have hz : (C.setCell ⟨w.heap.size + 1 + 1, 0, none⟩ (.slice (some ⟨w.heap.size + 1, 0, none⟩) (q + m) n)).heap.size = C.heap.size := by simp [World.setCell]
  exact ⟨(hk _ (by omega)).trans h.loop, (hk _ (by omega)).trans h.dfr, (hk _ (by omega)).trans h.num, (heap_setCell_same C (w.heap.size + 1 + 1) 0 _ 22 _ h.out).trans (by simp), own_same h.own (hk _ (by omega)),
    ⟨h.low.os, h.low.tape, h.low.output, by rw [hz]; exact h.low.size, fun j hj hb => (hk j (by omega)).trans (h.low.block j hj hb)⟩,
    (hk _ (by have := h.big; omega)).trans h.blk, h.big, ⟨by rw [hz]; exact h.kp.size, fun j hj hS => (hk j (fun e => hS (.inr (.inl e)))).trans (h.kp.block j hj hS)⟩⟩
theorem Rb.put_l (h : Rb w b n F rec x B A q C) (o : Obj) : Kp (fun j => j = w.heap.size + 1 ∨ j = w.heap.size + 2 ∨ j = w.heap.size + 4) A (C.putObj (w.heap.size + 4) o) :=
  ⟨by rw [World.putObj_size]; exact h.kp.size, fun j hj hS => (World.putObj_heap_other (fun e => hS (.inr (.inr e)))).trans (h.kp.block j hj hS)⟩
theorem Rb.next (h : Rb w b n F rec x B A q C) (hq : q = 16 * (k + 1)) (hn : q < n) : Fs w b n F rec (k + 1) (C.putObj (w.heap.size + 4) (.loop rec)) := by
  subst hq
  have hl := (Array.getElem?_eq_some_iff.1 h.loop).1
  exact ⟨World.putObj_heap_same hl, (World.putObj_heap_other (by omega)).trans h.dfr, (World.putObj_heap_other (by omega)).trans h.num, (World.putObj_heap_other (by omega)).trans h.out, own_same h.own (World.putObj_heap_other (by omega)), only_put h.low (by omega) _, .inl hn⟩
theorem Rb.last (h : Rb w b n F rec x B A n C) : Fe w b n F rec (C.putObj (w.heap.size + 4) (.loop { rec with state := .done, pending := some (.exit 0) })) := by
  have hl := (Array.getElem?_eq_some_iff.1 h.loop).1
  exact ⟨World.putObj_heap_same hl, (World.putObj_heap_other (by omega)).trans h.dfr, (World.putObj_heap_other (by omega)).trans h.out, own_same h.own (World.putObj_heap_other (by omega)), only_put h.low (by omega) _⟩
end
theorem Fs.rb (h : Fs w b n F rec k A) (hb : b < w.heap.size) (B : Nat → Nat) : ((A.alloc (.cells #[.int .u8 0, .int .u8 0, .int .u8 0, .int .u8 0, .int .u8 0, .int .u8 0, .int .u8 0, .int .u8 0, .int .u8 0, .int .u8 0, .int .u8 0, .int .u8 0, .int .u8 0, .int .u8 0, .int .u8 0, .int .u8 0] 48)).setRow A.heap.size (ba 16 B)).heap[w.heap.size + 4]? = some (.loop rec) ∧
    Rb w b n F rec A.heap.size B A (16 * k) (((A.alloc (.cells #[.int .u8 0, .int .u8 0, .int .u8 0, .int .u8 0, .int .u8 0, .int .u8 0, .int .u8 0, .int .u8 0, .int .u8 0, .int .u8 0, .int .u8 0, .int .u8 0, .int .u8 0, .int .u8 0, .int .u8 0, .int .u8 0] 48)).setRow A.heap.size (ba 16 B)).putObj (w.heap.size + 4) (.loop { rec with state := .busy })) :=
  have hl := (Array.getElem?_eq_some_iff.1 h.loop).1
  ⟨(setRow_other _ A.heap.size _ (ba 16 B) (by omega)).trans ((heap_alloc_old A _ hl).trans h.loop), h.start_ hb (heap_alloc_new A _) (World.size_alloc _ _) (fun j hj => heap_alloc_old A _ hj) rfl rfl rfl _ rfl⟩
theorem Fs.start (w : World) (b n : Nat) (F : Nat → Nat) (_ : b < w.heap.size) : ∀ W3, ((w.alloc (.cells #[.int .i64 n] 3)).alloc (.cells (madeCells #[.int .u8 0] n) 5)).alloc (.cells #[.slice (some ⟨w.heap.size + 1, 0, none⟩) 0 n] 22) = W3 →
    n ≤ 140000 → ∀ rec, Fs w b n F rec 0 ((W3.alloc (.deferred (some []))).alloc (.loop rec)) := by
  rintro W3 rfl hn rec
  have q : ∀ (u : World) (o : Obj) (j : Nat) (x : Obj), u.heap[j]? = some x → (u.alloc o).heap[j]? = some x := fun u o j x h => (heap_alloc_old u o (Array.getElem?_eq_some_iff.1 h).1).trans h
  have e : ∀ (u : World) (o : Obj) (j : Nat), j = u.heap.size → (u.alloc o).heap[j]? = some o := fun u o j h => by subst h; exact heap_alloc_new u o
  refine ⟨?_, ?_, ?_, ?_, ?_, ?_, by omega⟩
  · exact e _ _ _ (by simp)
  · exact q _ _ _ _ (e _ _ _ (by simp))
  · exact q _ _ _ _ (q _ _ _ _ (q _ _ _ _ (q _ _ _ _ (e _ _ _ rfl))))
  · exact q _ _ _ _ (q _ _ _ _ (e _ _ _ (by simp)))
  · have := own_room (w.alloc (.cells #[.int .i64 n] 3)) n (by unfold maxLen; omega)
    rw [World.size_alloc] at this
    obtain ⟨h1, h2⟩ := (((this.alloc (.cells #[.slice (some ⟨w.heap.size + 1, 0, none⟩) 0 n] 22)).alloc (.deferred (some []))).alloc (.loop rec))
    exact ⟨h1, h2.imp id (fun ⟨g, c, cur, a1, a2, a3⟩ => ⟨g, c, cur, a1, by omega, a3⟩)⟩
  · exact Only.of_below ((((((Below.refl _ w).alloc (Nat.le_refl _) _).alloc (by simp) _).alloc (by simp; omega) _).alloc (by simp; omega) _).alloc (by simp; omega) _)
end

set_option maxHeartbeats 3200000 in
theorem first_any (d b c cap R R1 Bc Bb g off cc n : Nat) (Y : Nat → Nat → Nat) (f : Nat → Nat) (w : World)
    (hR1 : R1 = R + 1) (hR : 0 < R) (hl : R ≤ 1000) (hn : n ≤ 140000) (hci : Ci w d b c cap R1 Y) (hcn : Wd w 16 g off f) (hgb : g ≠ b) (hBb : w.heap[Bb]? = some (.cells #[.slice (some ⟨g, off, none⟩) 16 cc] 22 (0, 0)))
    (hBc : w.heap[Bc]? = some (.cells #[.pointer (some ⟨d, 0, none⟩)] 26 (0, 0))) :
    Calls Tryz.prog 48 #[.func (.func 64) #[] #[.pointer (some ⟨Bb, 0, none⟩), .pointer (some ⟨Bc, 0, none⟩)], .int .i64 n] w fun e w' =>
      ∃ g', e = .returned (.slice (some ⟨g', 0, none⟩) n n) ∧ Own .u8 w.heap.size 5 w' (.slice (some ⟨g', 0, none⟩) n n) (ns n (strF Y R f)) ∧ Ci w' d b c cap R1 Y ∧ Only b w w' := by
  have hmk := make_room (w.alloc (.cells #[.int .i64 n] 3)) n (by omega)
  rw [World.size_alloc] at hmk
  refine (callsIn_wide (n := 7)).1 ?_
  refine callsIn_of_wp_marks Tryz.func48 rfl trivial ?_ rfl
  simp only [Tryz.ntmps48, List.size_toArray, List.length_cons, List.length_nil, Nat.reduceAdd, Nat.reduceSub, Array.replicate_succ, Array.replicate_zero, List.push_toArray, List.append_toArray, List.nil_append, List.cons_append]
  gi_wp2
  clear hmk
  obtain ⟨W3, hW3⟩ : ∃ W3, ((w.alloc (.cells #[.int .i64 n] 3)).alloc (.cells (madeCells #[.int .u8 0] n) 5)).alloc (.cells #[.slice (some ⟨w.heap.size + 1, 0, none⟩) 0 n] 22) = W3 := ⟨_, rfl⟩
  have hsz : W3.heap.size = w.heap.size + 3 := by rw [← hW3]; simp
  have HST := hid (Fs.start w b n (strF Y R f) hci.box.lt W3 hW3 hn)
  rw [hW3]
  refine range_wide (w.heap.size + 4) (by rw [hsz]) (gf := 64) (lb := #[.pointer (some ⟨Bb, 0, none⟩), .pointer (some ⟨Bc, 0, none⟩)]) rfl (enters_of Tryz.func64 (by kernel_rfl) rfl) (fun rec r1 r0 r2 r3 r4 r5 => ?_)
  rw [hsz]
  have HLOW : Below w.heap.size w ((W3.alloc (.deferred (some []))).alloc (.loop rec)) := by
    rw [← hW3]; exact ((((((Below.refl _ w).alloc (Nat.le_refl _) _).alloc (by simp) _).alloc (by simp; omega) _).alloc (by simp; omega) _).alloc (by simp; omega) _)
  have HB := hid HLOW
  have hF := HST.out rec
  have hs5 : ((W3.alloc (.deferred (some []))).alloc (.loop rec)).heap.size = w.heap.size + 5 := by rw [World.size_alloc, World.size_alloc, hsz]
  generalize (W3.alloc (.deferred (some []))).alloc (.loop rec) = W5 at *
  clear HST hW3 hsz HLOW
  have hbl := hci.box.lt
  have hout : ∀ j, j < w.heap.size → ¬ (j = w.heap.size + 1 ∨ j = w.heap.size + 2 ∨ j = w.heap.size + 4) := fun j hj => by omega
  refine (iter_any (fun j => j = w.heap.size + 1 ∨ j = w.heap.size + 2 ∨ j = w.heap.size + 4) (Fs w b n (strF Y R f) rec) (Fe w b n (strF Y R f) rec) (w.heap.size + 4) d b c cap R R1 Bc Bb g off cc (n / 16 + 1) Y f W5 hR1 hR hl
    (fun j hj => by omega) (fun k A h => by have := h.lt; omega) (fun k A B h o => h.only hbl o) (fun k A hA => ?_)
    ⟨hci.self HB.out, (HB.out.block _ (Array.getElem?_eq_some_iff.1 hBc).1).trans hBc, hcn.self HB.out, (lat_zero hcn.byte).symm, ⟨hgb, fun e => ?_⟩,
      ⟨hout _ hci.blk.lt, hout _ hbl, hout _ hci.rows.lt, hout _ (Array.getElem?_eq_some_iff.1 hBc).1, hout _ hcn.lt⟩, Nat.le_refl _, hF⟩ ((HB.out.block _ (Array.getElem?_eq_some_iff.1 hBb).1).trans hBb)).mono ?_
  · refine round_wide hA.loop r1 r2 r3 r4 r5 rfl ?_
    have hat : At (A.alloc (.cells #[.int .u8 0, .int .u8 0, .int .u8 0, .int .u8 0, .int .u8 0, .int .u8 0, .int .u8 0, .int .u8 0, .int .u8 0, .int .u8 0, .int .u8 0, .int .u8 0, .int .u8 0, .int .u8 0, .int .u8 0, .int .u8 0] 48)) A.heap.size 16 48 (fun _ => 0) := At.new A 16 48 (fun _ => 0)
    have HAT := hid hat
    have HA := hid hA
    have HRE := hid (And.intro r1 r0)
    clear hA hF hBb hBc hcn hci hout HB hat r0 r1 r2 r3 r4 r5
    simp only [Array.zip, List.zipWith_toArray, List.zipWith_cons_cons, List.zipWith_nil_right, List.foldl_toArray, List.foldl_cons, List.foldl_nil, List.setIfInBounds_toArray, lay_out]
    generalize hbk : blkF Y R (lat f k) = B at *
    refine region0_R (by kernel_rfl) ?_
    go_wp2_with (refine step_store_ba rfl 48 _ _ rfl A.heap.size 16 48 (fun _ => 0) B rfl rfl HAT.out infoa ?_)
    have HS := hid (HA.out.rb hbl B)
    refine ⟨HS.out.1, ?_⟩
    have HR0 := hid HS.out.2
    clear HS HAT
    obtain ⟨C, hC⟩ : ∃ C, ((A.alloc (.cells #[.int .u8 0, .int .u8 0, .int .u8 0, .int .u8 0, .int .u8 0, .int .u8 0, .int .u8 0, .int .u8 0, .int .u8 0, .int .u8 0, .int .u8 0, .int .u8 0, .int .u8 0, .int .u8 0, .int .u8 0, .int .u8 0] 48)).setRow A.heap.size (ba 16 B)).putObj (w.heap.size + 4) (.loop { rec with state := .busy }) = C := ⟨_, rfl⟩
    rw [hC] at HR0 ⊢
    clear hC
    have HLT := hid HA.out.lt
    have HBF : Hid (∀ j, j < 16 → B j = strF Y R f (16 * k + j)) := hid (fun j hj => by rw [← hbk]; unfold strF; rw [show (16 * k + j) / 16 = k by omega, show (16 * k + j) % 16 = j by omega])
    obtain ⟨i5, hi5, hz5⟩ : ∃ i, Tryz.prog.info? 5 = some i ∧ i.size = 1 := by obtain ⟨i0, hi, _, h1, _⟩ := info_parts info8; exact ⟨i0, hi, h1⟩
    obtain ⟨q, hq⟩ : ∃ q, 16 * k = q := ⟨_, rfl⟩
    obtain ⟨m, hm⟩ : ∃ m, min 16 (n - q) = m := ⟨_, rfl⟩
    have HQM : Hid (q + m ≤ n ∧ m ≤ 16 ∧ 16 * k = q ∧ (q + m < n → m = 16)) := hid ⟨by have := HLT.out; omega, by omega, hq, by omega⟩
    rw [hq] at HR0 HLT HBF
    gi_wp2
    have HR := hid HR0.out.drew
    clear HR0
    have c0 : C.drew.cell? ⟨w.heap.size, 0, none⟩ = some (.int .i64 n) := one_box HR.out.num
    refine region_R (S := fun w' => w'.cell? ⟨w.heap.size, 0, none⟩ = some (.int .i64 n)) (by kernel_rfl) (by kernel_rfl) c0 (fun h0 => ?_)
    clear c0
    generalize C.drew = C0 at *
    have HNW : Hid (∀ j u, ((ns m B).map (Value.int .u8))[j]? = some u → C0.cell? ((⟨A.heap.size, 0, none⟩ : Addr).add j) = some u) := hid (by
      intro j u hj
      have hjm : j < m := by have := (List.getElem?_eq_some_iff.1 hj).1; rwa [List.length_map, ns_len] at this
      rw [List.getElem?_map, ns_at B hjm] at hj
      rw [Addr.add_mid, Nat.zero_add, HR.out.blk.cell (j := j) (by have := HQM.out.2.1; omega)]
      simpa using hj)
    have HROW : Hid (C0.ownsRow w.heap.size 5 1 (.slice (some ⟨w.heap.size + 1, 0, none⟩) q n) q ((ns q (strF Y R f)).map (Value.int .u8))) := hid (by have h : C0.ownsRow _ _ _ _ (ns q (strF Y R f)).length _ := HR.out.own; rw [ns_len] at h; exact h)
    have HCAT : Hid (∀ W : World, W.ownsRow w.heap.size 5 1 (.slice (some ⟨w.heap.size + 1, 0, none⟩) (q + m) n) (q + m) ((ns q (strF Y R f)).map (Value.int .u8) ++ (ns m B).map (Value.int .u8)) → Own .u8 w.heap.size 5 W (.slice (some ⟨w.heap.size + 1, 0, none⟩) (q + m) n) (ns (q + m) (strF Y R f))) := hid (by
      intro W h
      rw [← List.map_append, show ns m B = ns m (fun j => strF Y R f (q + j)) from ns_ext fun j hj => HBF.out j (by have := HQM.out.2.1; omega), ns_app] at h
      show W.ownsRow _ _ _ _ (ns (q + m) (strF Y R f)).length _
      rw [ns_len]; exact h)
    have ho : C0.cell? ⟨w.heap.size + 1 + 1, 0, none⟩ = some (.slice (some ⟨w.heap.size + 1, 0, none⟩) q n) := one_box HR.out.out
    have hmin : (if (n : Int) - q < 16 then (n : Int) - q else 16) = (m : Int) := by have := HLT.out; split <;> omega
    have hm0 : (m : Int) ≤ 16 := by omega
    have hm1 : (0 : Int) ≤ m := by omega
    have hw1 : IntKind.i64.wrap ((n : Int) - q) = (n : Int) - q := by rw [IntKind.wrap_i64]; have := HLT.out; omega
    clear hq hm
    refine wpAnyH_take (i := 1) (v := .int .i64 n) rfl (by kernel_rfl) (by kernel_rfl) (by kernel_rfl) (fun _ _ _ h => h) (.inl ⟨by rfl, fun w4 hw => by have hw : w4.cell? ⟨w.heap.size, 0, none⟩ = some (.int .i64 n) := hw; go_simp⟩) h0 ?_
    try simp only [Act.put, lay_out]
    refine wpAnyH_ready (rs := [0, 2]) (by kernel_rfl) (by simp) (AllReadyH.cons rfl (fun K hK => ?_) (AllReadyH.cons rfl (fun K hK => ?_) AllReadyH.nil))
    · rw [if_pos (by rfl)]
      go_simp
      refine hK.out _ _ h0 (fun h0 => ?_)
      clear hK K
      try simp only [Act.put, lay_out]
      refine wpAnyH_ready (rs := [2]) (by kernel_rfl) (by simp) (AllReadyH.cons rfl (fun K hK => ?_) AllReadyH.nil)
      rw [if_pos (by rfl)]
      go_simp
      refine hK.out _ _ h0 (fun h0 => ?_)
      clear hK K
      try simp only [Act.put, lay_out]
      refine wpAnyH_take (i := 3) (v := .int .i64 (q : Int)) rfl (by kernel_rfl) (by kernel_rfl) (by kernel_rfl) (fun _ _ _ h => h) (.inl ⟨by rfl, fun w hw => by clear hw; go_simp⟩) h0 ?_
      try simp only [Act.put, lay_out]
      refine wpAnyH_take (i := 4) (v := .int .i64 ((n : Int) - q)) rfl (by kernel_rfl) (by kernel_rfl) (by kernel_rfl) (fun _ _ _ h => h) (.inl ⟨by rfl, fun w hw => by clear hw; go_simp⟩) h0 ?_
      try simp only [Act.put, lay_out]
      refine wpAnyH_take (i := 5) (v := .int .i64 (m : Int)) rfl (by kernel_rfl) (by kernel_rfl) (by kernel_rfl) (fun _ _ _ h => h) (.inl ⟨by rfl, fun w hw => by clear hw; go_simp⟩) h0 ?_
      try simp only [Act.put, lay_out]
      refine wpAnyH_take (i := 6) (v := .slice (some ⟨A.heap.size, 0, none⟩) m 16) rfl (by kernel_rfl) (by kernel_rfl) (by kernel_rfl) (fun _ _ _ h => h) (.inl ⟨by rfl, fun w hw => by clear hw; go_simp⟩) h0 ?_
      try simp only [Act.put, lay_out]
      refine wpAnyH_ready (rs := [7]) (by kernel_rfl) (by simp) (AllReadyH.cons rfl (fun K hK => ?_) AllReadyH.nil)
      rw [if_pos (by rfl)]
      refine wp_append_own_spare _ (.tmp 11) (.tmp 17) 22 rfl w.heap.size 5 i5 1 Tryz.underlying22 hi5 hz5 (w.heap.size + 1) q n _ rfl HROW.out ⟨A.heap.size, 0, none⟩ m 16 ((ns m B).map (Value.int .u8)) rfl (by simp [ns_len]) HNW.out (by intro u hu; obtain ⟨z, _, rfl⟩ := List.mem_map.1 hu; rfl) HQM.out.1 ?_
      intro C1 ho hg
      have HM := hid (HR.out.grown hg (HCAT.out _ ho))
      have hc2 : C1.cell? ⟨w.heap.size + 1 + 1, 0, none⟩ = some (.slice (some ⟨w.heap.size + 1, 0, none⟩) q n) := one_box HM.out.out
      have hf2 : C1.frozen? ⟨w.heap.size + 1 + 1, 0, none⟩ = false := frozen_of_row _ _ _ _ 22 HM.out.out
      have h1 := one_box HM.out.num
      clear ho hg
      refine hK.out _ _ h1 (fun h1 => ?_)
      clear hK K
      try simp only [Act.put, lay_out]
      refine wpAnyH_ready (rs := [8]) (by kernel_rfl) (by simp) (AllReadyH.cons rfl (fun K hK => ?_) AllReadyH.nil)
      rw [if_pos (by rfl)]
      go_simp
      have HP := hid HM.out.put
      refine hK.out _ _ (one_box HP.out.num) (fun _ => ?_)
      clear hK K
      try simp only [Act.put, lay_out]
      refine wpAnyH_done (by kernel_rfl) ?_ _
      try simp only [Act.put, lay_out]
      simp only [nrm, Exit.then]
      clear hc2 hf2 h1 HM ho HNW HROW HCAT HR hw1 hmin
      clear h0 hi5 hz5 hbk
      generalize C1.setCell ⟨w.heap.size + 1 + 1, 0, none⟩ (.slice (some ⟨w.heap.size + 1, 0, none⟩) (q + m) n) = C2 at *
      have d1 : C2.cell? ⟨w.heap.size + 1 + 1, 0, none⟩ = some (.slice (some ⟨w.heap.size + 1, 0, none⟩) (q + m) n) := one_box HP.out.out
      have d2 := one_box HP.out.num
      by_cases he : q + m = n
      · have he1 : (q : Int) + m = n := by omega
        have HP1 : Hid (Rb w b n (strF Y R f) rec A.heap.size B A n C2) := hid (he ▸ HP.out)
        have HE := hid he
        clear he HP
        gi_wp2
        exact ⟨HP1.out.loop, .inr ⟨rfl, HP1.out.last, HP1.out.put_l _⟩⟩
      · have he1 : ¬ ((q : Int) + m = n) := by omega
        have HRR : Hid (({ rec with state := .ready, pending := none } : Loop) = rec) := hid (by obtain ⟨h1, h2⟩ := HRE.out; cases rec; simp_all)
        have hlt : q + m < n := by have := HQM.out.1; omega
        have HN := hid (HP.out.next (k := k) (by have := HQM.out; omega) hlt)
        have HKP := hid (HP.out.put_l (.loop rec))
        have HL := hid HP.out.loop
        clear he HP hlt
        gi_wp2
        refine ⟨HL.out, .inl ⟨rfl, ?_⟩⟩
        rw [HRR.out]
        exact ⟨HN.out, HKP.out⟩
    · rw [if_pos (by rfl)]
      go_simp
      refine hK.out _ _ h0 (fun h0 => ?_)
      clear hK K
      try simp only [Act.put, lay_out]
      refine wpAnyH_take (i := 3) (v := .int .i64 (q : Int)) rfl (by kernel_rfl) (by kernel_rfl) (by kernel_rfl) (fun _ _ _ h => h) (.inl ⟨by rfl, fun w hw => by clear hw; go_simp⟩) h0 ?_
      try simp only [Act.put, lay_out]
      refine wpAnyH_take (i := 4) (v := .int .i64 ((n : Int) - q)) rfl (by kernel_rfl) (by kernel_rfl) (by kernel_rfl) (fun _ _ _ h => h) (.inl ⟨by rfl, fun w hw => by clear hw; go_simp⟩) h0 ?_
      try simp only [Act.put, lay_out]
      refine wpAnyH_take (i := 5) (v := .int .i64 (m : Int)) rfl (by kernel_rfl) (by kernel_rfl) (by kernel_rfl) (fun _ _ _ h => h) (.inl ⟨by rfl, fun w hw => by clear hw; go_simp⟩) h0 ?_
      try simp only [Act.put, lay_out]
      refine wpAnyH_take (i := 6) (v := .slice (some ⟨A.heap.size, 0, none⟩) m 16) rfl (by kernel_rfl) (by kernel_rfl) (by kernel_rfl) (fun _ _ _ h => h) (.inl ⟨by rfl, fun w hw => by clear hw; go_simp⟩) h0 ?_
      try simp only [Act.put, lay_out]
      refine wpAnyH_ready (rs := [0]) (by kernel_rfl) (by simp) (AllReadyH.cons rfl (fun K hK => ?_) AllReadyH.nil)
      rw [if_pos (by rfl)]
      go_simp
      refine hK.out _ _ h0 (fun h0 => ?_)
      clear hK K
      try simp only [Act.put, lay_out]
      refine wpAnyH_ready (rs := [7]) (by kernel_rfl) (by simp) (AllReadyH.cons rfl (fun K hK => ?_) AllReadyH.nil)
      rw [if_pos (by rfl)]
      refine wp_append_own_spare _ (.tmp 11) (.tmp 17) 22 rfl w.heap.size 5 i5 1 Tryz.underlying22 hi5 hz5 (w.heap.size + 1) q n _ rfl HROW.out ⟨A.heap.size, 0, none⟩ m 16 ((ns m B).map (Value.int .u8)) rfl (by simp [ns_len]) HNW.out (by intro u hu; obtain ⟨z, _, rfl⟩ := List.mem_map.1 hu; rfl) HQM.out.1 ?_
      intro C1 ho hg
      have HM := hid (HR.out.grown hg (HCAT.out _ ho))
      have hc2 : C1.cell? ⟨w.heap.size + 1 + 1, 0, none⟩ = some (.slice (some ⟨w.heap.size + 1, 0, none⟩) q n) := one_box HM.out.out
      have hf2 : C1.frozen? ⟨w.heap.size + 1 + 1, 0, none⟩ = false := frozen_of_row _ _ _ _ 22 HM.out.out
      have h1 := one_box HM.out.num
      clear ho hg
      refine hK.out _ _ h1 (fun h1 => ?_)
      clear hK K
      try simp only [Act.put, lay_out]
      refine wpAnyH_ready (rs := [8]) (by kernel_rfl) (by simp) (AllReadyH.cons rfl (fun K hK => ?_) AllReadyH.nil)
      rw [if_pos (by rfl)]
      go_simp
      have HP := hid HM.out.put
      refine hK.out _ _ (one_box HP.out.num) (fun _ => ?_)
      clear hK K
      try simp only [Act.put, lay_out]
      refine wpAnyH_done (by kernel_rfl) ?_ _
      try simp only [Act.put, lay_out]
      simp only [nrm, Exit.then]
      clear hc2 hf2 h1 HM ho HNW HROW HCAT HR hw1 hmin
      clear h0 hi5 hz5 hbk
      generalize C1.setCell ⟨w.heap.size + 1 + 1, 0, none⟩ (.slice (some ⟨w.heap.size + 1, 0, none⟩) (q + m) n) = C2 at *
      have d1 : C2.cell? ⟨w.heap.size + 1 + 1, 0, none⟩ = some (.slice (some ⟨w.heap.size + 1, 0, none⟩) (q + m) n) := one_box HP.out.out
      have d2 := one_box HP.out.num
      by_cases he : q + m = n
      · have he1 : (q : Int) + m = n := by omega
        have HP1 : Hid (Rb w b n (strF Y R f) rec A.heap.size B A n C2) := hid (he ▸ HP.out)
        have HE := hid he
        clear he HP
        gi_wp2
        exact ⟨HP1.out.loop, .inr ⟨rfl, HP1.out.last, HP1.out.put_l _⟩⟩
      · have he1 : ¬ ((q : Int) + m = n) := by omega
        have HRR : Hid (({ rec with state := .ready, pending := none } : Loop) = rec) := hid (by obtain ⟨h1, h2⟩ := HRE.out; cases rec; simp_all)
        have hlt : q + m < n := by have := HQM.out.1; omega
        have HN := hid (HP.out.next (k := k) (by have := HQM.out; omega) hlt)
        have HKP := hid (HP.out.put_l (.loop rec))
        have HL := hid HP.out.loop
        clear he HP hlt
        gi_wp2
        refine ⟨HL.out, .inl ⟨rfl, ?_⟩⟩
        rw [HRR.out]
        exact ⟨HN.out, HKP.out⟩
  · subst e
    obtain ⟨s, p, h | h⟩ := hci.box
    · exact absurd (h.symm.trans hBc) (by simp)
    · exact absurd (h.symm.trans hBc) (by simp)
  · rintro e w' ⟨⟨v, rfl⟩, hfe, hci'⟩
    refine ⟨v, _, rfl, hfe.loop, by simp, ?_⟩
    have HE : Hid (Own .u8 w.heap.size 5 (w'.putObj (w.heap.size + 4) (.loop { rec with state := .exhausted, pending := some (.exit 0) })) (.slice (some ⟨w.heap.size + 1, 0, none⟩) n n) (ns n (strF Y R f))) := hid (own_same hfe.own (World.putObj_heap_other (by omega)))
    have HC := hid (ci_put hci' (Nat.ne_of_lt (Nat.lt_of_lt_of_le hci.blk.lt (by omega))) (Nat.ne_of_lt (Nat.lt_of_lt_of_le hbl (by omega))) (Nat.ne_of_lt (Nat.lt_of_lt_of_le hci.rows.lt (by omega))) (.loop { rec with state := .exhausted, pending := some (.exit 0) }) (l := w.heap.size + 4))
    have HO := hid (only_put hfe.low (show w.heap.size ≤ w.heap.size + 4 by omega) (.loop { rec with state := .exhausted, pending := some (.exit 0) }))
    have HL : Hid (d < w.heap.size ∧ b < w.heap.size ∧ c < w.heap.size) := hid ⟨hci.blk.lt, hbl, hci.rows.lt⟩
    have c1 := one_box ((World.putObj_heap_other (w := w') (o := .loop { rec with state := .exhausted, pending := some (.exit 0) }) (show w.heap.size + 2 ≠ w.heap.size + 4 by omega)).trans hfe.out)
    have hK := (World.putObj_heap_other (w := w') (o := .loop { rec with state := .exhausted, pending := some (.exit 0) }) (show w.heap.size + 3 ≠ w.heap.size + 4 by omega)).trans hfe.dfr
    have c2 : (w'.putObj (w.heap.size + 4) (.loop { rec with state := .exhausted, pending := some (.exit 0) })).cell? ⟨w.heap.size + 1 + 1, 0, none⟩ = some (.slice (some ⟨w.heap.size + 1, 0, none⟩) n n) := c1
    clear hfe hci' hF hBb hBc hcn hci c1 hout hbl
    dsimp only
    have hr := r1; clear hr
    obtain ⟨w6, hw6⟩ : ∃ w6, w'.putObj (w.heap.size + 4) (.loop { rec with state := .exhausted, pending := some (.exit 0) }) = w6 := ⟨_, rfl⟩
    rw [hw6] at HE HC HO c2 hK ⊢
    clear hw6 r1 r2 r3 r4 r5 HB hs5
    gi_wp2
    refine ⟨by simp, .inl ⟨_, _, rfl, run_takeDeferred hK, ?_⟩⟩
    exact ⟨_, results_tmp rfl _ _ _, _, rfl, own_same HE.out (World.putObj_heap_other (by omega)),
      ci_put HC.out (Nat.ne_of_lt (Nat.lt_of_lt_of_le HL.out.1 (by omega))) (Nat.ne_of_lt (Nat.lt_of_lt_of_le HL.out.2.1 (by omega))) (Nat.ne_of_lt (Nat.lt_of_lt_of_le HL.out.2.2 (by omega))) _, only_put HO.out (by omega) _⟩
end Go.Proofs.YthhkhcacljgelaaGreat

/- Stream. -/
namespace Go.Proofs.YthhkhcacljgelaaGreat
open Go.RowKit
set_option maxRecDepth 100000
/-- What is given: a cipher that may be, at work; and a begin. -/
structure Gv (w : World) (d b c cap R R1 g off cc : Nat) (Y : Nat → Nat → Nat) (f : Nat → Nat) : Prop where
  num : R1 = R + 1 ∧ 0 < R ∧ R ≤ 1000
  ci : Ci w d b c cap R1 Y
  cnt : Wd w 16 g off f
  ne : g ≠ b
section
variable {w w' : World} {d b c cap R R1 g off cc : Nat} {Y : Nat → Nat → Nat} {f : Nat → Nat}
theorem Gv.yb (h : Gv w d b c cap R R1 g off cc Y f) : YB Y R := fun r hr => h.ci.rows.byte r (by have := h.num; omega)
theorem Gv.self (h : Gv w d b c cap R R1 g off cc Y f) (hb : Below w.heap.size w w') : Gv w' d b c cap R R1 g off cc Y f := ⟨h.num, h.ci.self hb, h.cnt.self hb, h.ne⟩
theorem Gv.asked (h : Gv w d b c cap R R1 g off cc Y f) (hc : Ci w' d b c cap R1 Y) (o : Only b w w') : Gv w' d b c cap R R1 g off cc Y f := ⟨h.num, hc, h.cnt.only o h.ne, h.ne⟩
theorem Gv.strb (h : Gv w d b c cap R R1 g off cc Y f) (j : Nat) : strF Y R f j < 256 := strF_b h.yb f j
end
/-- .. and the loop over what blocks tells. -/
theorem told_any (d b c cap R R1 g off cc n : Nat) (Y : Nat → Nat → Nat) (f : Nat → Nat) (w : World) (hn : n ≤ 140000) (h : Gv w d b c cap R R1 g off cc Y f) :
    Calls Tryz.prog 48 #[.func (.func 64) #[] #[.pointer (some ⟨w.heap.size + 1, 0, none⟩), .pointer (some ⟨w.heap.size, 0, none⟩)], .int .i64 n] ((w.alloc (.cells #[.pointer (some ⟨d, 0, none⟩)] 26)).alloc (.cells #[.slice (some ⟨g, off, none⟩) 16 cc] 22)) fun e w' =>
      ∃ g', e = .returned (.slice (some ⟨g', 0, none⟩) n n) ∧ w.heap.size ≤ g' ∧ Wd w' n g' 0 (strF Y R f) ∧ Ci w' d b c cap R1 Y ∧ Only b w w' := by
  have hlow : Below w.heap.size w ((w.alloc (.cells #[.pointer (some ⟨d, 0, none⟩)] 26)).alloc (.cells #[.slice (some ⟨g, off, none⟩) 16 cc] 22)) := ((Below.refl _ _).alloc (Nat.le_refl _) _).alloc (by simp) _
  have h2 := h.self hlow
  refine (first_any d b c cap R R1 w.heap.size (w.heap.size + 1) g off cc n Y f _ h.num.1 h.num.2.1 h.num.2.2 hn h2.ci h2.cnt h.ne ?_ ?_).mono ?_
  · have := heap_alloc_new (w.alloc (.cells #[.pointer (some ⟨d, 0, none⟩)] 26)) (.cells #[.slice (some ⟨g, off, none⟩) 16 cc] 22)
    rwa [World.size_alloc] at this
  · exact (heap_alloc_old _ _ (by simp)).trans (heap_alloc_new w _)
  · rintro e w' ⟨g', rfl, hown, hci, ho⟩
    obtain ⟨hw, hg⟩ := wd_own hown (fun j _ => h.strb j)
    exact ⟨g', rfl, by have := hlow.size; omega, hw, hci, (Only.of_below hlow).trans ho⟩

end Go.Proofs.YthhkhcacljgelaaGreat

/- Part, Cover. -/
namespace Go.Proofs.YthhkhcacljgelaaGreat
open Go.RowKit
set_option maxRecDepth 100000
/-- The number of a part, or of data, that may not be. -/
def outp (k : Int) (M : Nat) : Bool := decide (k < 0) || decide (M > 65536)
theorem part_bad (v : Value) (a a' : Option Addr) (L cc M cm : Nat) (k : Int) (w : World) (h : ckr L (outp k M) ≠ 0) :
    Calls Tryz.prog 32 #[v, .slice a L cc, .slice a' M cm, .int .i64 k] w fun e w' => e = none2 (ckr L (outp k M)) ∧ w' = w := by
  have HR := hid (refused_any a L cc (outp k M) w)
  have h3 : (ckr L (outp k M) != 0) = true := by rw [bne_iff_ne]; exact h
  generalize ckr L (outp k M) = x at *
  clear h
  by_cases h0 : k < 0
  · have ho : outp k M = true := by simp [outp, h0]
    rw [ho] at HR
    go_enter Tryz.func32, Tryz.ntmps32
    go_wp2_with (go_at_call 46; refine HR.out.mono ?_; rintro e w1 ⟨rfl, rfl⟩)
    go_ret2
    exact ⟨rfl, rfl⟩
  · by_cases h1 : M > 65536
    · have ho : outp k M = true := by simp [outp, h1]
      have h1' : (M : Int) > 65536 := by omega
      rw [ho] at HR
      clear h1
      go_enter Tryz.func32, Tryz.ntmps32
      go_wp2_with (go_at_call 46; refine HR.out.mono ?_; rintro e w1 ⟨rfl, rfl⟩)
      go_ret2
      exact ⟨rfl, rfl⟩
    · have ho : outp k M = false := by simp [outp, h0, h1]
      have h1' : ¬ (M : Int) > 65536 := by omega
      rw [ho] at HR
      clear h1
      go_enter Tryz.func32, Tryz.ntmps32
      go_wp2_with (go_at_call 46; refine HR.out.mono ?_; rintro e w1 ⟨rfl, rfl⟩)
      go_ret2
      exact ⟨rfl, rfl⟩

theorem part_any (v : Value) (d b c cap R R1 g off cc M k : Nat) (Y : Nat → Nat → Nat) (f δ : Nat → Nat) (w : World) (hM : M ≤ 65536) (hk : k < 9223372036854775808) (hv : Rd .u8 w v (ns M δ)) (hvb : ∀ w', Only b w w' → Rd .u8 w' v (ns M δ)) (hδ : ∀ j, j < M → δ j < 256)
    (h : Gv w d b c cap R R1 g off cc Y f) :
    Calls Tryz.prog 32 #[.pointer (some ⟨d, 0, none⟩), .slice (some ⟨g, off, none⟩) 16 cc, v, .int .i64 k] w fun e w' =>
      ∃ u, e = .returned (.tuple #[u, .int .i64 0]) ∧ Own .u8 w.heap.size 5 w' u (ns M (xorF δ (fun j => strF Y R f (k + j)))) ∧ Ci w' d b c cap R1 Y ∧ Only b w w' := by
  obtain ⟨av, cv, rfl, _, _, _⟩ := id hv
  rw [ns_len] at *
  have HR := hid (refused_any (some ⟨g, off, none⟩) 16 cc false w)
  have e1 : (k : Int) / 16 = ((k / 16 : Nat) : Int) := rfl
  have e2 : (k : Int) % 16 = ((k % 16 : Nat) : Int) := rfl
  have HKE : Hid (∀ j, strF Y R (lat f (k / 16)) (k % 16 + j) = strF Y R f (k + j)) := hid (fun j => by rw [strF_later]; congr 1; omega)
  have hq16 : k % 16 < 16 := Nat.mod_lt _ (by decide)
  have hp63 : k / 16 < 9223372036854775808 := by omega
  generalize k / 16 = p at *
  generalize k % 16 = q at *
  have HL := hid (later_any g off cc f p w hp63 h.cnt)
  have HH := hid h
  have hs : Hid (∀ w1, Own .u8 w.heap.size 5 w1 (.slice (some ⟨w.heap.size, 0, none⟩) 16 16) (ns 16 (lat f p)) → Below w.heap.size w w1 →
      Calls Tryz.prog 49 #[.pointer (some ⟨d, 0, none⟩), .slice (some ⟨w.heap.size, 0, none⟩) 16 16] w1 (fun e w' => e = .returned (.func (.func 64) #[] #[.pointer (some ⟨w1.heap.size + 1, 0, none⟩), .pointer (some ⟨w1.heap.size, 0, none⟩)]) ∧ w' = (w1.alloc (.cells #[.pointer (some ⟨d, 0, none⟩)] 26)).alloc (.cells #[.slice (some ⟨w.heap.size, 0, none⟩) 16 16] 22)) ∧
      Calls Tryz.prog 48 #[.func (.func 64) #[] #[.pointer (some ⟨w1.heap.size + 1, 0, none⟩), .pointer (some ⟨w1.heap.size, 0, none⟩)], .int .i64 ((q : Int) + M)] ((w1.alloc (.cells #[.pointer (some ⟨d, 0, none⟩)] 26)).alloc (.cells #[.slice (some ⟨w.heap.size, 0, none⟩) 16 16] 22)) (fun e w' =>
        ∃ g', e = .returned (.slice (some ⟨g', 0, none⟩) (q + M) (q + M)) ∧ Wd w' (q + M) g' 0 (strF Y R (lat f p)) ∧ Ci w' d b c cap R1 Y ∧ Only b w w')) := hid (fun w1 ho hl => by
    obtain ⟨hw, _⟩ := wd_own ho (lat_b f p)
    have h1 : Gv w1 d b c cap R R1 w.heap.size 0 16 Y (lat f p) := ⟨h.num, h.ci.self hl, hw, by have := h.ci.box.lt; omega⟩
    have h2 := told_any d b c cap R R1 w.heap.size 0 16 (q + M) Y (lat f p) w1 (by omega) h1
    rw [Int.natCast_add] at h2
    refine ⟨blocks_any d w.heap.size 0 16 16 w1, h2.mono ?_⟩
    rintro e w' ⟨g', rfl, _, hw, hci, ho⟩
    exact ⟨g', rfl, hw, hci, (Only.of_below hl).trans ho⟩)
  have HX : Hid (∀ w1 g', Wd w1 (q + M) g' 0 (strF Y R (lat f p)) → Only b w w1 → Calls Tryz.prog 50 #[.slice av M cv, .slice (some ⟨g', q, none⟩) M M] w1 (fun e w' => ∃ u, e = .returned u ∧ Own .u8 w1.heap.size 5 w' u (ns M (xorF δ (fun j => strF Y R f (k + j)))) ∧ Below w1.heap.size w1 w') ∧
      (M = 0 → Calls Tryz.prog 50 #[.slice av 0 cv, .slice (some ⟨g', 0, none⟩) 0 0] w1 (fun e w' => ∃ u, e = .returned u ∧ Own .u8 w1.heap.size 5 w' u (ns M (xorF δ (fun j => strF Y R f (k + j)))) ∧ Below w1.heap.size w1 w'))) := hid (fun w1 g' hw ho => by
    refine ⟨?_, fun h0 => by subst h0; exact xor_ns _ _ 0 δ _ w1 (hvb w1 ho) (rd_zero _ _ _ _) hδ (fun j hj => absurd hj (by omega))⟩
    have hp := (hw.part (k := q) (m := M) (Nat.le_refl _)).rd M hM
    rw [Nat.zero_add, show ns M (fun j => strF Y R (lat f p) (q + j)) = ns M (fun j => strF Y R f (k + j)) from ns_ext fun j _ => HKE.out j] at hp
    exact xor_ns _ _ M δ _ w1 (hvb w1 ho) hp hδ (fun j _ => h.strb _))
  have h0 : ¬ (k : Int) < 0 := by omega
  have h1 : ¬ (M : Int) > 65536 := by omega
  have hck : ckr 16 false = 0 := rfl
  have hq0 : (q : Int) < 16 := by omega
  have hq1 : (0 : Int) ≤ q := by omega
  have hw : wrap64 ((q : Int) + M) = (q : Int) + M := w64 (by omega) (by omega)
  have hwp : wrap64 (p : Int) = p := w64 (by omega) (by omega)
  have hwq : wrap64 (q : Int) = q := w64 (by omega) (by omega)
  rw [hck] at HR
  clear h hv hck hvb hδ hM hk hq16 hp63
  go_enter Tryz.func32, Tryz.ntmps32
  go_wp2_with (first
    | (go_at_call 46; (with_reducible refine HR.out.mono ?_); rintro e w1 ⟨rfl, rfl⟩)
    | (go_at_call 47; (with_reducible refine HL.out.mono ?_); rintro e w1 ⟨rfl, hown, hlow⟩; have HS := hid (hs.out w1 hown hlow); clear hown hlow)
    | (go_at_call 49; (with_reducible refine HS.out.1.mono ?_); rintro e w2 ⟨rfl, rfl⟩)
    | (go_at_call 48; (with_reducible refine HS.out.2.mono ?_); rintro e w3 ⟨g', rfl, hwd, hci, ho⟩; have HC := hid (And.intro hci ho); have HXX := hid (HX.out w3 g' hwd ho); clear hwd hci ho)
    | (go_at_call 50; (first | (with_reducible refine HXX.out.1.mono ?_) | (with_reducible refine (HXX.out.2 (by assumption)).mono ?_)); rintro e w4 ⟨u, rfl, hown, hlow⟩; have HE := hid (And.intro hown hlow); clear hown hlow))
  all_goals go_ret2
  all_goals exact ⟨u, rfl, own_base HE.out.1 HC.out.2.size, HC.out.1.self HE.out.2, HC.out.2.trans (Only.of_below HE.out.2)⟩

theorem cover_bad (v : Value) (a a' : Option Addr) (L cc M cm : Nat) (w : World) (h : ckr L (outp 0 M) ≠ 0) :
    Calls Tryz.prog 18 #[v, .slice a L cc, .slice a' M cm] w fun e w' => e = none2 (ckr L (outp 0 M)) ∧ w' = w := by
  have HP := hid (part_bad v a a' L cc M cm 0 w h)
  generalize ckr L (outp 0 M) = x at *
  clear h
  unfold none2 at *
  go_enter Tryz.func18, Tryz.ntmps18
  go_wp2_with (go_at_call 32; (with_reducible refine HP.out.mono ?_); rintro e w1 ⟨rfl, rfl⟩)
  go_ret2
  exact ⟨rfl, rfl⟩
theorem cover_any (v : Value) (d b c cap R R1 g off cc M : Nat) (Y : Nat → Nat → Nat) (f δ : Nat → Nat) (w : World) (hM : M ≤ 65536) (hv : Rd .u8 w v (ns M δ)) (hvb : ∀ w', Only b w w' → Rd .u8 w' v (ns M δ)) (hδ : ∀ j, j < M → δ j < 256)
    (h : Gv w d b c cap R R1 g off cc Y f) :
    Calls Tryz.prog 18 #[.pointer (some ⟨d, 0, none⟩), .slice (some ⟨g, off, none⟩) 16 cc, v] w fun e w' =>
      ∃ u, e = .returned (.tuple #[u, .int .i64 0]) ∧ Own .u8 w.heap.size 5 w' u (ns M (xorF δ (strF Y R f))) ∧ Ci w' d b c cap R1 Y ∧ Only b w w' := by
  have hp := part_any v d b c cap R R1 g off cc M 0 Y f δ w hM (by decide) hv hvb hδ h
  rw [show (fun j => strF Y R f (0 + j)) = strF Y R f from funext fun j => by rw [Nat.zero_add]] at hp
  have HP : Hid (Calls Tryz.prog 32 #[.pointer (some ⟨d, 0, none⟩), .slice (some ⟨g, off, none⟩) 16 cc, v, .int .i64 0] w fun e w' =>
      ∃ u, e = .returned (.tuple #[u, .int .i64 0]) ∧ Own .u8 w.heap.size 5 w' u (ns M (xorF δ (strF Y R f))) ∧ Ci w' d b c cap R1 Y ∧ Only b w w') := hid hp
  obtain ⟨av, cv, rfl, _, _, _⟩ := hv
  clear hp hvb hδ h
  go_enter Tryz.func18, Tryz.ntmps18
  go_wp2_with (go_at_call 32; (with_reducible refine HP.out.mono ?_); rintro e w1 ⟨u, rfl, hX⟩; have HX := hid hX; clear hX)
  go_ret2
  exact ⟨u, rfl, HX.out⟩
end Go.Proofs.YthhkhcacljgelaaGreat

/- The document's Stream. -/
namespace Go.Proofs.YthhkhcacljgelaaGreat
open Go.RowKit
set_option maxRecDepth 100000
/-- The document's stream, k blocks of which are there. -/
structure Ds (w : World) (n : Nat) (F f : Nat → Nat) (k gl cl gb : Nat) (fb : Nat → Nat) (wr : World) : Prop where
  own : Own .u8 w.heap.size 5 wr (.slice (some ⟨gl, 0, none⟩) (16 * k) cl) (ns (16 * k) F)
  cnt : Wd wr 16 gb 0 fb
  eq : Eq16 fb (lat f k)
  ne : gb ≠ gl
  low : Below w.heap.size w wr
  lt : k = 0 ∨ 16 * k < n + 16

/-- What 'append' of a block makes of a row that is the call's own. -/
theorem wpList_append16 {P : Program} {w : World} {ops : Array Oper} {rest : List Oper} {o : Oper} {a : Act} {Q : Exit → Act → World → Prop} (hgd : o.guard = none) (s x : Operand)
    (ho : o.op = .call { callee := .builtin .append, args := #[s, x], argTypes := #[22, 22] }) (ht : P.underlying 22 = some (.slice 5)) (hinfo : (P.info? 5).map (fun i => (i.zero, i.size, i.bytes)) = some (some (.int .u8 0), 1, 1))
    (B g n c b xc : Nat) (F f : Nat → Nat) (hs : a.eval s = .slice (some ⟨g, 0, none⟩) n c) (hown : Own .u8 B 5 w (.slice (some ⟨g, 0, none⟩) n c) (ns n F)) (hx : a.eval x = .slice (some ⟨b, 0, none⟩) 16 xc) (hA : At w b 16 48 f) (hn : n ≤ 200000) (hB : B ≤ w.heap.size) (hf : ∀ j, j < 16 → f j = F (n + j))
    (h : ∀ g' c' w', Own .u8 B 5 w' (.slice (some ⟨g', 0, none⟩) (n + 16) c') (ns (n + 16) F) → w.grownBy w' (some g) → (g' = g ∨ g' = w.heap.size) → wpList P ops Q rest (a.put o.dst (.slice (some ⟨g', 0, none⟩) (n + 16) c')) w') : wpList P ops Q (o :: rest) a w := by
  obtain ⟨i, hi, hz0, hz1, hz2⟩ := info_parts hinfo
  have hr : w.ownsRow B 5 1 (.slice (some ⟨g, 0, none⟩) n c) n ((ns n F).map (Value.int .u8)) := by
    have h : w.ownsRow _ _ _ _ (ns n F).length _ := hown
    rwa [ns_len] at h
  refine wpList_plain hgd fun _ hK => wp_append_stays w s x 22 ho B 5 i (.int .u8 0) 1 1 ht hi hz0 hz1 hz2 rfl (by decide) g n c _ hs hr ⟨b, 0, none⟩ 16 xc ((ns 16 f).map (Value.int .u8)) hx (by simp [ns_len]) (fun j v hj => ?_) (fun v hv => by obtain ⟨z, _, rfl⟩ := List.mem_map.1 hv; rfl) (by decide) (by unfold maxLen; omega) (by omega) hB
    (fun g' c' w' h1 h2 h3 h4 h5 => hK _ _ (h g' c' w' ?_ h2 h3))
  · have hj16 : j < 16 := by have := (List.getElem?_eq_some_iff.1 hj).1; rwa [List.length_map, ns_len] at this
    rw [List.getElem?_map, ns_at f hj16] at hj
    rw [Addr.add_mid, Nat.zero_add, hA.cell hj16]
    simpa using hj
  · rw [← List.map_append, show ns 16 f = ns 16 (fun j => F (n + j)) from ns_ext fun j hj => hf j hj, ns_app] at h1
    show w'.ownsRow _ _ _ _ (ns (n + 16) F).length _
    rw [ns_len]; exact h1
section
variable {w wr w1 : World} {n k gl cl gb : Nat} {F f fb : Nat → Nat}
theorem Ds.self (h : Ds w n F f k gl cl gb fb wr) (hb : Below wr.heap.size wr w1) : Ds w n F f k gl cl gb fb w1 :=
  ⟨own_same h.own (hb.block _ (h.own.lt gl rfl).2), h.cnt.self hb, h.eq, h.ne, h.low.trans (hb.mono h.low.size), h.lt⟩
theorem Ds.next (h : Ds w n F f k gl cl gb fb wr) (hk : 16 * k < n) {g' c' : Nat} (ho : Own .u8 w.heap.size 5 w1 (.slice (some ⟨g', 0, none⟩) (16 * k + 16) c') (ns (16 * k + 16) F)) (hg : wr.grownBy w1 (some gl)) (_ : g' = gl ∨ g' = wr.heap.size)
    {w2 : World} {gc : Nat} (hw : Wd w2 16 gc 0 (lat fb 1)) (hgc : w1.heap.size ≤ gc) (hl : Below w1.heap.size w1 w2) : Ds w n F f (k + 1) g' c' gc (lat fb 1) w2 := by
  have hl1 := ho.lt g' rfl
  have hl0 := h.own.lt gl rfl
  refine ⟨own_same (by rw [show 16 * (k + 1) = 16 * k + 16 by omega]; exact ho) (hl.block _ hl1.2), hw, (lat_e h.eq 1).trans (lat_succ f k), by omega, ?_, .inr (by omega)⟩
  exact (h.low.grown hg h.low.size (fun j e => by injection e with e; subst e; exact hl0.1)).trans (hl.mono (Nat.le_trans h.low.size hg.size))
theorem Ds.cap (h : Ds w n F f k gl cl gb fb wr) : 16 * k ≤ cl := by
  obtain ⟨h1, h2⟩ := h.own
  rcases h2 with ⟨h0, _⟩ | ⟨g', cap, cur, hv, hb, hc, hn, _⟩
  · cases h0
  · injection hv with _ _ e3
    rw [ns_len] at hn
    omega
theorem Ds.done (h : Ds w n F f k gl cl gb fb wr) (hk : ¬ 16 * k < n) (hF : ∀ j, F j < 256) : w.heap.size ≤ gl ∧ Wd wr n gl 0 F := by
  obtain ⟨hw, hb⟩ := wd_own h.own (fun j _ => hF j)
  have := hw.part (k := 0) (m := n) (by omega)
  rw [Nat.add_zero] at this
  exact ⟨hb, this.ext fun j _ => by rw [Nat.zero_add]⟩
end
/-- The document's counter and one, a new one. -/
theorem refinc_ns (g off c : Nat) (f : Nat → Nat) (w : World) (h : Wd w 16 g off f) :
    Calls Tryz.prog 36 #[.slice (some ⟨g, off, none⟩) 16 c] w fun e w' => ∃ g' c', e = .returned (.slice (some ⟨g', 0, none⟩) 16 c') ∧ Wd w' 16 g' 0 (lat f 1) ∧ w.heap.size ≤ g' ∧ Below w.heap.size w w' := by
  refine (refinc_any _ _ w (h.rd c (by decide))).mono ?_
  rintro e w' ⟨u, rfl, hown, hlow⟩
  rw [ns_len, inc_lat h.byte] at hown
  obtain ⟨g', c', rfl, hg, _⟩ := hown.part (by rw [ns_len]; decide)
  rw [ns_len] at hown ⊢
  exact ⟨g', c', rfl, Wd.of_own hown (by decide) (lat_b f 1), hg, hlow⟩
theorem Ds.start (w : World) (n : Nat) (F f : Nat → Nat) (hf : B16 f) (u : Value) (w1 : World) (h : Own .u8 (w.heap.size + 1) 5 w1 u (ns 16 f)) (hl : Below (w.heap.size + 1) (w.alloc (.cells #[] 5)) w1) :
    ∃ gb cb, u = .slice (some ⟨gb, 0, none⟩) 16 cb ∧ Ds w n F f 0 w.heap.size 0 gb f w1 := by
  obtain ⟨gb, cb, rfl, hb, _⟩ := h.part (by rw [ns_len]; decide)
  rw [ns_len] at h ⊢
  have he := own_empty (k := .u8) (B := w.heap.size) (E := 5) w (Nat.le_refl _)
  refine ⟨gb, cb, rfl, own_same he (hl.block _ (by omega)), Wd.of_own h (by decide) hf, (lat_zero hf).symm, by omega, ((Below.refl _ w).alloc (Nat.le_refl _) _).trans (hl.mono (by omega)), .inl rfl⟩

set_option maxHeartbeats 3200000 in
theorem refstream_any (kv v : Value) (R R1 n : Nat) (Y : Nat → Nat → Nat) (f : Nat → Nat) (w : World) (hR1 : R1 = R + 1) (hR : 0 < R) (hl : R ≤ 1000) (hn : n ≤ 140000) (hf : B16 f) (hY : YB Y R) (hv : Rd .u8 w v (ns 16 f)) (hX : ∀ w', Below w.heap.size w w' → ExpD kv R1 Y w') :
    Calls Tryz.prog 24 #[kv, v, .int .i64 n] w fun e w' => ∃ g c, e = .returned (.slice (some ⟨g, 0, none⟩) n c) ∧ w.heap.size ≤ g ∧ n ≤ c ∧ Wd w' n g 0 (strF Y R f) ∧ Below w.heap.size w w' := by
  have HR := hid (And.intro hR1 (And.intro hR hl))
  have HF := hid hf; have HY := hid hY; have HX := hid hX
  have HN := hid hn
  have HZ := hid (hv.self (w' := (w.alloc (.cells #[] 5)).alloc (.cells #[] 5)) (((Below.refl _ w).alloc (Nat.le_refl _) _).alloc (by simp) _))
  obtain ⟨av, cv, rfl, -, -, -⟩ := hv
  rw [ns_len] at *
  have HLI := hid (show (0 + (ns 16 f).length) * (IntKind.u8.bits / 8) ≤ 140737488355328 by rw [ns_len]; decide)
  have HE := hid (own_empty (k := .u8) (B := w.heap.size + 1) (E := 5) (w.alloc (.cells #[] 5)) (by simp))
  rw [World.size_alloc] at HE
  clear hR1 hR hl hf hY hX
  go_enter Tryz.func24, Tryz.ntmps24
  go_wp2_with (refine wpList_append_rd rfl (.tmp 11) (.tmp 12) 22 rfl .u8 (w.heap.size + 1) 5 Tryz.underlying22 info8 (by decide) _ [] rfl HE.out _ (ns 16 f) rfl HZ.out HLI.out (by simp) (w.heap.size + 1) (w.alloc (.cells #[] 5)) ((Below.refl _ _).alloc (by simp) _) (Nat.le_refl _) ?_; intro u w1 hown hlow _; rw [List.nil_append] at hown; have HD := hid (Ds.start w n (strF Y R f) f HF.out u w1 hown hlow); clear hown hlow)
  obtain ⟨gb, cb, rfl, hds⟩ := HD.out
  have HS := hid hds
  clear hds HD HE HZ HLI
  go_loopw [7, 8] (fun x y wr => ∃ (k gl cl gb cb : Nat) (fb : Nat → Nat), x = .slice (some ⟨gl, 0, none⟩) (16 * k) cl ∧ y = .slice (some ⟨gb, 0, none⟩) 16 cb ∧ Ds w n (strF Y R f) f k gl cl gb fb wr) (fun x _ _ => match x with | .slice _ L _ => n - L | _ => 0)
  case atStart => exact ⟨0, w.heap.size, 0, gb, cb, f, rfl, rfl, HS.out⟩
  case round =>
    obtain ⟨k, gl, cl, gb, cb, fb, rfl, rfl, hds⟩ := hrel
    have HD := hid hds
    clear hds HS
    by_cases hk : 16 * k < n
    · have hk1 : ((16 * k : Nat) : Int) < (n : Int) := by omega
      have hA : At (wr.alloc (.cells #[.int .u8 0, .int .u8 0, .int .u8 0, .int .u8 0, .int .u8 0, .int .u8 0, .int .u8 0, .int .u8 0, .int .u8 0, .int .u8 0, .int .u8 0, .int .u8 0, .int .u8 0, .int .u8 0, .int .u8 0, .int .u8 0] 48)) wr.heap.size 16 48 (fun _ => 0) := At.new wr 16 48 (fun _ => 0)
      have HA := hid hA
      have HLO : Hid (Below wr.heap.size wr (wr.alloc (.cells #[.int .u8 0, .int .u8 0, .int .u8 0, .int .u8 0, .int .u8 0, .int .u8 0, .int .u8 0, .int .u8 0, .int .u8 0, .int .u8 0, .int .u8 0, .int .u8 0, .int .u8 0, .int .u8 0, .int .u8 0, .int .u8 0] 48))) := hid ((Below.refl _ _).alloc (Nat.le_refl _) _)
      clear hA
      have HB : Hid (∀ W, Below w.heap.size w W → Calls Tryz.prog 35 #[kv, .agg (ba 16 fb)] W fun e w' => e = .returned (.agg (ba 16 (blkF Y R fb))) ∧ Below W.heap.size W w') := hid (fun W hW => refblock_any kv R R1 Y fb W HR.out.1 HR.out.2.1 HR.out.2.2 (fun j hj => HD.out.cnt.byte j hj) HY.out (fun w' hb => HX.out w' (hW.trans (hb.mono hW.size))))
      have HBE : Hid (∀ j, j < 16 → blkF Y R fb j = strF Y R f (16 * k + j)) := hid (fun j hj => by
        unfold strF; rw [show (16 * k + j) / 16 = k by omega, show (16 * k + j) % 16 = j by omega]; exact blk_e HD.out.eq j hj)
      have HK := hid hk
      go_wp2_with (first
        | (refine wpList_copy16 rfl (.tmp 19) (.tmp 20) rfl Tryz.underlying22 (by kernel_rfl) wr.heap.size 16 gb 0 cb (fun _ => 0) fb rfl rfl HA.out (HD.out.self HLO.out).cnt wr HLO.out ?_; intro w2 hA2 hb2; have HA2 := hid hA2; have HB2 := hid hb2; clear hA2 hb2)
        | (refine step_load_ba rfl 48 _ rfl wr.heap.size 16 48 5 fb rfl HA2.out Tryz.underlying48 infoa ?_)
        | (go_at_call 35; (with_reducible refine (HB.out w2 (HD.out.low.trans (HB2.out.mono HD.out.low.size))).mono ?_); rintro e w3 ⟨rfl, hlow⟩; have HA3 := hid (HA2.out.self hlow); have HB3 := hid (HB2.out.trans (hlow.mono HB2.out.size)); clear hlow)
        | (refine step_store_ba rfl 48 _ _ rfl wr.heap.size 16 48 fb (blkF Y R fb) rfl rfl HA3.out infoa ?_; have HA4 := hid (HA3.out.row (blkF Y R fb)); have HB4 := hid (below_setRow HB3.out (Nat.le_refl _) (ba 16 (blkF Y R fb))))
        | (refine wpList_append16 rfl (.tmp 25) (.tmp 26) rfl Tryz.underlying22 info8 w.heap.size gl (16 * k) cl wr.heap.size 16 (strF Y R f) (blkF Y R fb) rfl (HD.out.self HB4.out).own rfl HA4.out (by have := HK.out; have := HN.out; omega) (by have := HD.out.low.size; have := HB4.out.size; omega) HBE.out ?_; intro g' c' w5 ho5 hg5 hgl; have HO5 := hid ho5; have HG5 := hid hg5; have HGL := hid hgl; have HW5 : Hid (Wd w5 16 gb 0 fb) := hid ((HD.out.self HB4.out).cnt.same hg5.size (hg5.block _ (HD.out.self HB4.out).cnt.lt (fun e => (HD.out.ne) (by injection e)))); clear ho5 hg5 hgl)
        | (go_at_call 36; (with_reducible refine (refinc_ns gb 0 cb fb w5 HW5.out).mono ?_); rintro e w6 ⟨gc, c6, rfl, hw6, hgc, hl6⟩; have HD6 := hid ((HD.out.self HB4.out).next HK.out HO5.out HG5.out HGL.out hw6 hgc hl6); clear hw6 hgc hl6))
      go_roundw
      case rel => exact ⟨k + 1, g', c', gc, c6, lat fb 1, rfl, rfl, HD6.out⟩
      case measure => have := HK.out; show n - (16 * k + 16) < n - 16 * k; omega
    · have hk1 : ¬ ((16 * k : Nat) : Int) < (n : Int) := by omega
      have hc : (n : Int) ≤ cl := by have := HD.out.cap; omega
      have HQ := hid (HD.out.done hk (fun j => strF_b HY.out f j))
      have HQC : Hid (n ≤ cl) := hid (by omega)
      have HL := hid HD.out.low
      clear hk
      go_wp2
      go_ret
      exact ⟨gl, cl, rfl, HQ.out.1, HQC.out, HQ.out.2, HL.out⟩

theorem refstream_kept (b g off c R R1 n : Nat) (kv : Value) (Y : Nat → Nat → Nat) (f : Nat → Nat) (wk w : World) (hn : n ≤ 65536) (hk : Ky wk kv R R1 Y) (hb : Below wk.heap.size wk w) (hlt : b < w.heap.size) (hf : B16 f) (hv : Rd .u8 w (.slice (some ⟨g, off, none⟩) 16 c) (ns 16 f)) :
    Calls Tryz.prog 24 #[kv, .slice (some ⟨g, off, none⟩) 16 c, .int .i64 n] w fun e w' => ∃ g' c', e = .returned (.slice (some ⟨g', 0, none⟩) n c') ∧ Kept b w' (.slice (some ⟨g', 0, none⟩) n c') (ns n (strF Y R f)) ∧ Below w.heap.size w w' := by
  refine (refstream_any kv _ R R1 n Y f w hk.num.1 hk.num.2.1 hk.num.2.2 (by omega) hf hk.yb hv (fun w' h => hk.exp w' (hb.trans (h.mono hb.size)))).mono ?_
  rintro e w' ⟨g', c', rfl, hg, _, hw, hl⟩
  exact ⟨g', c', rfl, kept_wd hw (by omega) hn, hl⟩
theorem ns_later {M : Nat} (Y : Nat → Nat → Nat) (R : Nat) (f : Nat → Nat) (a : Nat) : ns M (fun j => strF Y R f (16 * a + j)) = ns M (strF Y R (lat f a)) := ns_ext fun j _ => (strF_later Y R f a j).symm
end Go.Proofs.YthhkhcacljgelaaGreat
