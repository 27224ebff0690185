import Derived.Test.YthopdlcmmafcaaaProg
import Derived.Test.YthopdlcmmafcaaaTrp
/- Trace: what tr_open asks of the types. -/
namespace Go.Proofs.Ythopdlcmmafcaaa
open Go.ChangeShapes Go.WideShapes Go.ChangeAt Go.RowKit
theorem tr_kinds {fo : Array Field} (h : Try.prog.underlying 40 = some (.struct fo)) : ∀ (j : Nat) (f : Field), fo[j]? = some f → Try.prog.underlying f.type = some (TypeDesc.int (if j = 5 then IntKind.u64 else IntKind.i64)) := by
  have e := h.symm.trans Try.underlying40
  injection e with e
  injection e with e
  subst e
  intro j f hf
  have hj := (Array.getElem?_eq_some_iff.1 hf).1
  simp at hj
  rcases (by omega : j = 0 ∨ j = 1 ∨ j = 2 ∨ j = 3 ∨ j = 4 ∨ j = 5) with rfl | rfl | rfl | rfl | rfl | rfl
  all_goals
    simp at hf
    subst hf
    first | exact Try.underlying3 | exact Try.underlying37
theorem sp_kinds {fo : Array Field} (h : Try.prog.underlying 42 = some (.struct fo)) : ∀ (j : Nat) (f : Field), fo[j]? = some f → Try.prog.underlying f.type = some (.int .i64) := by
  have e := h.symm.trans Try.underlying42
  injection e with e
  injection e with e
  subst e
  intro j f hf
  have hj := (Array.getElem?_eq_some_iff.1 hf).1
  simp at hj
  rcases (by omega : j = 0 ∨ j = 1 ∨ j = 2) with rfl | rfl | rfl
  all_goals
    simp at hf
    subst hf
    exact Try.underlying3
theorem tr_open_at {H : Type} {enc : TypeId × Value → H} {W : World} {held : Bool} {base : Nat} {v : Value} {d : DataW H} {p : List MemPlace} {ts : List TypeId} {ds : List (DataW H)} {j : Nat}
    (hv : Value.okWide Try.prog W .any base 25 v) (h : DataW.Trod enc Try.prog W 0 (fun _ => true) held 25 v d p) (hlt : ∀ x ∈ p, x.block < W.heap.size)
    (hsz : (DataW.weightsEach Try.prog ts ds).all (· ≤ reachBytes) = true) (hj : ts[j]? = some 25) (hd : ds[j]? = some d) :
    ∃ (n : Int) (v0 v1 : Value) (L M : Nat) (f : Nat → Op6) (g : Nat → Sp3), v = .agg #[.int .i64 n, v0, v1] ∧ (Lit.int .i64 n).wf = true ∧ ROp W v0 L f ∧ RSp W v1 M g :=
  tr_open Try.underlying25 (by kernel_rfl) Try.underlying3 Try.underlying22 Try.underlying40 Try.underlying23 Try.underlying42 (by kernel_rfl) (by kernel_rfl) (by kernel_rfl) (by kernel_rfl) (by kernel_rfl) (by kernel_rfl) rfl (by kernel_rfl) (tr_kinds Try.underlying40) (by kernel_rfl) (by kernel_rfl) rfl (by kernel_rfl) (sp_kinds Try.underlying42) hv h hlt hsz hj hd
end Go.Proofs.Ythopdlcmmafcaaa
