/- TraceCounts returns true whatever two traces it is given. No condition. -/
import Derived.Test.YthopdlcmmafcaaaRows
import Derived.Test.YthopdlcmmafcaaaTlb
import Derived.Test.YthopdlcmmafcaaaGen
namespace Go.Proofs.Ythopdlcmmafcaaa
open Go.ChangeShapes Go.WideShapes Go.ChangeAt Go.RowKit

set_option maxRecDepth 100000 in
theorem tcounts_law (H : Type) (enc : TypeId × Value → H) : LawCore H enc Try.prog 4 [25, 25] := by
  intro W base args ds p hval hA hlt hfz hsz
  obtain ⟨v0, vs0, d0, ds0, p0, q0, hargs, rfl, rfl, h0, r0⟩ := trodAll_cons hA
  obtain ⟨v1, vs1, d1, ds1, p1, q1, rfl, rfl, rfl, h1, r1⟩ := trodAll_cons r0
  obtain ⟨rfl, rfl, rfl⟩ := trodAll_nil r1
  obtain rfl : args = #[v0, v1] := by cases args; simp_all
  obtain ⟨N0, S0, P0, L0, M0, f0, g0, rfl, W0, o0, e0⟩ := tr_open_at (hval 0 25 v0 rfl rfl) h0 (fun x hx => hlt x (by simp [hx])) hsz (j := 0) rfl rfl
  obtain ⟨N1, S1, P1, L1, M1, f1, g1, rfl, W1, o1, e1⟩ := tr_open_at (hval 1 25 v1 rfl rfl) h1 (fun x hx => hlt x (by simp [hx])) hsz (j := 1) rfl rfl
  exact tcounts_all N0 N1 S0 P0 S1 P1 L0 M0 L1 M1 f0 f1 g0 g1 W o0 e0 o1 e1

theorem own : ownKnob Try.prog.godebug = none := by kernel_rfl
theorem laidOut : laidOutB Try.prog = true := by kernel_rfl

set_option maxRecDepth 100000 in
theorem tcounts_lifted (os : Os) (started : os.Started) (H : Type) (enc : TypeId × Value → H) :
    ReturnsInHanded {} Try.checked os 4 .any (Rows.traceCountsSpec.pre6 enc Try.prog Try.f4 Rows.traceCountsRow.domain false) (Rows.traceCountsSpec.post enc Try.prog Try.f4 false true false false) :=
  law_lifted (C := Try.checked) own started (by kernel_rfl) Try.func4
    (ChangeSpec.witness6 (enc := enc) (C := Try.checked) false ⟨#[], #[.agg #[.int .i64 0, .slice none 0 0, .slice none 0 0], .agg #[.int .i64 0, .slice none 0 0, .slice none 0 0]], []⟩ 8 (by kernel_rfl) (by kernel_rfl) (by kernel_rfl) (by kernel_rfl))
    laidOut (of_decide_eq_true (by kernel_rfl)) rfl Try.underlying4 rfl
    (fun ds hd => match ds, hd with | [_, _], _ => rfl) (tcounts_law H enc)

theorem traceCounts_holds : Rows.TraceCountsSaid :=
  OpenClaim.holds_of_wide 4 Try.f4 rfl rfl rfl rfl rfl rfl rfl ⟨rfl, rfl, rfl, rfl, rfl⟩ rfl rfl rfl rfl rfl (by kernel_rfl) Try.func4 (by kernel_rfl)
    (of_decide_eq_true (by kernel_rfl)) (by unfold Func.isWrapper; first | (rw [if_pos (by decide +kernel)]; kernel_rfl) | (rw [if_neg (by decide +kernel)]; exact ⟨rfl, rfl⟩))
    (fun os started H enc _ => tcounts_lifted os started H enc)
#print axioms traceCounts_holds
end Go.Proofs.Ythopdlcmmafcaaa
