/- KeccakBack returns true whatever state it is given. No condition. -/
import Derived.Test.YtfgbcohmbbjagaaRows
import Derived.Test.YtfgbcohmbbjagaaKcw
import Derived.Test.YtfgbcohmbbjagaaGen
namespace Go.Proofs.Ytfgbcohmbbjagaa
open Go.ChangeShapes Go.WideShapes Go.ChangeAt Go.RowKit

set_option maxRecDepth 100000 in
theorem kback_law (H : Type) (enc : TypeId × Value → H) : LawCore H enc Try.prog 5 [23] := by
  intro W base args ds p hval hA hlt hfz hsz
  obtain ⟨v0, vs0, d0, ds0, p0, q0, hargs, rfl, rfl, h0, r0⟩ := trodAll_cons hA
  obtain ⟨rfl, rfl, rfl⟩ := trodAll_nil r0
  obtain rfl : args = #[v0] := by cases args; simp_all
  obtain ⟨f0, rfl, g0⟩ := wa_open (P := Try.prog) Try.underlying23 Try.underlying22 (by kernel_rfl) (by kernel_rfl) (hval 0 23 v0 rfl rfl) h0
  exact kback_core f0 W g0

theorem own : ownKnob Try.prog.godebug = none := by kernel_rfl
theorem laidOut : laidOutB Try.prog = true := by kernel_rfl

set_option maxRecDepth 100000 in
theorem kback_lifted (os : Os) (started : os.Started) (H : Type) (enc : TypeId × Value → H) :
    ReturnsInHanded {} Try.checked os 5 .any (Rows.keccakBackSpec.pre6 enc Try.prog Try.f5 Rows.keccakBackRow.domain false) (Rows.keccakBackSpec.post enc Try.prog Try.f5 false true false false) :=
  law_lifted (C := Try.checked) own started (by kernel_rfl) Try.func5
    (ChangeSpec.witness6 (enc := enc) (C := Try.checked) false ⟨#[], #[.agg (Array.replicate 25 (.int .u64 0))], []⟩ 8 (by kernel_rfl) (by kernel_rfl) (by kernel_rfl) (by kernel_rfl))
    laidOut (of_decide_eq_true (by kernel_rfl)) rfl Try.underlying4 rfl
    (fun ds hd => match ds, hd with | [_], _ => rfl) (kback_law H enc)

theorem keccakBack_holds : Rows.KeccakBackSaid :=
  OpenClaim.holds_of_wide 5 Try.f5 rfl rfl rfl rfl rfl rfl rfl ⟨rfl, rfl, rfl, rfl, rfl⟩ rfl rfl rfl rfl rfl (by kernel_rfl) Try.func5 (by kernel_rfl)
    (of_decide_eq_true (by kernel_rfl)) (by unfold Func.isWrapper; first | (rw [if_pos (by decide +kernel)]; kernel_rfl) | (rw [if_neg (by decide +kernel)]; exact ⟨rfl, rfl⟩))
    (fun os started H enc _ => kback_lifted os started H enc)
#print axioms keccakBack_holds
end Go.Proofs.Ytfgbcohmbbjagaa
