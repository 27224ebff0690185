import Derived.Test.YtflfnaiklnbaiaaRows
import Derived.Test.YtflfnaiklnbaiaaPgn
import Derived.Test.YtflfnaiklnbaiaaTml
import Derived.Test.YtflfnaiklnbaiaaSgw
import Derived.Test.YtflfnaiklnbaiaaTmg
import Derived.Test.YtflfnaiklnbaiaaGen
/- TimesTells returns true whatever kind, shares and masks it is given, for two shares and for three. No condition. -/
namespace Go.Proofs.Ytflfnaiklnbaiaa
open Go.ChangeShapes Go.WideShapes Go.ChangeAt Go.RowKit

set_option maxRecDepth 100000 in
theorem ttells_law (H : Type) (enc : TypeId × Value → H) : LawCore H enc Try.prog 3 [26] := by
  intro W base args ds p hval hA hlt hfz hsz
  obtain ⟨v0, vs0, d0, ds0, p0, q0, hargs, rfl, rfl, h0, r0⟩ := trodAll_cons hA
  obtain ⟨rfl, rfl, rfl⟩ := trodAll_nil r0
  obtain rfl : args = #[v0] := by cases args; simp_all
  obtain ⟨a0, K0, X0, Y0, M0, T0, N0, rfl, W0, hx0, hy0, R0, B0, L0⟩ := ask_open (P := Try.prog) Try.underlying26 (by kernel_rfl) Try.underlying4 Try.underlying3 Try.underlying23 Try.underlying22 Try.underlying24 (by kernel_rfl) (by kernel_rfl) (by kernel_rfl) (by kernel_rfl) (by kernel_rfl) (by kernel_rfl) (by kernel_rfl) (hval 0 26 v0 rfl rfl) h0 (fun x hx => hlt x (by simp [hx])) hsz (j := 0) rfl rfl
  cases a0
  · exact ttells2_core pmach pmachn (tmI pmach) K0 (bounds_i64 W0) X0 Y0 hx0 hy0 M0 T0 N0 W R0 B0 L0 (fun _ _ _ _ => trivial)
  · exact ttells3_core pmach pmachn (tmI pmach) K0 (bounds_i64 W0) X0 Y0 hx0 hy0 M0 T0 N0 W R0 B0 L0 (fun _ _ _ _ => trivial)

theorem own : ownKnob Try.prog.godebug = none := by kernel_rfl
theorem laidOut : laidOutB Try.prog = true := by kernel_rfl

set_option maxRecDepth 100000 in
theorem ttells_lifted (os : Os) (started : os.Started) (H : Type) (enc : TypeId × Value → H) :
    ReturnsInHanded {} Try.checked os 3 .any (Rows.timesTellsSpec.pre6 enc Try.prog Try.f3 Rows.timesTellsRow.domain false) (Rows.timesTellsSpec.post enc Try.prog Try.f3 false true false false) :=
  law_lifted (C := Try.checked) own started (by kernel_rfl) Try.func3
    (ChangeSpec.witness6 (enc := enc) (C := Try.checked) false ⟨#[], #[.agg #[.bool false, .int .i64 0, .int .u64 0, .int .u64 0, .int .u64 0, .int .u64 0, .int .u64 0, .int .u64 0, .slice none 0 0]], []⟩ 8 (by kernel_rfl) (by kernel_rfl) (by kernel_rfl) (by kernel_rfl))
    laidOut (of_decide_eq_true (by kernel_rfl)) rfl Try.underlying4 rfl
    (fun ds hd => match ds, hd with | [_], _ => rfl) (ttells_law H enc)

theorem timesTells_holds : Rows.TimesTellsSaid :=
  OpenClaim.holds_of_wide 3 Try.f3 rfl rfl rfl rfl rfl rfl rfl ⟨rfl, rfl, rfl, rfl, rfl⟩ rfl rfl rfl rfl rfl (by kernel_rfl) Try.func3 (by kernel_rfl)
    (of_decide_eq_true (by kernel_rfl)) (by unfold Func.isWrapper; first | (rw [if_pos (by decide +kernel)]; kernel_rfl) | (rw [if_neg (by decide +kernel)]; exact ⟨rfl, rfl⟩))
    (fun os started H enc _ => ttells_lifted os started H enc)
#print axioms timesTells_holds
end Go.Proofs.Ytflfnaiklnbaiaa
