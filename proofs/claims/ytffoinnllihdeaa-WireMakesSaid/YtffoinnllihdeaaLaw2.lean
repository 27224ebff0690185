/- WireMakes returns true whatever list of acts it is given, for two shares and for three. No condition. -/
import Derived.Test.YtffoinnllihdeaaRows
import Derived.Test.YtffoinnllihdeaaPgn
import Derived.Test.YtffoinnllihdeaaWmc
import Derived.Test.YtffoinnllihdeaaGen
namespace Go.Proofs.Ytffoinnllihdeaa
open Go.ChangeShapes Go.WideShapes Go.ChangeAt Go.RowKit

set_option maxRecDepth 100000 in
theorem wmakes_law (H : Type) (enc : TypeId × Value → H) : LawCore H enc Try.prog 4 [4, 22] := by
  intro W base args ds p hval hA hlt hfz hsz
  obtain ⟨v0, vs0, d0, ds0, p0, q0, hargs, rfl, rfl, h0, r0⟩ := trodAll_cons hA
  obtain ⟨v1, vs1, d1, ds1, p1, q1, rfl, rfl, rfl, h1, r1⟩ := trodAll_cons r0
  obtain ⟨rfl, rfl, rfl⟩ := trodAll_nil r1
  obtain rfl : args = #[v0, v1] := by cases args; simp_all
  obtain ⟨t0, rfl, rfl, rfl⟩ := open_bool Try.underlying4 (hval 0 4 v0 rfl rfl) h0
  obtain ⟨L1, f1, e1⟩ := acts_open (P := Try.prog) Try.underlying22 Try.underlying45 (by kernel_rfl) Try.underlying43 (by kernel_rfl) Try.underlying3 Try.underlying41 (by kernel_rfl) (by kernel_rfl) (by kernel_rfl) (by kernel_rfl) (by kernel_rfl) (hval 1 22 v1 rfl rfl) h1 (fun x hx => hlt x (by simp [hx])) hsz (j0 := 1) rfl rfl
  exact lmakes_core pmach pmachn lcg lcg_is t0 v1 L1 f1 W e1

theorem own : ownKnob Try.prog.godebug = none := by kernel_rfl
theorem laidOut : laidOutB Try.prog = true := by kernel_rfl

set_option maxRecDepth 100000 in
theorem wmakes_lifted (os : Os) (started : os.Started) (H : Type) (enc : TypeId × Value → H) :
    ReturnsInHanded {} Try.checked os 4 .any (Rows.wireMakesSpec.pre6 enc Try.prog Try.f4 Rows.wireMakesRow.domain false) (Rows.wireMakesSpec.post enc Try.prog Try.f4 false true false false) :=
  law_lifted (C := Try.checked) own started (by kernel_rfl) Try.func4
    (ChangeSpec.witness6 (enc := enc) (C := Try.checked) false ⟨#[], #[.bool false, .slice none 0 0], []⟩ 8 (by kernel_rfl) (by kernel_rfl) (by kernel_rfl) (by kernel_rfl))
    laidOut (of_decide_eq_true (by kernel_rfl)) rfl Try.underlying4 rfl
    (fun ds hd => match ds, hd with | [_, _], _ => rfl) (wmakes_law H enc)

theorem wireMakes_holds : Rows.WireMakesSaid :=
  OpenClaim.holds_of_wide 4 Try.f4 rfl rfl rfl rfl rfl rfl rfl ⟨rfl, rfl, rfl, rfl, rfl⟩ rfl rfl rfl rfl rfl (by kernel_rfl) Try.func4 (by kernel_rfl)
    (of_decide_eq_true (by kernel_rfl)) (by unfold Func.isWrapper; first | (rw [if_pos (by decide +kernel)]; kernel_rfl) | (rw [if_neg (by decide +kernel)]; exact ⟨rfl, rfl⟩))
    (fun os started H enc _ => wmakes_lifted os started H enc)
#print axioms wireMakes_holds
end Go.Proofs.Ytffoinnllihdeaa
