/- WirePlays returns true whatever numbers and whatever list of acts it is given. No condition. -/
import Derived.Test.YtffoinnllihdeaaRows
import Derived.Test.YtffoinnllihdeaaPgn
import Derived.Test.YtffoinnllihdeaaWmp
import Derived.Test.YtffoinnllihdeaaGen
namespace Go.Proofs.Ytffoinnllihdeaa
open Go.ChangeShapes Go.WideShapes Go.ChangeAt Go.RowKit

set_option maxRecDepth 100000 in
theorem wplays_law (H : Type) (enc : TypeId × Value → H) : LawCore H enc Try.prog 3 [3, 3, 3, 22] := by
  intro W base args ds p hval hA hlt hfz hsz
  obtain ⟨v0, vs0, d0, ds0, p0, q0, hargs, rfl, rfl, h0, r0⟩ := trodAll_cons hA
  obtain ⟨v1, vs1, d1, ds1, p1, q1, rfl, rfl, rfl, h1, r1⟩ := trodAll_cons r0
  obtain ⟨v2, vs2, d2, ds2, p2, q2, rfl, rfl, rfl, h2, r2⟩ := trodAll_cons r1
  obtain ⟨v3, vs3, d3, ds3, p3, q3, rfl, rfl, rfl, h3, r3⟩ := trodAll_cons r2
  obtain ⟨rfl, rfl, rfl⟩ := trodAll_nil r3
  obtain rfl : args = #[v0, v1, v2, v3] := by cases args; simp_all
  obtain ⟨x0, rfl, rfl, rfl, w0⟩ := open_int Try.underlying3 (hval 0 3 v0 rfl rfl) h0
  have i0 : x0 ≤ 9223372036854775807 := by have := bounds_i64 w0; omega
  obtain ⟨x1, rfl, rfl, rfl, w1⟩ := open_int Try.underlying3 (hval 1 3 v1 rfl rfl) h1
  have i1 : x1 ≤ 9223372036854775807 := by have := bounds_i64 w1; omega
  obtain ⟨x2, rfl, rfl, rfl, w2⟩ := open_int Try.underlying3 (hval 2 3 v2 rfl rfl) h2
  have i2 : x2 ≤ 9223372036854775807 := by have := bounds_i64 w2; omega
  obtain ⟨L3, f3, e3⟩ := acts_open (P := Try.prog) Try.underlying22 Try.underlying45 (by kernel_rfl) Try.underlying43 (by kernel_rfl) Try.underlying3 Try.underlying41 (by kernel_rfl) (by kernel_rfl) (by kernel_rfl) (by kernel_rfl) (by kernel_rfl) (hval 3 22 v3 rfl rfl) h3 (fun x hx => hlt x (by simp [hx])) hsz (j0 := 3) rfl rfl
  exact lplays_core pmach pmachn lcg lcg_is x0 x1 x2 v3 L3 f3 W e3 (bounds_i64 w0) (bounds_i64 w1)

theorem own : ownKnob Try.prog.godebug = none := by kernel_rfl
theorem laidOut : laidOutB Try.prog = true := by kernel_rfl

set_option maxRecDepth 100000 in
theorem wplays_lifted (os : Os) (started : os.Started) (H : Type) (enc : TypeId × Value → H) :
    ReturnsInHanded {} Try.checked os 3 .any (Rows.wirePlaysSpec.pre6 enc Try.prog Try.f3 Rows.wirePlaysRow.domain false) (Rows.wirePlaysSpec.post enc Try.prog Try.f3 false true false false) :=
  law_lifted (C := Try.checked) own started (by kernel_rfl) Try.func3
    (ChangeSpec.witness6 (enc := enc) (C := Try.checked) false ⟨#[], #[.int .i64 0, .int .i64 0, .int .i64 0, .slice none 0 0], []⟩ 8 (by kernel_rfl) (by kernel_rfl) (by kernel_rfl) (by kernel_rfl))
    laidOut (of_decide_eq_true (by kernel_rfl)) rfl Try.underlying4 rfl
    (fun ds hd => match ds, hd with | [_, _, _, _], _ => rfl) (wplays_law H enc)

theorem wirePlays_holds : Rows.WirePlaysSaid :=
  OpenClaim.holds_of_wide 3 Try.f3 rfl rfl rfl rfl rfl rfl rfl ⟨rfl, rfl, rfl, rfl, rfl⟩ rfl rfl rfl rfl rfl (by kernel_rfl) Try.func3 (by kernel_rfl)
    (of_decide_eq_true (by kernel_rfl)) (by unfold Func.isWrapper; first | (rw [if_pos (by decide +kernel)]; kernel_rfl) | (rw [if_neg (by decide +kernel)]; exact ⟨rfl, rfl⟩))
    (fun os started H enc _ => wplays_lifted os started H enc)
#print axioms wirePlays_holds
end Go.Proofs.Ytffoinnllihdeaa
