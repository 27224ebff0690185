/- KmacTells returns true whatever it is asked, and whatever tag it is given. No condition. -/
import Derived.Test.YthcjgjhoifnpjaaRows
import Derived.Test.YthcjgjhoifnpjaaKmb
import Derived.Test.YthcjgjhoifnpjaaGen
import Derived.Test.YthcjgjhoifnpjaaSix
namespace Go.Proofs.Ythcjgjhoifnpjaa
open Go.ChangeShapes Go.WideShapes Go.ChangeAt Go.RowKit

set_option maxRecDepth 100000 in
theorem ktells_law (H : Type) (enc : TypeId × Value → H) : LawCore H enc Try.prog 3 [24, 22] := by
  intro W base args ds p hval hA hlt hfz hsz
  obtain ⟨v0, vs0, d0, ds0, p0, q0, hargs, rfl, rfl, h0, r0⟩ := trodAll_cons hA
  obtain ⟨v1, vs1, d1, ds1, p1, q1, rfl, rfl, rfl, h1, r1⟩ := trodAll_cons r0
  obtain ⟨rfl, rfl, rfl⟩ := trodAll_nil r1
  obtain rfl : args = #[v0, v1] := by cases args; simp_all
  obtain ⟨X0, N0, A0a, A0b, A0c, B0, Z0a, Z0b, Z0c, rfl, X0w, N0w, E0a, E0b, E0c⟩ := six_open Try.underlying24 (by kernel_rfl) Try.underlying3 Try.underlying22 Try.underlying5 Try.underlying4 (by kernel_rfl) (by kernel_rfl) (by kernel_rfl) (by kernel_rfl) (by kernel_rfl) (by kernel_rfl) (hval 0 24 v0 rfl rfl) h0 (fun x hx => hlt x (by simp [hx])) hsz (j := 0) rfl rfl
  obtain ⟨s1, z1, c1⟩ := rd_open2 (k := .u8) Try.underlying22 Try.underlying5 (by kernel_rfl) (by kernel_rfl) (hval 1 22 v1 rfl rfl) h1 (fun x hx => hlt x (by simp [hx])) hsz (j := 1) rfl rfl
  exact ktells_core X0 N0 A0a A0b A0c v1 B0 Z0a Z0b Z0c s1 W ⟨E0a.1, E0a.2⟩ ⟨E0b.1, E0b.2⟩ ⟨E0c.1, E0c.2⟩ ⟨z1, c1⟩

theorem own : ownKnob Try.prog.godebug = none := by kernel_rfl
theorem laidOut : laidOutB Try.prog = true := by kernel_rfl

set_option maxRecDepth 100000 in
theorem ktells_lifted (os : Os) (started : os.Started) (H : Type) (enc : TypeId × Value → H) :
    ReturnsInHanded {} Try.checked os 3 .any (Rows.kmacTellsSpec.pre6 enc Try.prog Try.f3 Rows.kmacTellsRow.domain false) (Rows.kmacTellsSpec.post enc Try.prog Try.f3 false true false false) :=
  law_lifted (C := Try.checked) own started (by kernel_rfl) Try.func3
    (ChangeSpec.witness6 (enc := enc) (C := Try.checked) false ⟨#[], #[.agg #[.int .i64 0, .int .i64 0, .slice none 0 0, .slice none 0 0, .slice none 0 0, .bool false], .slice none 0 0], []⟩ 8 (by kernel_rfl) (by kernel_rfl) (by kernel_rfl) (by kernel_rfl))
    laidOut (of_decide_eq_true (by kernel_rfl)) rfl Try.underlying4 rfl
    (fun ds hd => match ds, hd with | [_, _], _ => rfl) (ktells_law H enc)

theorem kmacTells_holds : Rows.KmacTellsSaid :=
  OpenClaim.holds_of_wide 3 Try.f3 rfl rfl rfl rfl rfl rfl rfl ⟨rfl, rfl, rfl, rfl, rfl⟩ rfl rfl rfl rfl rfl (by kernel_rfl) Try.func3 (by kernel_rfl)
    (of_decide_eq_true (by kernel_rfl)) (by unfold Func.isWrapper; first | (rw [if_pos (by decide +kernel)]; kernel_rfl) | (rw [if_neg (by decide +kernel)]; exact ⟨rfl, rfl⟩))
    (fun os started H enc _ => ktells_lifted os started H enc)
#print axioms kmacTells_holds
end Go.Proofs.Ythcjgjhoifnpjaa
