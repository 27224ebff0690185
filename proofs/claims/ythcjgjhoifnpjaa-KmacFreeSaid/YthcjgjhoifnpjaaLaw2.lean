/- KmacFree returns true whatever it is asked, and whatever lengths and place it is given. No condition. -/
import Derived.Test.YthcjgjhoifnpjaaRows
import Derived.Test.YthcjgjhoifnpjaaKmc
import Derived.Test.YthcjgjhoifnpjaaGen
import Derived.Test.YthcjgjhoifnpjaaSix
namespace Go.Proofs.Ythcjgjhoifnpjaa
open Go.ChangeShapes Go.WideShapes Go.ChangeAt Go.RowKit

set_option maxRecDepth 100000 in
theorem kfree_law (H : Type) (enc : TypeId × Value → H) : LawCore H enc Try.prog 4 [24, 5, 5, 3] := by
  intro W base args ds p hval hA hlt hfz hsz
  obtain ⟨v0, vs0, d0, ds0, p0, q0, hargs, rfl, rfl, h0, r0⟩ := trodAll_cons hA
  obtain ⟨v1, vs1, d1, ds1, p1, q1, rfl, rfl, rfl, h1, r1⟩ := trodAll_cons r0
  obtain ⟨v2, vs2, d2, ds2, p2, q2, rfl, rfl, rfl, h2, r2⟩ := trodAll_cons r1
  obtain ⟨v3, vs3, d3, ds3, p3, q3, rfl, rfl, rfl, h3, r3⟩ := trodAll_cons r2
  obtain ⟨rfl, rfl, rfl⟩ := trodAll_nil r3
  obtain rfl : args = #[v0, v1, v2, v3] := by cases args; simp_all
  obtain ⟨X0, N0, A0a, A0b, A0c, B0, Z0a, Z0b, Z0c, rfl, X0w, N0w, E0a, E0b, E0c⟩ := six_open Try.underlying24 (by kernel_rfl) Try.underlying3 Try.underlying22 Try.underlying5 Try.underlying4 (by kernel_rfl) (by kernel_rfl) (by kernel_rfl) (by kernel_rfl) (by kernel_rfl) (by kernel_rfl) (hval 0 24 v0 rfl rfl) h0 (fun x hx => hlt x (by simp [hx])) hsz (j := 0) rfl rfl
  obtain ⟨x1, rfl, rfl, rfl, w1⟩ := open_int Try.underlying5 (hval 1 5 v1 rfl rfl) h1
  obtain ⟨b11, b12⟩ := bounds_u8 w1
  obtain ⟨y1, rfl⟩ := Int.eq_ofNat_of_zero_le b11
  obtain ⟨x2, rfl, rfl, rfl, w2⟩ := open_int Try.underlying5 (hval 2 5 v2 rfl rfl) h2
  obtain ⟨b21, b22⟩ := bounds_u8 w2
  obtain ⟨y2, rfl⟩ := Int.eq_ofNat_of_zero_le b21
  obtain ⟨x3, rfl, rfl, rfl, w3⟩ := open_int Try.underlying3 (hval 3 3 v3 rfl rfl) h3
  have i3 : x3 ≤ 9223372036854775807 := by have := bounds_i64 w3; omega
  exact kfree_core X0 N0 A0a A0b A0c y1 y2 x3 B0 Z0a Z0b Z0c W ⟨E0a.1, E0a.2⟩ ⟨E0b.1, E0b.2⟩ ⟨E0c.1, E0c.2⟩ (by omega) (by omega)

theorem own : ownKnob Try.prog.godebug = none := by kernel_rfl
theorem laidOut : laidOutB Try.prog = true := by kernel_rfl

set_option maxRecDepth 100000 in
theorem kfree_lifted (os : Os) (started : os.Started) (H : Type) (enc : TypeId × Value → H) :
    ReturnsInHanded {} Try.checked os 4 .any (Rows.kmacFreeSpec.pre6 enc Try.prog Try.f4 Rows.kmacFreeRow.domain false) (Rows.kmacFreeSpec.post enc Try.prog Try.f4 false true false false) :=
  law_lifted (C := Try.checked) own started (by kernel_rfl) Try.func4
    (ChangeSpec.witness6 (enc := enc) (C := Try.checked) false ⟨#[], #[.agg #[.int .i64 0, .int .i64 0, .slice none 0 0, .slice none 0 0, .slice none 0 0, .bool false], .int .u8 0, .int .u8 0, .int .i64 0], []⟩ 8 (by kernel_rfl) (by kernel_rfl) (by kernel_rfl) (by kernel_rfl))
    laidOut (of_decide_eq_true (by kernel_rfl)) rfl Try.underlying4 rfl
    (fun ds hd => match ds, hd with | [_, _, _, _], _ => rfl) (kfree_law H enc)

theorem kmacFree_holds : Rows.KmacFreeSaid :=
  OpenClaim.holds_of_wide 4 Try.f4 rfl rfl rfl rfl rfl rfl rfl ⟨rfl, rfl, rfl, rfl, rfl⟩ rfl rfl rfl rfl rfl (by kernel_rfl) Try.func4 (by kernel_rfl)
    (of_decide_eq_true (by kernel_rfl)) (by unfold Func.isWrapper; first | (rw [if_pos (by decide +kernel)]; kernel_rfl) | (rw [if_neg (by decide +kernel)]; exact ⟨rfl, rfl⟩))
    (fun os started H enc _ => kfree_lifted os started H enc)
#print axioms kmacFree_holds
end Go.Proofs.Ythcjgjhoifnpjaa
