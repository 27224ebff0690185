/- ShareHides returns true whatever words it is given, for two shares and for three. No condition. -/
import Derived.Test.YtdgkofnboeepbaaRows
import Derived.Test.YtdgkofnboeepbaaMgag
import Derived.Test.YtdgkofnboeepbaaMgak
import Derived.Test.YtdgkofnboeepbaaMgam
import Derived.Test.YtdgkofnboeepbaaMgaa
namespace Go.Proofs.Ytdgkofnboeepbaa
open Go.ChangeShapes Go.WideShapes Go.ChangeAt Go.RowKit

set_option maxRecDepth 100000 in
theorem shides_law (H : Type) (enc : TypeId × Value → H) : LawCore H enc Try.prog 5 [4, 34, 34, 34, 34] := by
  intro W base args ds p hval hA hlt hfz hsz
  obtain ⟨v0, vs0, d0, ds0, p0, q0, hargs, rfl, rfl, h0, r0⟩ := trodAll_cons hA
  obtain ⟨v1, vs1, d1, ds1, p1, q1, rfl, rfl, rfl, h1, r1⟩ := trodAll_cons r0
  obtain ⟨v2, vs2, d2, ds2, p2, q2, rfl, rfl, rfl, h2, r2⟩ := trodAll_cons r1
  obtain ⟨v3, vs3, d3, ds3, p3, q3, rfl, rfl, rfl, h3, r3⟩ := trodAll_cons r2
  obtain ⟨v4, vs4, d4, ds4, p4, q4, rfl, rfl, rfl, h4, r4⟩ := trodAll_cons r3
  obtain ⟨rfl, rfl, rfl⟩ := trodAll_nil r4
  obtain rfl : args = #[v0, v1, v2, v3, v4] := by cases args; simp_all
  obtain ⟨t0, rfl, rfl, rfl⟩ := open_bool Try.underlying4 (hval 0 4 v0 rfl rfl) h0
  obtain ⟨x1, rfl, rfl, rfl, w1⟩ := open_int Try.underlying34 (hval 1 34 v1 rfl rfl) h1
  obtain ⟨b11, b12⟩ := bounds_u64 w1
  obtain ⟨y1, rfl⟩ := Int.eq_ofNat_of_zero_le b11
  have c1 : y1 < 2 ^ 64 := by omega
  obtain ⟨x2, rfl, rfl, rfl, w2⟩ := open_int Try.underlying34 (hval 2 34 v2 rfl rfl) h2
  obtain ⟨b21, b22⟩ := bounds_u64 w2
  obtain ⟨y2, rfl⟩ := Int.eq_ofNat_of_zero_le b21
  have c2 : y2 < 2 ^ 64 := by omega
  obtain ⟨x3, rfl, rfl, rfl, w3⟩ := open_int Try.underlying34 (hval 3 34 v3 rfl rfl) h3
  obtain ⟨b31, b32⟩ := bounds_u64 w3
  obtain ⟨y3, rfl⟩ := Int.eq_ofNat_of_zero_le b31
  have c3 : y3 < 2 ^ 64 := by omega
  obtain ⟨x4, rfl, rfl, rfl, w4⟩ := open_int Try.underlying34 (hval 4 34 v4 rfl rfl) h4
  obtain ⟨b41, b42⟩ := bounds_u64 w4
  obtain ⟨y4, rfl⟩ := Int.eq_ofNat_of_zero_le b41
  have c4 : y4 < 2 ^ 64 := by omega
  exact shides_core pmach pmachn (shI pmach) t0 y1 y2 y3 y4 c1 c2 c3 c4 W

theorem own : ownKnob Try.prog.godebug = none := by kernel_rfl
theorem laidOut : laidOutB Try.prog = true := by kernel_rfl

set_option maxRecDepth 100000 in
theorem shides_lifted (os : Os) (started : os.Started) (H : Type) (enc : TypeId × Value → H) :
    ReturnsInHanded {} Try.checked os 5 .any (Rows.shareHidesSpec.pre6 enc Try.prog Try.f5 Rows.shareHidesRow.domain false) (Rows.shareHidesSpec.post enc Try.prog Try.f5 false true false false) :=
  law_lifted (C := Try.checked) own started (by kernel_rfl) Try.func5
    (ChangeSpec.witness6 (enc := enc) (C := Try.checked) false ⟨#[], #[.bool false, .int .u64 0, .int .u64 0, .int .u64 0, .int .u64 0], []⟩ 8 (by kernel_rfl) (by kernel_rfl) (by kernel_rfl) (by kernel_rfl))
    laidOut (of_decide_eq_true (by kernel_rfl)) rfl Try.underlying4 rfl
    (fun ds hd => match ds, hd with | [_, _, _, _, _], _ => rfl) (shides_law H enc)

theorem shareHides_holds : Rows.ShareHidesSaid :=
  OpenClaim.holds_of_wide 5 Try.f5 rfl rfl rfl rfl rfl rfl rfl ⟨rfl, rfl, rfl, rfl, rfl⟩ rfl rfl rfl rfl rfl (by kernel_rfl) Try.func5 (by kernel_rfl)
    (of_decide_eq_true (by kernel_rfl)) (by unfold Func.isWrapper; first | (rw [if_pos (by decide +kernel)]; kernel_rfl) | (rw [if_neg (by decide +kernel)]; exact ⟨rfl, rfl⟩))
    (fun os started H enc _ => shides_lifted os started H enc)
#print axioms shareHides_holds
end Go.Proofs.Ytdgkofnboeepbaa
