import Derived.Test.YtflfnaiklnbaiaaRows
import Derived.Test.YtflfnaiklnbaiaaPgn
import Derived.Test.YtflfnaiklnbaiaaTml
import Derived.Test.YtflfnaiklnbaiaaSgw
import Derived.Test.YtflfnaiklnbaiaaTme
import Derived.Test.YtflfnaiklnbaiaaGen
/- TimesEven returns true whatever kind and shares it is given, and whichever share is left out, for two shares and for three. No condition. -/
namespace Go.Proofs.Ytflfnaiklnbaiaa
open Go.ChangeShapes Go.WideShapes Go.ChangeAt Go.RowKit

set_option maxRecDepth 100000 in
theorem teven_law (H : Type) (enc : TypeId × Value → H) : LawCore H enc Try.prog 4 [26, 5] := by
  intro W base args ds p hval hA hlt hfz hsz
  obtain ⟨v0, vs0, d0, ds0, p0, q0, hargs, rfl, rfl, h0, r0⟩ := trodAll_cons hA
  obtain ⟨v1, vs1, d1, ds1, p1, q1, rfl, rfl, rfl, h1, r1⟩ := trodAll_cons r0
  obtain ⟨rfl, rfl, rfl⟩ := trodAll_nil r1
  obtain rfl : args = #[v0, v1] := by cases args; simp_all
  obtain ⟨a0, K0, X0, Y0, M0, T0, N0, rfl, W0, hx0, hy0, R0, B0, L0⟩ := ask_open (P := Try.prog) Try.underlying26 (by kernel_rfl) Try.underlying4 Try.underlying3 Try.underlying23 Try.underlying22 Try.underlying24 (by kernel_rfl) (by kernel_rfl) (by kernel_rfl) (by kernel_rfl) (by kernel_rfl) (by kernel_rfl) (by kernel_rfl) (hval 0 26 v0 rfl rfl) h0 (fun x hx => hlt x (by simp [hx])) hsz (j := 0) rfl rfl
  obtain ⟨x1, rfl, rfl, rfl, w1⟩ := open_int Try.underlying5 (hval 1 5 v1 rfl rfl) h1
  obtain ⟨b11, b12⟩ := bounds_u8 w1
  obtain ⟨y1, rfl⟩ := Int.eq_ofNat_of_zero_le b11
  cases a0
  · exact teven2_core pmach pmachn (tmI pmach) K0 X0 Y0 hx0 hy0 M0 y1 (by omega) W (fun _ _ _ _ => trivial)
  · exact teven3_core pmach pmachn (tmI pmach) K0 X0 Y0 hx0 hy0 M0 y1 (by omega) W (fun _ _ _ _ => trivial)

theorem own : ownKnob Try.prog.godebug = none := by kernel_rfl
theorem laidOut : laidOutB Try.prog = true := by kernel_rfl

set_option maxRecDepth 100000 in
theorem teven_lifted (os : Os) (started : os.Started) (H : Type) (enc : TypeId × Value → H) :
    ReturnsInHanded {} Try.checked os 4 .any (Rows.timesEvenSpec.pre6 enc Try.prog Try.f4 Rows.timesEvenRow.domain false) (Rows.timesEvenSpec.post enc Try.prog Try.f4 false true false false) :=
  law_lifted (C := Try.checked) own started (by kernel_rfl) Try.func4
    (ChangeSpec.witness6 (enc := enc) (C := Try.checked) false ⟨#[], #[.agg #[.bool false, .int .i64 0, .int .u64 0, .int .u64 0, .int .u64 0, .int .u64 0, .int .u64 0, .int .u64 0, .slice none 0 0], .int .u8 0], []⟩ 8 (by kernel_rfl) (by kernel_rfl) (by kernel_rfl) (by kernel_rfl))
    laidOut (of_decide_eq_true (by kernel_rfl)) rfl Try.underlying4 rfl
    (fun ds hd => match ds, hd with | [_, _], _ => rfl) (teven_law H enc)

theorem timesEven_holds : Rows.TimesEvenSaid :=
  OpenClaim.holds_of_wide 4 Try.f4 rfl rfl rfl rfl rfl rfl rfl ⟨rfl, rfl, rfl, rfl, rfl⟩ rfl rfl rfl rfl rfl (by kernel_rfl) Try.func4 (by kernel_rfl)
    (of_decide_eq_true (by kernel_rfl)) (by unfold Func.isWrapper; first | (rw [if_pos (by decide +kernel)]; kernel_rfl) | (rw [if_neg (by decide +kernel)]; exact ⟨rfl, rfl⟩))
    (fun os started H enc _ => teven_lifted os started H enc)
#print axioms timesEven_holds
end Go.Proofs.Ytflfnaiklnbaiaa
