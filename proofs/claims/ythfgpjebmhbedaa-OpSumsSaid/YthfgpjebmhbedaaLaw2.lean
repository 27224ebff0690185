/- OpSums returns true whatever op and rows of words it is given. No condition. -/
import Derived.Test.YthfgpjebmhbedaaRows
import Derived.Test.YthfgpjebmhbedaaOpd
import Derived.Test.YthfgpjebmhbedaaGen
import Derived.Test.YthfgpjebmhbedaaArw
import Derived.Test.YthfgpjebmhbedaaOps
namespace Go.Proofs.Ythfgpjebmhbedaa
open Go.ChangeShapes Go.WideShapes Go.ChangeAt Go.RowKit

set_option maxRecDepth 100000 in
theorem osums_law (H : Type) (enc : TypeId × Value → H) : LawCore H enc Try.prog 4 [24, 28, 28] := by
  intro W base args ds p hval hA hlt hfz hsz
  obtain ⟨v0, vs0, d0, ds0, p0, q0, hargs, rfl, rfl, h0, r0⟩ := trodAll_cons hA
  obtain ⟨v1, vs1, d1, ds1, p1, q1, rfl, rfl, rfl, h1, r1⟩ := trodAll_cons r0
  obtain ⟨v2, vs2, d2, ds2, p2, q2, rfl, rfl, rfl, h2, r2⟩ := trodAll_cons r1
  obtain ⟨rfl, rfl, rfl⟩ := trodAll_nil r2
  obtain rfl : args = #[v0, v1, v2] := by cases args; simp_all
  obtain ⟨K0, D0, A0, B0, E0, C0, rfl, W00, W01, W02, W03, W04, c0⟩ := op_open Try.underlying24 (by kernel_rfl) Try.underlying3 Try.underlying22 (by kernel_rfl) (by kernel_rfl) (by kernel_rfl) (hval 0 24 v0 rfl rfl) h0
  obtain ⟨f1, rfl, g1⟩ := wa_open (P := Try.prog) Try.underlying28 Try.underlying22 (by kernel_rfl) (by kernel_rfl) (hval 1 28 v1 rfl rfl) h1
  obtain ⟨f2, rfl, g2⟩ := wa_open (P := Try.prog) Try.underlying28 Try.underlying22 (by kernel_rfl) (by kernel_rfl) (hval 2 28 v2 rfl rfl) h2
  exact osums_core K0 D0 A0 B0 E0 C0 (f1 0) (f1 1) (f1 2) (f1 3) (f2 0) (f2 1) (f2 2) (f2 3) W c0 (g1 0 (by decide)) (g1 1 (by decide)) (g1 2 (by decide)) (g1 3 (by decide)) (g2 0 (by decide)) (g2 1 (by decide)) (g2 2 (by decide)) (g2 3 (by decide))

theorem own : ownKnob Try.prog.godebug = none := by kernel_rfl
theorem laidOut : laidOutB Try.prog = true := by kernel_rfl

set_option maxRecDepth 100000 in
theorem osums_lifted (os : Os) (started : os.Started) (H : Type) (enc : TypeId × Value → H) :
    ReturnsInHanded {} Try.checked os 4 .any (Rows.opSumsSpec.pre6 enc Try.prog Try.f4 Rows.opSumsRow.domain false) (Rows.opSumsSpec.post enc Try.prog Try.f4 false true false false) :=
  law_lifted (C := Try.checked) own started (by kernel_rfl) Try.func4
    (ChangeSpec.witness6 (enc := enc) (C := Try.checked) false ⟨#[], #[.agg #[.int .i64 0, .int .i64 0, .int .i64 0, .int .i64 0, .int .i64 0, .int .u64 0], .agg (Array.replicate 4 (.int .u64 0)), .agg (Array.replicate 4 (.int .u64 0))], []⟩ 8 (by kernel_rfl) (by kernel_rfl) (by kernel_rfl) (by kernel_rfl))
    laidOut (of_decide_eq_true (by kernel_rfl)) rfl Try.underlying4 rfl
    (fun ds hd => match ds, hd with | [_, _, _], _ => rfl) (osums_law H enc)

theorem opSums_holds : Rows.OpSumsSaid :=
  OpenClaim.holds_of_wide 4 Try.f4 rfl rfl rfl rfl rfl rfl rfl ⟨rfl, rfl, rfl, rfl, rfl⟩ rfl rfl rfl rfl rfl (by kernel_rfl) Try.func4 (by kernel_rfl)
    (of_decide_eq_true (by kernel_rfl)) (by unfold Func.isWrapper; first | (rw [if_pos (by decide +kernel)]; kernel_rfl) | (rw [if_neg (by decide +kernel)]; exact ⟨rfl, rfl⟩))
    (fun os started H enc _ => osums_lifted os started H enc)
#print axioms opSums_holds
end Go.Proofs.Ythfgpjebmhbedaa
