/- TapePlays returns true whatever words it is given, and whatever is done, and leaves both as they were. No condition. -/
import Derived.Test.YtolagogfjfcmaaaRows
import Derived.Test.YtolagogfjfcmaaaPlay
import Derived.Test.YtolagogfjfcmaaaLic
namespace Go.Proofs.Ytolagogfjfcmaaa
open Go.ChangeShapes Go.WideShapes Go.ChangeAt Go.RowKit

theorem plays_core (H : Type) (enc : TypeId × Value → H) : LawCore H enc Try.prog 3 [22, 23] := by
  intro W base args ds p hval hA hlt hfz hsz
  obtain ⟨v0, vs0, d0, ds0, p0, q0, hargs, rfl, rfl, h0, r0⟩ := trodAll_cons hA
  obtain ⟨v1, vs1, d1, ds1, p1, q1, rfl, rfl, rfl, h1, r1⟩ := trodAll_cons r0
  obtain ⟨rfl, rfl, rfl⟩ := trodAll_nil r1
  obtain rfl : args = #[v0, v1] := by cases args; simp_all
  obtain ⟨zs, hr⟩ := rd_open (k := .u64) Try.underlying22 Try.underlying25 (by kernel_rfl) (by kernel_rfl) (hval 0 22 v0 rfl rfl) h0 (fun x hx => hlt x (by simp [hx])) hsz (j := 0) rfl rfl
  obtain ⟨a, L, cap, Z, rfl, hL1, hL2, hL3, hc⟩ := recs_open (fun _ => .i64) Try.underlying23 Try.underlying36 (by kernel_rfl) (by kernel_rfl)
    (fun j f hf => match j, hf with | 0, hf => by cases hf; exact Try.underlying3 | 1, hf => by cases hf; exact Try.underlying3 | j + 2, hf => by simp at hf)
    (hval 1 23 v1 rfl rfl) h1 (fun x hx => hlt x (by simp [hx])) (by simp) hsz (j0 := 1) rfl rfl
  rw [show Try.prog.bytesOf 36 = 16 by kernel_rfl] at hL3
  refine plays_any v0 zs L cap a (fun i => Z i 0) (fun i => Z i 1) W hr (by omega) fun hp => ?_
  obtain ⟨b, off, e, hb, hcc⟩ := hc hp
  exact ⟨b, off, e, hb, fun i hi => ⟨by have := (hcc i hi 0 (by simp)).1; simpa using this, by have := (hcc i hi 1 (by simp)).1; simpa [Nat.add_assoc] using this⟩⟩

theorem own : ownKnob Try.prog.godebug = none := by kernel_rfl
theorem laidOut : laidOutB Try.prog = true := by kernel_rfl

set_option maxRecDepth 100000 in
theorem plays_lifted (os : Os) (started : os.Started) (H : Type) (enc : TypeId × Value → H) :
    ReturnsInHanded {} Try.checked os 3 .any (Rows.tapePlaysSpec.pre6 enc Try.prog Try.f3 Rows.tapePlaysRow.domain false) (Rows.tapePlaysSpec.post enc Try.prog Try.f3 false true false false) :=
  law_lifted (C := Try.checked) own started (by kernel_rfl) Try.func3
    (ChangeSpec.witness6 (enc := enc) (C := Try.checked) false ⟨#[], #[.slice none 0 0, .slice none 0 0], []⟩ 8 (by kernel_rfl) (by kernel_rfl) (by kernel_rfl) (by kernel_rfl))
    laidOut (of_decide_eq_true (by kernel_rfl)) rfl Try.underlying4 rfl
    (fun ds hd => match ds, hd with | [_, _], _ => rfl) (plays_core H enc)

theorem tapePlays_holds : Rows.TapePlaysSaid :=
  OpenClaim.holds_of_wide 3 Try.f3 rfl rfl rfl rfl rfl rfl rfl ⟨rfl, rfl, rfl, rfl, rfl⟩ rfl rfl rfl rfl rfl (by kernel_rfl) Try.func3 (by kernel_rfl)
    (of_decide_eq_true (by kernel_rfl)) (by unfold Func.isWrapper; first | (rw [if_pos (by decide +kernel)]; kernel_rfl) | (rw [if_neg (by decide +kernel)]; exact ⟨rfl, rfl⟩))
    (fun os started H enc _ => plays_lifted os started H enc)
#print axioms tapePlays_holds
end Go.Proofs.Ytolagogfjfcmaaa
