import Derived.Test.YthkijncnndoafaaGreatDoorTie
import Derived.Test.YthkijncnndoafaaGreatDoorCards
import Derived.Test.YthkijncnndoafaaGreatDoorFrp
import Derived.Test.YthkijncnndoafaaGreatDoorGen
import Derived.Test.YthkijncnndoafaaGreatDoorGenA
import Derived.Test.YthkijncnndoafaaGreatDoorShp
import Derived.Test.YthkijncnndoafaaGreatDoorWlm
import Derived.Test.YthkijncnndoafaaGreatDoorAcw
import Derived.Test.YthkijncnndoafaaGreatDoorWdg
import Derived.Test.YthkijncnndoafaaGreatDoorOcb
import Derived.Test.YthkijncnndoafaaGreatDoorWde
import Derived.Test.YthkijncnndoafaaGreatDoorPgn
import Derived.Test.YthkijncnndoafaaGreatDoorPgm
import Derived.Test.YthkijncnndoafaaGreatDoorRcl
import Derived.Test.YthkijncnndoafaaGreatDoorSgw
import Derived.Test.YthkijncnndoafaaGreatDoorBtnA
import Derived.Test.YthkijncnndoafaaGreatDoorAskA
/- BothTells returns true whatever words, kind and masks it is given, with the program's table of pairs as its initialiser lays it. No condition else. -/
namespace Go.Proofs.YthkijncnndoafaaGreatDoor
open Go.ChangeShapes Go.WideShapes Go.ChangeAt Go.RowKit Go.ChangeMaps

set_option maxRecDepth 100000 in
theorem bothTells_law (H : Type) (enc : TypeId × Value → H) : LawCoreL H enc Tryz.prog Rows.bothTellsRow.laid 3 [24] := by
 intro W base args ds p hval hA hlt hfz hsz hL hsh
 rw [MakeChecks.laidMetH_plain _ _ _ (by kernel_rfl)] at hL
 obtain ⟨v0, vs0, d0, ds0, p0, q0, hargs, rfl, rfl, h0, r0⟩ := trodAll_cons hA
 obtain ⟨rfl, rfl, rfl⟩ := trodAll_nil r0
 obtain rfl : args = #[v0] := by cases args; simp_all
 obtain ⟨a0, Kd0, K0, Z0, Lv0, Mv0, X0, T0, L0, N0, rfl, W0, hx0, RL0, ML0, R0, B0, M0⟩ := ask6_open (P := Tryz.prog) Tryz.underlying24 (by kernel_rfl) Tryz.underlying4 Tryz.underlying3 Tryz.underlying34 Tryz.underlying22 (by kernel_rfl) (by kernel_rfl) (by kernel_rfl) (by kernel_rfl) (by kernel_rfl) (by kernel_rfl) (hval 0 24 v0 rfl rfl) h0 (fun x hx => hlt x (by simp [hx])) hsz (j := 0) rfl rfl
 cases a0
 · exact btells_core pmach pmachn false 2 (.inl ⟨rfl, rfl⟩) Kd0 K0 Z0 (bounds_i64 W0) X0 hx0 Lv0 Mv0 L0 T0 N0 W RL0 R0 (fun i _ => B0 i) M0 ML0 (pv_of hL)
 · exact btells_core pmach pmachn true 3 (.inr ⟨rfl, rfl⟩) Kd0 K0 Z0 (bounds_i64 W0) X0 hx0 Lv0 Mv0 L0 T0 N0 W RL0 R0 (fun i _ => B0 i) M0 ML0 (pv_of hL)

set_option maxRecDepth 100000 in
theorem bothTells_lifted (os : Os) (started : os.Started) (H : Type) (enc : TypeId × Value → H) :
  ReturnsInHanded {} Tryz.checked os 3 .any (fun w args => (Rows.bothTellsSpec.pre enc Tryz.prog Tryz.f3 Rows.bothTellsRow.domain false w args ∧ laidMetH Tryz.prog Rows.bothTellsRow.laid w) ∧ sizedMet enc Tryz.prog Tryz.f3 (OpenSpec.ofChange Rows.bothTellsSpec) false w args) (Rows.bothTellsSpec.post enc Tryz.prog Tryz.f3 false true false false) :=
 law_lifted_laid (C := Tryz.checked) own started (by kernel_rfl) Tryz.func3
  (ChangeSpec.witness_shaped (enc := enc) (C := Tryz.checked) (os := os) (X := fun w _ => laidMetH Tryz.prog Rows.bothTellsRow.laid w) false (World.laidAll Tryz.prog os Rows.bothTellsRow.laid) #[.agg #[.bool false, .int .i64 0, .int .i64 0, .int .i64 0, .slice none 0 0, .slice none 0 0]] 8 (World.laidAll_os _ _ _)
   (World.shaped_of_ZipB (by kernel_rfl) (by kernel_rfl)) (by kernel_rfl) (by kernel_rfl) (by kernel_rfl)
   (by rw [MakeChecks.laidMetH_plain _ _ _ (by kernel_rfl)]; exact laidMet_laidAll _ (by kernel_rfl) (by kernel_rfl)))
  laidOut (of_decide_eq_true (by kernel_rfl)) rfl Tryz.underlying4 rfl
  (fun ds hd => match ds, hd with | [_], _ => rfl) (bothTells_law H enc)

theorem bothTells_holds : Rows.BothTellsSaid :=
 OpenClaim.holds_of_wide 3 Tryz.f3 rfl rfl rfl rfl rfl rfl rfl ⟨rfl, rfl, rfl, rfl, rfl⟩ rfl rfl rfl rfl rfl (by kernel_rfl) Tryz.func3 (by kernel_rfl)
  (of_decide_eq_true (by kernel_rfl)) (by unfold Func.isWrapper; first | (rw [if_pos (by decide +kernel)]; kernel_rfl) | (rw [if_neg (by decide +kernel)]; exact ⟨rfl, rfl⟩))
  (fun os started H enc _ => bothTells_lifted os started H enc)
theorem bothTells_card : Rows.BothTellsCardSaid :=
 Claim7.holds_tied_plain_at .later [] [.data] true (true, "cdb08fe31649e9eca81a214a4730319622dca9b47027c46a3e492e4a73e4b92c") false bothTells_holds (fun _ h => by cases h) (by kernel_rfl) (fun _ h => by cases h) bothTells_row_tie rfl ⟨rfl, rfl⟩ (by kernel_rfl) rfl
  (fun f fn hf hfn => by
   obtain rfl : f = 3 := Option.some.inj ((show Tryz.prog.funcNamed "visor/visorlaw23.BothTells" = some 3 by kernel_rfl).symm.trans hf) |>.symm
   obtain rfl : fn = Tryz.f3 := (Option.some.inj (Tryz.func3.symm.trans hfn)).symm
   exact ⟨by kernel_rfl, fun j t ht => by
    rw [Tryz.params3] at ht
    have hm : t ∈ [24] := by simpa using Array.mem_of_getElem? ht
    have hall : ([24].all fun u => !Tryz.prog.wantsStandIn u) = true := by kernel_rfl
    exact (show Tryz.prog.wantsStandIn t = false by simpa using List.all_eq_true.1 hall t hm)⟩)
  (by kernel_rfl)
#print axioms bothTells_card
end Go.Proofs.YthkijncnndoafaaGreatDoor
