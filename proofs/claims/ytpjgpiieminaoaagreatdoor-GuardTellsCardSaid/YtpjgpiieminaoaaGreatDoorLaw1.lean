import Derived.Test.YtpjgpiieminaoaaGreatDoorTie
import Derived.Test.YtpjgpiieminaoaaGreatDoorCards
import Derived.Test.YtpjgpiieminaoaaGreatDoorFrp
import Derived.Test.YtpjgpiieminaoaaGreatDoorPgn
import Derived.Test.YtpjgpiieminaoaaGreatDoorAcv
import Derived.Test.YtpjgpiieminaoaaGreatDoorGdt
import Derived.Test.YtpjgpiieminaoaaGreatDoorAsk
import Derived.Test.YtpjgpiieminaoaaGreatDoorGdp
/- GuardTells returns true whatever words, kind, number and masks it is given, with the program's table of pairs as its initialiser lays it. No condition else. -/
namespace Go.Proofs.YtpjgpiieminaoaaGreatDoor
open Go.ChangeShapes Go.WideShapes Go.ChangeAt Go.RowKit Go.ChangeMaps

set_option maxRecDepth 100000 in
theorem guardTells_law (H : Type) (enc : TypeId × Value → H) : LawCoreL H enc Tryz.prog Rows.guardTellsRow.laid 3 [26] := by
  intro W base args ds p hval hA hlt hfz hsz hL hsh
  rw [MakeChecks.laidMetH_plain _ _ _ (by kernel_rfl)] at hL
  obtain ⟨v0, vs0, d0, ds0, p0, q0, hargs, rfl, rfl, h0, r0⟩ := trodAll_cons hA
  obtain ⟨rfl, rfl, rfl⟩ := trodAll_nil r0
  obtain rfl : args = #[v0] := by cases args; simp_all
  obtain ⟨a0, Kd0, Z0, My0, Mv0, X0, T0, N0, rfl, W0, hx0, hm0, R0, B0, M0⟩ := askG_open (P := Tryz.prog) Tryz.underlying26 (by kernel_rfl) Tryz.underlying4 Tryz.underlying3 Tryz.underlying23 Tryz.underlying5 Tryz.underlying22 Tryz.underlying24 (by kernel_rfl) (by kernel_rfl) (by kernel_rfl) (by kernel_rfl) (by kernel_rfl) (by kernel_rfl) (by kernel_rfl) (by kernel_rfl) (hval 0 26 v0 rfl rfl) h0 (fun x hx => hlt x (by simp [hx])) hsz (j := 0) rfl rfl
  cases a0
  · exact gtells_core pmach pmachn guardI false 2 (.inl ⟨rfl, rfl⟩) Kd0 Z0 (bounds_i64 W0) X0 hx0 My0 hm0 Mv0 T0 N0 W R0 (fun i _ => B0 i) M0 (pv_of hL)
  · exact gtells_core pmach pmachn guardI true 3 (.inr ⟨rfl, rfl⟩) Kd0 Z0 (bounds_i64 W0) X0 hx0 My0 hm0 Mv0 T0 N0 W R0 (fun i _ => B0 i) M0 (pv_of hL)

set_option maxRecDepth 100000 in
theorem guardTells_lifted (os : Os) (started : os.Started) (H : Type) (enc : TypeId × Value → H) :
    ReturnsInHanded {} Tryz.checked os 3 .any (fun w args => (Rows.guardTellsSpec.pre enc Tryz.prog Tryz.f3 Rows.guardTellsRow.domain false w args ∧ laidMetH Tryz.prog Rows.guardTellsRow.laid w) ∧ sizedMet enc Tryz.prog Tryz.f3 (OpenSpec.ofChange Rows.guardTellsSpec) false w args) (Rows.guardTellsSpec.post enc Tryz.prog Tryz.f3 false true false false) :=
  law_lifted_laid (C := Tryz.checked) own started (by kernel_rfl) Tryz.func3
    (ChangeSpec.witness_shaped (enc := enc) (C := Tryz.checked) (os := os) (X := fun w _ => laidMetH Tryz.prog Rows.guardTellsRow.laid w) false (World.laidAll Tryz.prog os Rows.guardTellsRow.laid) #[.agg (asG false 0 0 (fun _ => 0) 0 (.slice none 0 0))] 8 (World.laidAll_os _ _ _)
      (World.shaped_of_ZipB (by kernel_rfl) (by kernel_rfl)) (by kernel_rfl) (by kernel_rfl) (by kernel_rfl)
      (by rw [MakeChecks.laidMetH_plain _ _ _ (by kernel_rfl)]; exact laidMet_laidAll _ (by kernel_rfl) (by kernel_rfl)))
    laidOut (of_decide_eq_true (by kernel_rfl)) rfl Tryz.underlying4 rfl
    (fun ds hd => match ds, hd with | [_], _ => rfl) (guardTells_law H enc)

theorem guardTells_holds : Rows.GuardTellsSaid :=
  OpenClaim.holds_of_wide 3 Tryz.f3 rfl rfl rfl rfl rfl rfl rfl ⟨rfl, rfl, rfl, rfl, rfl⟩ rfl rfl rfl rfl rfl (by kernel_rfl) Tryz.func3 (by kernel_rfl)
    (of_decide_eq_true (by kernel_rfl)) (by unfold Func.isWrapper; first | (rw [if_pos (by decide +kernel)]; kernel_rfl) | (rw [if_neg (by decide +kernel)]; exact ⟨rfl, rfl⟩))
    (fun os started H enc _ => guardTells_lifted os started H enc)
theorem guardTells_card : Rows.GuardTellsCardSaid :=
  Claim7.holds_tied_plain_at .later [] [.data] true (true, "0c2705ceb0dfa1a73772fb7e54284744ac9aeda1fc29d1398c305e4f3220f8a7") false guardTells_holds (fun _ h => by cases h) (by kernel_rfl) (fun _ h => by cases h) guardTells_row_tie rfl ⟨rfl, rfl⟩ (by kernel_rfl) rfl
    (fun f fn hf hfn => by
      obtain rfl : f = 3 := Option.some.inj ((show Tryz.prog.funcNamed "visor/visorlaw24.GuardTells" = some 3 by kernel_rfl).symm.trans hf) |>.symm
      obtain rfl : fn = Tryz.f3 := (Option.some.inj (Tryz.func3.symm.trans hfn)).symm
      exact ⟨by kernel_rfl, fun j t ht => by
        rw [Tryz.params3] at ht
        have hm : t ∈ [26] := by simpa using Array.mem_of_getElem? ht
        have hall : ([26].all fun u => !Tryz.prog.wantsStandIn u) = true := by kernel_rfl
        exact (show Tryz.prog.wantsStandIn t = false by simpa using List.all_eq_true.1 hall t hm)⟩)
    (by kernel_rfl)
#print axioms guardTells_card
end Go.Proofs.YtpjgpiieminaoaaGreatDoor
