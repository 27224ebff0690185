import Derived.Test.YtpjgpiieminaoaaDoorTie
import Derived.Test.YtpjgpiieminaoaaDoorCards
import Derived.Test.YtpjgpiieminaoaaDoorFsh
import Derived.Test.YtpjgpiieminaoaaDoorPgn
import Derived.Test.YtpjgpiieminaoaaDoorGen
import Derived.Test.YtpjgpiieminaoaaDoorWdg
import Derived.Test.YtpjgpiieminaoaaDoorAcv
import Derived.Test.YtpjgpiieminaoaaDoorGds
import Derived.Test.YtpjgpiieminaoaaDoorGun
import Derived.Test.YtpjgpiieminaoaaDoorGdf
/- GuardShows returns true whatever shares, words, number and masks it is given, with the program's table of pairs as its initialiser lays it. No condition else. -/
namespace Go.Proofs.YtpjgpiieminaoaaDoor
open Go.ChangeShapes Go.WideShapes Go.ChangeAt Go.RowKit Go.ChangeMaps

set_option maxRecDepth 100000 in
theorem guardShows_law (H : Type) (enc : TypeId × Value → H) : LawCoreL H enc Tryd.prog Rows.guardShowsRow.laid 3 [4, 23, 5, 24] := by
  intro W base args ds p hval hA hlt hfz hsz hL hsh
  rw [MakeChecks.laidMetH_plain _ _ _ (by kernel_rfl)] at hL
  obtain ⟨v0, vs0, d0, ds0, p0, q0, hargs, rfl, rfl, h0, r0⟩ := trodAll_cons hA
  obtain ⟨v1, vs1, d1, ds1, p1, q1, rfl, rfl, rfl, h1, r1⟩ := trodAll_cons r0
  obtain ⟨v2, vs2, d2, ds2, p2, q2, rfl, rfl, rfl, h2, r2⟩ := trodAll_cons r1
  obtain ⟨v3, vs3, d3, ds3, p3, q3, rfl, rfl, rfl, h3, r3⟩ := trodAll_cons r2
  obtain ⟨rfl, rfl, rfl⟩ := trodAll_nil r3
  obtain rfl : args = #[v0, v1, v2, v3] := by cases args; simp_all
  obtain ⟨t0, rfl, rfl, rfl⟩ := open_bool Tryd.underlying4 (hval 0 4 v0 rfl rfl) h0
  obtain ⟨f1, rfl, g1⟩ := wa_open (P := Tryd.prog) Tryd.underlying23 Tryd.underlying22 (by kernel_rfl) (by kernel_rfl) (hval 1 23 v1 rfl rfl) h1
  obtain ⟨x2, rfl, rfl, rfl, w2⟩ := open_int Tryd.underlying5 (hval 2 5 v2 rfl rfl) h2
  obtain ⟨b21, b22⟩ := bounds_u8 w2
  obtain ⟨y2, rfl⟩ := Int.eq_ofNat_of_zero_le b21
  have c2 : y2 < 256 := by omega
  obtain ⟨f3, rfl, g3⟩ := wa_open (P := Tryd.prog) Tryd.underlying24 Tryd.underlying22 (by kernel_rfl) (by kernel_rfl) (hval 3 24 v3 rfl rfl) h3
  have hx : ∀ i, (fun i => if i < 8 then f1 i else 0) i < 2 ^ 64 := fun i => by
    show (if i < 8 then f1 i else 0) < 2 ^ 64
    split
    · exact g1 i (by assumption)
    · exact Nat.two_pow_pos 64
  have hw : wa 8 f1 = wa 8 (fun i => if i < 8 then f1 i else 0) := rfl
  rw [hw]
  cases t0
  · exact gshows_core pmach pmachn guardI false 2 (.inl ⟨rfl, rfl⟩) _ hx y2 c2 f3 g3 W (pv_of hL)
  · exact gshows_core pmach pmachn guardI true 3 (.inr ⟨rfl, rfl⟩) _ hx y2 c2 f3 g3 W (pv_of hL)

set_option maxRecDepth 100000 in
theorem guardShows_lifted (os : Os) (started : os.Started) (H : Type) (enc : TypeId × Value → H) :
    ReturnsInHanded {} Tryd.checked os 3 .any (fun w args => (Rows.guardShowsSpec.pre enc Tryd.prog Tryd.f3 Rows.guardShowsRow.domain false w args ∧ laidMetH Tryd.prog Rows.guardShowsRow.laid w) ∧ sizedMet enc Tryd.prog Tryd.f3 (OpenSpec.ofChange Rows.guardShowsSpec) false w args) (Rows.guardShowsSpec.post enc Tryd.prog Tryd.f3 false true false false) :=
  law_lifted_laid (C := Tryd.checked) own started (by kernel_rfl) Tryd.func3
    (ChangeSpec.witness_shaped (enc := enc) (C := Tryd.checked) (os := os) (X := fun w _ => laidMetH Tryd.prog Rows.guardShowsRow.laid w) false (World.laidAll Tryd.prog os Rows.guardShowsRow.laid) #[.bool false, .agg (wa 8 (fun _ => 0)), .int .u8 0, .agg (wa 24 (fun _ => 0))] 8 (World.laidAll_os _ _ _)
      (World.shaped_of_ZipB (by kernel_rfl) (by kernel_rfl)) (by kernel_rfl) (by kernel_rfl) (by kernel_rfl)
      (by rw [MakeChecks.laidMetH_plain _ _ _ (by kernel_rfl)]; exact laidMet_laidAll _ (by kernel_rfl) (by kernel_rfl)))
    laidOut (of_decide_eq_true (by kernel_rfl)) rfl Tryd.underlying4 rfl
    (fun ds hd => match ds, hd with | [_, _, _, _], _ => rfl) (guardShows_law H enc)

theorem guardShows_holds : Rows.GuardShowsSaid :=
  OpenClaim.holds_of_wide 3 Tryd.f3 rfl rfl rfl rfl rfl rfl rfl ⟨rfl, rfl, rfl, rfl, rfl⟩ rfl rfl rfl rfl rfl (by kernel_rfl) Tryd.func3 (by kernel_rfl)
    (of_decide_eq_true (by kernel_rfl)) (by unfold Func.isWrapper; first | (rw [if_pos (by decide +kernel)]; kernel_rfl) | (rw [if_neg (by decide +kernel)]; exact ⟨rfl, rfl⟩))
    (fun os started H enc _ => guardShows_lifted os started H enc)
theorem guardShows_card : Rows.GuardShowsCardSaid :=
  Claim7.holds_tied_plain_at .later [] [.data] true (true, "5a1fbdb9c4b092a0660fdc3d7c85916a1f9b87f30984d7d20eaf3435e3753a66") false guardShows_holds (fun _ h => by cases h) (by kernel_rfl) (fun _ h => by cases h) guardShows_row_tie rfl ⟨rfl, rfl⟩ (by kernel_rfl) rfl
    (fun f fn hf hfn => by
      obtain rfl : f = 3 := Option.some.inj ((show Tryd.prog.funcNamed "visor/visorlaw24.GuardShows" = some 3 by kernel_rfl).symm.trans hf) |>.symm
      obtain rfl : fn = Tryd.f3 := (Option.some.inj (Tryd.func3.symm.trans hfn)).symm
      exact ⟨by kernel_rfl, fun j t ht => by
        rw [Tryd.params3] at ht
        have hm : t ∈ [4, 23, 5, 24] := by simpa using Array.mem_of_getElem? ht
        have hall : ([4, 23, 5, 24].all fun u => !Tryd.prog.wantsStandIn u) = true := by kernel_rfl
        exact (show Tryd.prog.wantsStandIn t = false by simpa using List.all_eq_true.1 hall t hm)⟩)
    (by kernel_rfl)
#print axioms guardShows_card
end Go.Proofs.YtpjgpiieminaoaaDoor
