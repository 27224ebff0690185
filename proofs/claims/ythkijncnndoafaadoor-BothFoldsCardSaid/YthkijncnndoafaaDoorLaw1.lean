import Derived.Test.YthkijncnndoafaaDoorTie
import Derived.Test.YthkijncnndoafaaDoorCards
import Derived.Test.YthkijncnndoafaaDoorFrg
import Derived.Test.YthkijncnndoafaaDoorPgn
import Derived.Test.YthkijncnndoafaaDoorGen
import Derived.Test.YthkijncnndoafaaDoorWif
import Derived.Test.YthkijncnndoafaaDoorAcv
import Derived.Test.YthkijncnndoafaaDoorBtk
import Derived.Test.YthkijncnndoafaaDoorBtf
/- BothFolds returns true whatever shares, kind, word, width and masks it is given, with the program's table of pairs as its initialiser lays it. No condition else. -/
namespace Go.Proofs.YthkijncnndoafaaDoor
open Go.ChangeShapes Go.WideShapes Go.ChangeAt Go.RowKit Go.ChangeMaps

set_option maxRecDepth 100000 in
theorem bothFolds_law (H : Type) (enc : TypeId × Value → H) : LawCoreL H enc Tryd.prog Rows.bothFoldsRow.laid 3 [4, 3, 22, 5, 23] := by
  intro W base args ds p hval hA hlt hfz hsz hL hsh
  rw [MakeChecks.laidMetH_plain _ _ _ (by kernel_rfl)] at hL
  obtain ⟨v0, vs0, d0, ds0, p0, q0, hargs, rfl, rfl, h0, r0⟩ := trodAll_cons hA
  obtain ⟨v1, vs1, d1, ds1, p1, q1, rfl, rfl, rfl, h1, r1⟩ := trodAll_cons r0
  obtain ⟨v2, vs2, d2, ds2, p2, q2, rfl, rfl, rfl, h2, r2⟩ := trodAll_cons r1
  obtain ⟨v3, vs3, d3, ds3, p3, q3, rfl, rfl, rfl, h3, r3⟩ := trodAll_cons r2
  obtain ⟨v4, vs4, d4, ds4, p4, q4, rfl, rfl, rfl, h4, r4⟩ := trodAll_cons r3
  obtain ⟨rfl, rfl, rfl⟩ := trodAll_nil r4
  obtain rfl : args = #[v0, v1, v2, v3, v4] := by cases args; simp_all
  obtain ⟨t0, rfl, rfl, rfl⟩ := open_bool Tryd.underlying4 (hval 0 4 v0 rfl rfl) h0
  obtain ⟨x1, rfl, rfl, rfl, w1⟩ := open_int Tryd.underlying3 (hval 1 3 v1 rfl rfl) h1
  have i1 := bounds_i64 w1
  obtain ⟨x2, rfl, rfl, rfl, w2⟩ := open_int Tryd.underlying22 (hval 2 22 v2 rfl rfl) h2
  obtain ⟨b21, b22⟩ := bounds_u64 w2
  obtain ⟨y2, rfl⟩ := Int.eq_ofNat_of_zero_le b21
  have c2 : y2 < 2 ^ 64 := by omega
  obtain ⟨x3, rfl, rfl, rfl, w3⟩ := open_int Tryd.underlying5 (hval 3 5 v3 rfl rfl) h3
  obtain ⟨b31, b32⟩ := bounds_u8 w3
  obtain ⟨y3, rfl⟩ := Int.eq_ofNat_of_zero_le b31
  have c3 : y3 < 256 := by omega
  obtain ⟨f4, rfl, g4⟩ := wa_open (P := Tryd.prog) Tryd.underlying23 Tryd.underlying22 (by kernel_rfl) (by kernel_rfl) (hval 4 23 v4 rfl rfl) h4
  have h6 : y3 % 6 = 0 ∨ y3 % 6 = 1 ∨ y3 % 6 = 2 ∨ y3 % 6 = 3 ∨ y3 % 6 = 4 ∨ y3 % 6 = 5 := by omega
  cases t0
  · rcases h6 with h | h | h | h | h | h
    · exact bfolds2_1 pmach pmachn x1 i1 y2 c2 y3 c3 h f4 g4 W (pv_of hL)
    · exact bfolds2_2 pmach pmachn x1 i1 y2 c2 y3 c3 h f4 g4 W (pv_of hL)
    · exact bfolds2_3 pmach pmachn x1 i1 y2 c2 y3 c3 h f4 g4 W (pv_of hL)
    · exact bfolds2_4 pmach pmachn x1 i1 y2 c2 y3 c3 h f4 g4 W (pv_of hL)
    · exact bfolds2_5 pmach pmachn x1 i1 y2 c2 y3 c3 h f4 g4 W (pv_of hL)
    · exact bfolds2_6 pmach pmachn x1 i1 y2 c2 y3 c3 h f4 g4 W (pv_of hL)
  · rcases h6 with h | h | h | h | h | h
    · exact bfolds3_1 pmach pmachn x1 i1 y2 c2 y3 c3 h f4 g4 W (pv_of hL)
    · exact bfolds3_2 pmach pmachn x1 i1 y2 c2 y3 c3 h f4 g4 W (pv_of hL)
    · exact bfolds3_3 pmach pmachn x1 i1 y2 c2 y3 c3 h f4 g4 W (pv_of hL)
    · exact bfolds3_4 pmach pmachn x1 i1 y2 c2 y3 c3 h f4 g4 W (pv_of hL)
    · exact bfolds3_5 pmach pmachn x1 i1 y2 c2 y3 c3 h f4 g4 W (pv_of hL)
    · exact bfolds3_6 pmach pmachn x1 i1 y2 c2 y3 c3 h f4 g4 W (pv_of hL)

set_option maxRecDepth 100000 in
theorem bothFolds_lifted (os : Os) (started : os.Started) (H : Type) (enc : TypeId × Value → H) :
    ReturnsInHanded {} Tryd.checked os 3 .any (fun w args => (Rows.bothFoldsSpec.pre enc Tryd.prog Tryd.f3 Rows.bothFoldsRow.domain false w args ∧ laidMetH Tryd.prog Rows.bothFoldsRow.laid w) ∧ sizedMet enc Tryd.prog Tryd.f3 (OpenSpec.ofChange Rows.bothFoldsSpec) false w args) (Rows.bothFoldsSpec.post enc Tryd.prog Tryd.f3 false true false false) :=
  law_lifted_laid (C := Tryd.checked) own started (by kernel_rfl) Tryd.func3
    (ChangeSpec.witness_shaped (enc := enc) (C := Tryd.checked) (os := os) (X := fun w _ => laidMetH Tryd.prog Rows.bothFoldsRow.laid w) false (World.laidAll Tryd.prog os Rows.bothFoldsRow.laid) #[.bool false, .int .i64 0, .int .u64 0, .int .u8 0, .agg (wa 40 (fun _ => 0))] 8 (World.laidAll_os _ _ _)
      (World.shaped_of_ZipB (by kernel_rfl) (by kernel_rfl)) (by kernel_rfl) (by kernel_rfl) (by kernel_rfl)
      (by rw [MakeChecks.laidMetH_plain _ _ _ (by kernel_rfl)]; exact laidMet_laidAll _ (by kernel_rfl) (by kernel_rfl)))
    laidOut (of_decide_eq_true (by kernel_rfl)) rfl Tryd.underlying4 rfl
    (fun ds hd => match ds, hd with | [_, _, _, _, _], _ => rfl) (bothFolds_law H enc)

theorem bothFolds_holds : Rows.BothFoldsSaid :=
  OpenClaim.holds_of_wide 3 Tryd.f3 rfl rfl rfl rfl rfl rfl rfl ⟨rfl, rfl, rfl, rfl, rfl⟩ rfl rfl rfl rfl rfl (by kernel_rfl) Tryd.func3 (by kernel_rfl)
    (of_decide_eq_true (by kernel_rfl)) (by unfold Func.isWrapper; first | (rw [if_pos (by decide +kernel)]; kernel_rfl) | (rw [if_neg (by decide +kernel)]; exact ⟨rfl, rfl⟩))
    (fun os started H enc _ => bothFolds_lifted os started H enc)
theorem bothFolds_card : Rows.BothFoldsCardSaid :=
  Claim7.holds_tied_plain_at .later [] [.data] true (true, "9ccddbb2260f534d7ab374a00354d340b2e49bc40afe7f538cfb1d2f96a7d8a9") false bothFolds_holds (fun _ h => by cases h) (by kernel_rfl) (fun _ h => by cases h) bothFolds_row_tie rfl ⟨rfl, rfl⟩ (by kernel_rfl) rfl
    (fun f fn hf hfn => by
      obtain rfl : f = 3 := Option.some.inj ((show Tryd.prog.funcNamed "visor/visorlaw23.BothFolds" = some 3 by kernel_rfl).symm.trans hf) |>.symm
      obtain rfl : fn = Tryd.f3 := (Option.some.inj (Tryd.func3.symm.trans hfn)).symm
      exact ⟨by kernel_rfl, fun j t ht => by
        rw [Tryd.params3] at ht
        have hm : t ∈ [4, 3, 22, 5, 23] := by simpa using Array.mem_of_getElem? ht
        have hall : ([4, 3, 22, 5, 23].all fun u => !Tryd.prog.wantsStandIn u) = true := by kernel_rfl
        exact (show Tryd.prog.wantsStandIn t = false by simpa using List.all_eq_true.1 hall t hm)⟩)
    (by kernel_rfl)
#print axioms bothFolds_card
end Go.Proofs.YthkijncnndoafaaDoor
