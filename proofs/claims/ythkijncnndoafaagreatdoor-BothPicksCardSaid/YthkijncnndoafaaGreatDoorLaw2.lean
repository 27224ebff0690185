import Derived.Test.YthkijncnndoafaaGreatDoorTie
import Derived.Test.YthkijncnndoafaaGreatDoorCards
import Derived.Test.YthkijncnndoafaaGreatDoorFrp
import Derived.Test.YthkijncnndoafaaGreatDoorGen
import Derived.Test.YthkijncnndoafaaGreatDoorGenB
import Derived.Test.YthkijncnndoafaaGreatDoorShp
import Derived.Test.YthkijncnndoafaaGreatDoorWlm
import Derived.Test.YthkijncnndoafaaGreatDoorAcw
import Derived.Test.YthkijncnndoafaaGreatDoorWdg
import Derived.Test.YthkijncnndoafaaGreatDoorOcb
import Derived.Test.YthkijncnndoafaaGreatDoorWde
import Derived.Test.YthkijncnndoafaaGreatDoorPgn
import Derived.Test.YthkijncnndoafaaGreatDoorPgm
import Derived.Test.YthkijncnndoafaaGreatDoorRcl
import Derived.Test.YthkijncnndoafaaGreatDoorSgw
import Derived.Test.YthkijncnndoafaaGreatDoorBtf
import Derived.Test.YthkijncnndoafaaGreatDoorBthB
import Derived.Test.YthkijncnndoafaaGreatDoorArwB
/- BothPicks returns true whatever shares, kind, words and masks it is given, with the program's table of pairs as its initialiser lays it. No condition else. -/
namespace Go.Proofs.YthkijncnndoafaaGreatDoor
open Go.ChangeShapes Go.WideShapes Go.ChangeAt Go.RowKit Go.ChangeMaps

set_option maxRecDepth 100000 in
theorem bothPicks_law (H : Type) (enc : TypeId × Value → H) : LawCoreL H enc Tryz.prog Rows.bothPicksRow.laid 4 [4, 3, 58, 22] := by
 intro W base args ds p hval hA hlt hfz hsz hL hsh
 rw [MakeChecks.laidMetH_plain _ _ _ (by kernel_rfl)] at hL
 obtain ⟨v0, vs0, d0, ds0, p0, q0, hargs, rfl, rfl, h0, r0⟩ := trodAll_cons hA
 obtain ⟨v1, vs1, d1, ds1, p1, q1, rfl, rfl, rfl, h1, r1⟩ := trodAll_cons r0
 obtain ⟨v2, vs2, d2, ds2, p2, q2, rfl, rfl, rfl, h2, r2⟩ := trodAll_cons r1
 obtain ⟨v3, vs3, d3, ds3, p3, q3, rfl, rfl, rfl, h3, r3⟩ := trodAll_cons r2
 obtain ⟨rfl, rfl, rfl⟩ := trodAll_nil r3
 obtain rfl : args = #[v0, v1, v2, v3] := by cases args; simp_all
 obtain ⟨t0, rfl, rfl, rfl⟩ := open_bool Tryz.underlying4 (hval 0 4 v0 rfl rfl) h0
 obtain ⟨x1, rfl, rfl, rfl, w1⟩ := open_int Tryz.underlying3 (hval 1 3 v1 rfl rfl) h1
 have i1 := bounds_i64 w1
 obtain ⟨f2, rfl, g2⟩ := wa_open (P := Tryz.prog) Tryz.underlying58 Tryz.underlying34 (by kernel_rfl) (by kernel_rfl) (hval 2 58 v2 rfl rfl) h2
 obtain ⟨T3, N3, R3, B3, M3⟩ := words_open (P := Tryz.prog) Tryz.underlying22 Tryz.underlying34 (by kernel_rfl) (by kernel_rfl) (hval 3 22 v3 rfl rfl) h3 (fun x hx => hlt x (by simp [hx])) hsz (j := 3) rfl rfl
 have hx : ∀ i, (fun i => if i < 3 then f2 i else 0) i < 2 ^ 64 := fun i => by
  show (if i < 3 then f2 i else 0) < 2 ^ 64
  split
  · exact g2 i (by assumption)
  · exact Nat.two_pow_pos 64
 cases t0
 · exact bpicks_core pmach pmachn false 2 (.inl ⟨rfl, rfl⟩) x1 i1 _ hx v3 T3 N3 W R3 B3 M3 (pv_of hL)
 · exact bpicks_core pmach pmachn true 3 (.inr ⟨rfl, rfl⟩) x1 i1 _ hx v3 T3 N3 W R3 B3 M3 (pv_of hL)

set_option maxRecDepth 100000 in
theorem bothPicks_lifted (os : Os) (started : os.Started) (H : Type) (enc : TypeId × Value → H) :
  ReturnsInHanded {} Tryz.checked os 4 .any (fun w args => (Rows.bothPicksSpec.pre enc Tryz.prog Tryz.f4 Rows.bothPicksRow.domain false w args ∧ laidMetH Tryz.prog Rows.bothPicksRow.laid w) ∧ sizedMet enc Tryz.prog Tryz.f4 (OpenSpec.ofChange Rows.bothPicksSpec) false w args) (Rows.bothPicksSpec.post enc Tryz.prog Tryz.f4 false true false false) :=
 law_lifted_laid (C := Tryz.checked) own started (by kernel_rfl) Tryz.func4
  (ChangeSpec.witness_shaped (enc := enc) (C := Tryz.checked) (os := os) (X := fun w _ => laidMetH Tryz.prog Rows.bothPicksRow.laid w) false (World.laidAll Tryz.prog os Rows.bothPicksRow.laid) #[.bool false, .int .i64 0, .agg (wa 3 (fun _ => 0)), .slice none 0 0] 8 (World.laidAll_os _ _ _)
   (World.shaped_of_ZipB (by kernel_rfl) (by kernel_rfl)) (by kernel_rfl) (by kernel_rfl) (by kernel_rfl)
   (by rw [MakeChecks.laidMetH_plain _ _ _ (by kernel_rfl)]; exact laidMet_laidAll _ (by kernel_rfl) (by kernel_rfl)))
  laidOut (of_decide_eq_true (by kernel_rfl)) rfl Tryz.underlying4 rfl
  (fun ds hd => match ds, hd with | [_, _, _, _], _ => rfl) (bothPicks_law H enc)

theorem bothPicks_holds : Rows.BothPicksSaid :=
 OpenClaim.holds_of_wide 4 Tryz.f4 rfl rfl rfl rfl rfl rfl rfl ⟨rfl, rfl, rfl, rfl, rfl⟩ rfl rfl rfl rfl rfl (by kernel_rfl) Tryz.func4 (by kernel_rfl)
  (of_decide_eq_true (by kernel_rfl)) (by unfold Func.isWrapper; first | (rw [if_pos (by decide +kernel)]; kernel_rfl) | (rw [if_neg (by decide +kernel)]; exact ⟨rfl, rfl⟩))
  (fun os started H enc _ => bothPicks_lifted os started H enc)
theorem bothPicks_card : Rows.BothPicksCardSaid :=
 Claim7.holds_tied_plain_at .later [] [.data] true (true, "cdb08fe31649e9eca81a214a4730319622dca9b47027c46a3e492e4a73e4b92c") false bothPicks_holds (fun _ h => by cases h) (by kernel_rfl) (fun _ h => by cases h) bothPicks_row_tie rfl ⟨rfl, rfl⟩ (by kernel_rfl) rfl
  (fun f fn hf hfn => by
   obtain rfl : f = 4 := Option.some.inj ((show Tryz.prog.funcNamed "visor/visorlaw23.BothPicks" = some 4 by kernel_rfl).symm.trans hf) |>.symm
   obtain rfl : fn = Tryz.f4 := (Option.some.inj (Tryz.func4.symm.trans hfn)).symm
   exact ⟨by kernel_rfl, fun j t ht => by
    rw [Tryz.params4] at ht
    have hm : t ∈ [4, 3, 58, 22] := by simpa using Array.mem_of_getElem? ht
    have hall : ([4, 3, 58, 22].all fun u => !Tryz.prog.wantsStandIn u) = true := by kernel_rfl
    exact (show Tryz.prog.wantsStandIn t = false by simpa using List.all_eq_true.1 hall t hm)⟩)
  (by kernel_rfl)
#print axioms bothPicks_card
end Go.Proofs.YthkijncnndoafaaGreatDoor
