/- FreshTells returns true whatever shares, word and masks it is given, with the program's table of pairs as its initialiser lays it. No condition else. -/
import Derived.Test.YtinihebnajaejaaDoorTie
import Derived.Test.YtinihebnajaejaaDoorCards
import Derived.Test.YtinihebnajaejaaDoorMgaj
import Derived.Test.YtinihebnajaejaaDoorMgan
import Derived.Test.YtinihebnajaejaaDoorMgao
import Derived.Test.YtinihebnajaejaaDoorMgar
namespace Go.Proofs.YtinihebnajaejaaDoor
open Go.ChangeShapes Go.WideShapes Go.ChangeAt Go.RowKit Go.ChangeMaps

set_option maxRecDepth 100000 in
theorem freshTells_law (H : Type) (enc : TypeId × Value → H) : LawCoreL H enc Tryd.prog Rows.freshTellsRow.laid 3 [4, 22, 23, 4] := by
  intro W base args ds p hval hA hlt hfz hsz hL hsh
  rw [MakeChecks.laidMetH_plain _ _ _ (by kernel_rfl)] at hL
  obtain ⟨v0, vs0, d0, ds0, p0, q0, hargs, rfl, rfl, h0, r0⟩ := trodAll_cons hA
  obtain ⟨v1, vs1, d1, ds1, p1, q1, rfl, rfl, rfl, h1, r1⟩ := trodAll_cons r0
  obtain ⟨v2, vs2, d2, ds2, p2, q2, rfl, rfl, rfl, h2, r2⟩ := trodAll_cons r1
  obtain ⟨v3, vs3, d3, ds3, p3, q3, rfl, rfl, rfl, h3, r3⟩ := trodAll_cons r2
  obtain ⟨rfl, rfl, rfl⟩ := trodAll_nil r3
  obtain rfl : args = #[v0, v1, v2, v3] := by cases args; simp_all
  obtain ⟨t0, rfl, rfl, rfl⟩ := open_bool Tryd.underlying4 (hval 0 4 v0 rfl rfl) h0
  obtain ⟨x1, rfl, rfl, rfl, w1⟩ := open_int Tryd.underlying22 (hval 1 22 v1 rfl rfl) h1
  obtain ⟨b11, b12⟩ := bounds_u64 w1
  obtain ⟨y1, rfl⟩ := Int.eq_ofNat_of_zero_le b11
  have c1 : y1 < 2 ^ 64 := by omega
  obtain ⟨T2, N2, R2, B2, M2⟩ := words_open (P := Tryd.prog) Tryd.underlying23 Tryd.underlying22 (by kernel_rfl) (by kernel_rfl) (hval 2 23 v2 rfl rfl) h2 (fun x hx => hlt x (by simp [hx])) hsz (j := 2) rfl rfl
  obtain ⟨t3, rfl, rfl, rfl⟩ := open_bool Tryd.underlying4 (hval 3 4 v3 rfl rfl) h3
  exact ftells_core pmach pmachn t0 y1 c1 v2 T2 N2 t3 W (pv_of hL) R2 B2 M2

set_option maxRecDepth 100000 in
theorem freshTells_lifted (os : Os) (started : os.Started) (H : Type) (enc : TypeId × Value → H) :
    ReturnsInHanded {} Tryd.checked os 3 .any (fun w args => (Rows.freshTellsSpec.pre enc Tryd.prog Tryd.f3 Rows.freshTellsRow.domain false w args ∧ laidMetH Tryd.prog Rows.freshTellsRow.laid w) ∧ sizedMet enc Tryd.prog Tryd.f3 (OpenSpec.ofChange Rows.freshTellsSpec) false w args) (Rows.freshTellsSpec.post enc Tryd.prog Tryd.f3 false true false false) :=
  law_lifted_laid (C := Tryd.checked) own started (by kernel_rfl) Tryd.func3
    (ChangeSpec.witness_shaped (enc := enc) (C := Tryd.checked) (os := os) (X := fun w _ => laidMetH Tryd.prog Rows.freshTellsRow.laid w) false (World.laidAll Tryd.prog os Rows.freshTellsRow.laid) #[.bool false, .int .u64 0, .slice none 0 0, .bool false] 8 (World.laidAll_os _ _ _)
      (World.shaped_of_ZipB (by kernel_rfl) (by kernel_rfl)) (by kernel_rfl) (by kernel_rfl) (by kernel_rfl)
      (by rw [MakeChecks.laidMetH_plain _ _ _ (by kernel_rfl)]; exact laidMet_laidAll _ (by kernel_rfl) (by kernel_rfl)))
    laidOut (of_decide_eq_true (by kernel_rfl)) rfl Tryd.underlying4 rfl
    (fun ds hd => match ds, hd with | [_, _, _, _], _ => rfl) (freshTells_law H enc)

theorem freshTells_holds : Rows.FreshTellsSaid :=
  OpenClaim.holds_of_wide 3 Tryd.f3 rfl rfl rfl rfl rfl rfl rfl ⟨rfl, rfl, rfl, rfl, rfl⟩ rfl rfl rfl rfl rfl (by kernel_rfl) Tryd.func3 (by kernel_rfl)
    (of_decide_eq_true (by kernel_rfl)) (by unfold Func.isWrapper; first | (rw [if_pos (by decide +kernel)]; kernel_rfl) | (rw [if_neg (by decide +kernel)]; exact ⟨rfl, rfl⟩))
    (fun os started H enc _ => freshTells_lifted os started H enc)
theorem freshTells_card : Rows.FreshTellsCardSaid :=
  Claim7.holds_tied_plain_at .later [] [.data] true (true, "93fd4296334016c7827c15a9aaaf6046ebc74a27cf14cd152e4e0af7fec91d8a") false freshTells_holds (fun _ h => by cases h) (by kernel_rfl) (fun _ h => by cases h) freshTells_row_tie rfl ⟨rfl, rfl⟩ (by kernel_rfl) rfl
    (fun f fn hf hfn => by
      obtain rfl : f = 3 := Option.some.inj ((show Tryd.prog.funcNamed "visor/visorlaw21.FreshTells" = some 3 by kernel_rfl).symm.trans hf) |>.symm
      obtain rfl : fn = Tryd.f3 := (Option.some.inj (Tryd.func3.symm.trans hfn)).symm
      exact ⟨by kernel_rfl, fun j t ht => by
        rw [Tryd.params3] at ht
        have hm : t ∈ [4, 22, 23, 4] := by simpa using Array.mem_of_getElem? ht
        have hall : ([4, 22, 23, 4].all fun u => !Tryd.prog.wantsStandIn u) = true := by kernel_rfl
        exact (show Tryd.prog.wantsStandIn t = false by simpa using List.all_eq_true.1 hall t hm)⟩)
    (by kernel_rfl)
#print axioms freshTells_card
end Go.Proofs.YtinihebnajaejaaDoor
