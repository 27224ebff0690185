/- FreshEven returns true whatever shares, bits and share left out it is given, with the program's table of pairs as its initialiser lays it. No condition else. -/
import Derived.Test.YtinihebnajaejaaDoorTie
import Derived.Test.YtinihebnajaejaaDoorCards
import Derived.Test.YtinihebnajaejaaDoorMgaj
import Derived.Test.YtinihebnajaejaaDoorMgan
import Derived.Test.YtinihebnajaejaaDoorMgao
import Derived.Test.YtinihebnajaejaaDoorMgau
namespace Go.Proofs.YtinihebnajaejaaDoor
open Go.ChangeShapes Go.WideShapes Go.ChangeAt Go.RowKit Go.ChangeMaps

set_option maxRecDepth 100000 in
theorem freshEven_law (H : Type) (enc : TypeId × Value → H) : LawCoreL H enc Tryd.prog Rows.freshEvenRow.laid 4 [4, 5, 5] := by
  intro W base args ds p hval hA hlt hfz hsz hL hsh
  rw [MakeChecks.laidMetH_plain _ _ _ (by kernel_rfl)] at hL
  obtain ⟨v0, vs0, d0, ds0, p0, q0, hargs, rfl, rfl, h0, r0⟩ := trodAll_cons hA
  obtain ⟨v1, vs1, d1, ds1, p1, q1, rfl, rfl, rfl, h1, r1⟩ := trodAll_cons r0
  obtain ⟨v2, vs2, d2, ds2, p2, q2, rfl, rfl, rfl, h2, r2⟩ := trodAll_cons r1
  obtain ⟨rfl, rfl, rfl⟩ := trodAll_nil r2
  obtain rfl : args = #[v0, v1, v2] := by cases args; simp_all
  obtain ⟨t0, rfl, rfl, rfl⟩ := open_bool Tryd.underlying4 (hval 0 4 v0 rfl rfl) h0
  obtain ⟨x1, rfl, rfl, rfl, w1⟩ := open_int Tryd.underlying5 (hval 1 5 v1 rfl rfl) h1
  obtain ⟨b11, b12⟩ := bounds_u8 w1
  obtain ⟨y1, rfl⟩ := Int.eq_ofNat_of_zero_le b11
  have c1 : y1 < 256 := by omega
  obtain ⟨x2, rfl, rfl, rfl, w2⟩ := open_int Tryd.underlying5 (hval 2 5 v2 rfl rfl) h2
  obtain ⟨b21, b22⟩ := bounds_u8 w2
  obtain ⟨y2, rfl⟩ := Int.eq_ofNat_of_zero_le b21
  have c2 : y2 < 256 := by omega
  cases t0
  · exact feven2_core pmach pmachn y1 y2 c1 c2 W (pv_of hL)
  · exact feven3_core pmach pmachn y1 y2 c1 c2 W (pv_of hL)

set_option maxRecDepth 100000 in
theorem freshEven_lifted (os : Os) (started : os.Started) (H : Type) (enc : TypeId × Value → H) :
    ReturnsInHanded {} Tryd.checked os 4 .any (fun w args => (Rows.freshEvenSpec.pre enc Tryd.prog Tryd.f4 Rows.freshEvenRow.domain false w args ∧ laidMetH Tryd.prog Rows.freshEvenRow.laid w) ∧ sizedMet enc Tryd.prog Tryd.f4 (OpenSpec.ofChange Rows.freshEvenSpec) false w args) (Rows.freshEvenSpec.post enc Tryd.prog Tryd.f4 false true false false) :=
  law_lifted_laid (C := Tryd.checked) own started (by kernel_rfl) Tryd.func4
    (ChangeSpec.witness_shaped (enc := enc) (C := Tryd.checked) (os := os) (X := fun w _ => laidMetH Tryd.prog Rows.freshEvenRow.laid w) false (World.laidAll Tryd.prog os Rows.freshEvenRow.laid) #[.bool false, .int .u8 0, .int .u8 0] 8 (World.laidAll_os _ _ _)
      (World.shaped_of_ZipB (by kernel_rfl) (by kernel_rfl)) (by kernel_rfl) (by kernel_rfl) (by kernel_rfl)
      (by rw [MakeChecks.laidMetH_plain _ _ _ (by kernel_rfl)]; exact laidMet_laidAll _ (by kernel_rfl) (by kernel_rfl)))
    laidOut (of_decide_eq_true (by kernel_rfl)) rfl Tryd.underlying4 rfl
    (fun ds hd => match ds, hd with | [_, _, _], _ => rfl) (freshEven_law H enc)

theorem freshEven_holds : Rows.FreshEvenSaid :=
  OpenClaim.holds_of_wide 4 Tryd.f4 rfl rfl rfl rfl rfl rfl rfl ⟨rfl, rfl, rfl, rfl, rfl⟩ rfl rfl rfl rfl rfl (by kernel_rfl) Tryd.func4 (by kernel_rfl)
    (of_decide_eq_true (by kernel_rfl)) (by unfold Func.isWrapper; first | (rw [if_pos (by decide +kernel)]; kernel_rfl) | (rw [if_neg (by decide +kernel)]; exact ⟨rfl, rfl⟩))
    (fun os started H enc _ => freshEven_lifted os started H enc)
theorem freshEven_card : Rows.FreshEvenCardSaid :=
  Claim7.holds_tied_plain_at .later [] [.data] true (true, "93fd4296334016c7827c15a9aaaf6046ebc74a27cf14cd152e4e0af7fec91d8a") false freshEven_holds (fun _ h => by cases h) (by kernel_rfl) (fun _ h => by cases h) freshEven_row_tie rfl ⟨rfl, rfl⟩ (by kernel_rfl) rfl
    (fun f fn hf hfn => by
      obtain rfl : f = 4 := Option.some.inj ((show Tryd.prog.funcNamed "visor/visorlaw21.FreshEven" = some 4 by kernel_rfl).symm.trans hf) |>.symm
      obtain rfl : fn = Tryd.f4 := (Option.some.inj (Tryd.func4.symm.trans hfn)).symm
      exact ⟨by kernel_rfl, fun j t ht => by
        rw [Tryd.params4] at ht
        have hm : t ∈ [4, 5, 5] := by simpa using Array.mem_of_getElem? ht
        have hall : ([4, 5, 5].all fun u => !Tryd.prog.wantsStandIn u) = true := by kernel_rfl
        exact (show Tryd.prog.wantsStandIn t = false by simpa using List.all_eq_true.1 hall t hm)⟩)
    (by kernel_rfl)
#print axioms freshEven_card
end Go.Proofs.YtinihebnajaejaaDoor
