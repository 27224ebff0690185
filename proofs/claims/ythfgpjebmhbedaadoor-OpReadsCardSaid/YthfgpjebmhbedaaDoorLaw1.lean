/- OpReads returns true whatever op and text it is given, with the package-level variables of Go's library as their initialisers lay them. No condition else. -/
import Derived.Test.YthfgpjebmhbedaaDoorTie
import Derived.Test.YthfgpjebmhbedaaDoorCards
import Derived.Test.YthfgpjebmhbedaaDoorOqs
import Derived.Test.YthfgpjebmhbedaaDoorOps
import Derived.Test.YthfgpjebmhbedaaDoorLad
import Derived.Test.YthfgpjebmhbedaaDoorPas
import Derived.Stop.LaidErr
import Derived.Lib.LaidTab
import Derived.Lay
import Derived.ChangeMaps5
import Derived.SevenTiedAt
namespace Go.Proofs.YthfgpjebmhbedaaDoor
open Go.ChangeShapes Go.WideShapes Go.ChangeAt Go.RowKit Go.ChangeMaps

theorem var_iface {P : Program} {n nm : String} {d : DataW Unit} {r : List (String × DataW Unit)} {W : World} {g : Nat} {ti : TypeId} {ms : Array (String × TypeId)} (h : laidMet P ((n, .iface nm d) :: r) W)
    (hg : P.globalNamed n = some g) (ht : (P.globals[g]?).map (·.type) = some ti) (hi : P.underlying ti = some (.interface ms)) : ∃ t p, W.cell? ⟨g, 0, none⟩ = some (.iface t p) := by
  obtain ⟨ps, ⟨g0, t0, cs0, f0, p0, q0, hg0, ht0, hv0, hd0, _, _⟩, _⟩ := h
  obtain rfl := Option.some.inj (hg.symm.trans hg0)
  obtain rfl := Option.some.inj (ht.symm.trans ht0)
  obtain ⟨l0⟩ := cs0
  cases f0 with
  | zero => simp [DataW.trod] at hd0
  | succ f =>
    match l0, hd0, hv0 with
    | [], hd0, _ => simp [DataW.trod, hi] at hd0
    | [x], hd0, hv0 =>
      have hc : W.cell? ⟨g, 0, none⟩ = some x := by simpa using World.var?_cell hg0 hv0 0
      cases x with
      | iface u v => exact ⟨u, v, hc⟩
      | _ => simp [DataW.trod, hi] at hd0
    | x :: y :: l, hd0, _ => simp [DataW.trod, hi] at hd0
theorem vp_laid (W : World) (hL : laidMetH Tryd.prog Rows.opReadsRow.laid W) (hsh : W.ShapedOpen Tryd.prog) : VP W := by
  rw [MakeChecks.laidMetH_plain _ _ _ (by kernel_rfl)] at hL
  refine ⟨Tryd.laysM147.s1_3 W hsh, ?_, ?_, ?_⟩
  · exact Lib.tabIs_of_head (g := 3) (t := 82) (e := 22) (n := 20) (by kernel_rfl) (by kernel_rfl) Tryd.underlying82 Tryd.underlying22 (by kernel_rfl) (by kernel_rfl) hL.tail.tail
  · exact var_iface (g := 0) (ti := 39) hL.tail.tail.tail.tail.tail (by kernel_rfl) (by kernel_rfl) Tryd.underlying39
  · exact var_iface (g := 1) (ti := 39) hL.tail.tail.tail.tail (by kernel_rfl) (by kernel_rfl) Tryd.underlying39

set_option maxRecDepth 100000 in
theorem oreads_law (H : Type) (enc : TypeId × Value → H) : LawCoreL H enc Tryd.prog Rows.opReadsRow.laid 3 [24, 9] := by
  intro W base args ds p hval hA hlt hfz hsz hL hsh
  obtain ⟨v0, vs0, d0, ds0, p0, q0, hargs, rfl, rfl, h0, r0⟩ := trodAll_cons hA
  obtain ⟨v1, vs1, d1, ds1, p1, q1, rfl, rfl, rfl, h1, r1⟩ := trodAll_cons r0
  obtain ⟨rfl, rfl, rfl⟩ := trodAll_nil r1
  obtain rfl : args = #[v0, v1] := by cases args; simp_all
  obtain ⟨K0, D0, A0, B0, E0, C0, rfl, W00, W01, W02, W03, W04, c0⟩ := op_open Tryd.underlying24 (by kernel_rfl) Tryd.underlying3 Tryd.underlying22 (by kernel_rfl) (by kernel_rfl) (by kernel_rfl) (hval 0 24 v0 rfl rfl) h0
  obtain ⟨s1, rfl, rfl, rfl, ws1⟩ := open_string Tryd.underlying9 (hval 1 9 v1 rfl rfl) h1
  exact oreads_core ⟨K0, D0, A0, B0, E0, C0⟩ s1 W (bounds_i64 W01) (bounds_i64 W02) (bounds_i64 W03) (bounds_i64 W04) c0 (fun s w hs hb => oparse_any s w ((vp_laid W hL hsh).self hb) hs) (fun w _ => opawake_any w)

theorem own : ownKnob Tryd.prog.godebug = none := by kernel_rfl
theorem laidOut : laidOutB Tryd.prog = true := by kernel_rfl

set_option maxRecDepth 100000 in
theorem oreads_lifted (os : Os) (started : os.Started) (H : Type) (enc : TypeId × Value → H) :
    ReturnsInHanded {} Tryd.checked os 3 .any (fun w args => (Rows.opReadsSpec.pre enc Tryd.prog Tryd.f3 Rows.opReadsRow.domain false w args ∧ laidMetH Tryd.prog Rows.opReadsRow.laid w) ∧ sizedMet enc Tryd.prog Tryd.f3 (OpenSpec.ofChange Rows.opReadsSpec) false w args) (Rows.opReadsSpec.post enc Tryd.prog Tryd.f3 false true false false) :=
  law_lifted_laid (C := Tryd.checked) own started (by kernel_rfl) Tryd.func3
    (ChangeSpec.witness_shaped (enc := enc) (C := Tryd.checked) (os := os) (X := fun w _ => laidMetH Tryd.prog Rows.opReadsRow.laid w) false (World.laidAll Tryd.prog os Rows.opReadsRow.laid) #[.agg #[.int .i64 0, .int .i64 0, .int .i64 0, .int .i64 0, .int .i64 0, .int .u64 0], .string ⟨#[]⟩] 8 (World.laidAll_os _ _ _)
      (World.shaped_of_ZipB (by kernel_rfl) (by kernel_rfl)) (by kernel_rfl) (by kernel_rfl) (by kernel_rfl)
      (by rw [MakeChecks.laidMetH_plain _ _ _ (by kernel_rfl)]; exact laidMet_laidAll _ (by kernel_rfl) (by kernel_rfl)))
    laidOut (of_decide_eq_true (by kernel_rfl)) rfl Tryd.underlying4 rfl
    (fun ds hd => match ds, hd with | [_, _], _ => rfl) (oreads_law H enc)

theorem opReads_holds : Rows.OpReadsSaid :=
  OpenClaim.holds_of_wide 3 Tryd.f3 rfl rfl rfl rfl rfl rfl rfl ⟨rfl, rfl, rfl, rfl, rfl⟩ rfl rfl rfl rfl rfl (by kernel_rfl) Tryd.func3 (by kernel_rfl)
    (of_decide_eq_true (by kernel_rfl)) (by unfold Func.isWrapper; first | (rw [if_pos (by decide +kernel)]; kernel_rfl) | (rw [if_neg (by decide +kernel)]; exact ⟨rfl, rfl⟩))
    (fun os started H enc _ => oreads_lifted os started H enc)
theorem opReads_card : Rows.OpReadsCardSaid :=
  Claim7.holds_tied_plain_at .later [] [.data, .data, .data, .data, .sentinel, .sentinel, .pinned] true (true, "a69fdaab0c2c17229c01662bf604db269f75acf75678c88c90155962ea6907d3") true opReads_holds (fun _ h => by cases h) (by kernel_rfl) (fun _ h => by cases h) opReads_row_tie rfl ⟨rfl, rfl⟩ (by kernel_rfl) rfl
    (fun f fn hf hfn => by
      obtain rfl : f = 3 := Option.some.inj ((show Tryd.prog.funcNamed "visor/visorlaw17.OpReads" = some 3 by kernel_rfl).symm.trans hf) |>.symm
      obtain rfl : fn = Tryd.f3 := (Option.some.inj (Tryd.func3.symm.trans hfn)).symm
      exact ⟨by kernel_rfl, fun j t ht => by
        rw [Tryd.params3] at ht
        have hm : t ∈ [24, 9] := by simpa using Array.mem_of_getElem? ht
        have hall : ([24, 9].all fun u => !Tryd.prog.wantsStandIn u) = true := by kernel_rfl
        exact (show Tryd.prog.wantsStandIn t = false by simpa using List.all_eq_true.1 hall t hm)⟩)
    (by kernel_rfl)
#print axioms opReads_card
end Go.Proofs.YthfgpjebmhbedaaDoor
