/-
  NARROWER THAN 'FOR EVERY INPUT', by the rows' own cells (each row's printed sentence says how): FreshTells: laid · FreshEven: laid.
  DERIVED. THE GIVEN ROWS OF THIS SEAT. 2 by the template 'for every input the law returns true; each argument reads behind the call as it read before'; 0 by the template 'total and deterministic' (their statements: YtinihebnajaejaaDoorTotals.lean).
  GIVEN WITH THE SEED: the statements are not yours to turn. If you find one false, say at which input.
  Laid BY PROGRAM, IN A SANDBOX (cutbox-rows.mjs): the forced cells as the released guide's own fill.sh prints them over the translation 575c96eb5a19528e… (all of the seat's roots in one cut). By AI agents, Wed Nov 11 2026. No macro, syntax, notation, axiom, sorry.
-/
import Derived.Test.YtinihebnajaejaaDoorChecked
import GoSem.Claim
import GoSem.ClaimJoined
import GoSem.ClaimMapViews
import Derived.JoinedTies
import Derived.KernelRfl
namespace Go.Proofs.YtinihebnajaejaaDoor
/- THE CELL 'sum', in the pinned program and in every row, IS THE sha256 OF THE DUMP (.gsa) THAT YtinihebnajaejaaDoorProg.lean LOADS. Nothing in Lean hashes anything: it is a label: what it is worth is what the hold of that sum in a sandbox is worth. -/
noncomputable def Tryd.pinned : Pinned := { name := "ytinihebnajaejaadoor", sum := "575c96eb5a19528ee4f43958b42108b73f79ec5b1ec5a20adcf516bb3178231e", checked := Tryd.checked }
namespace Rows
def none {H : Type} : Left H := { results := [], args := [] }

/- WHAT THE LISTED PACKAGE-LEVEL VARIABLES READ AS WHEN THE CALL BEGINS. Each datum BY PROGRAM (the guide's laid-datum.mjs) off the statement by which the dump's own 'gosem.cut.vars' lays the variable. In a bare row this is a premise. The card (YtinihebnajaejaaDoorCards.lean) ties it to the program's text. -/
def laid_visor_fresh_pairs {H : Type} : DataW H := .agg [.agg [.lit (.int .i64 0), .lit (.int .i64 1)], .agg [.lit (.int .i64 0), .lit (.int .i64 2)], .agg [.lit (.int .i64 1), .lit (.int .i64 2)]]

/-- 'visorlaw21.FreshTells': WHATEVER THE INPUT: true; the input reads as it did. -/
def freshTellsSpec : ChangeSpec := { name := "freshTells", fn := fun _ => fun
  | [d1, d2, d3, d4] => { results := [.lit (.bool true)], args := [d1, d2, d3, d4] }
  | _ => none }
def freshTellsRow : OpenClaim := { program := "ytinihebnajaejaadoor", sum := "575c96eb5a19528ee4f43958b42108b73f79ec5b1ec5a20adcf516bb3178231e", func := "visor/visorlaw21.FreshTells", spec := "freshTells", inPlace := ["sync/atomic.LoadInt64", "sync/atomic.AddInt64"], unfollowed := true, recurses := true, named := ["visor/fresh.pairs"], apart := false, laid := [("visor/fresh.pairs", laid_visor_fresh_pairs)] }
def FreshTellsSaid : Prop := freshTellsRow.holds Tryd.pinned (OpenSpec.ofChange freshTellsSpec)

/-- ITS FALSE NEIGHBOUR: 'it returns false'. Refute it at one input. -/
def freshTellsWrong : ChangeSpec := { name := "freshTells", fn := fun _ => fun
  | [d1, d2, d3, d4] => { results := [.lit (.bool false)], args := [d1, d2, d3, d4] }
  | _ => none }
def FreshTellsWrongFalsely : Prop := freshTellsRow.holds Tryd.pinned (OpenSpec.ofChange freshTellsWrong)

/-- 'visorlaw21.FreshEven': WHATEVER THE INPUT: true; the input reads as it did. -/
def freshEvenSpec : ChangeSpec := { name := "freshEven", fn := fun _ => fun
  | [d1, d2, d3] => { results := [.lit (.bool true)], args := [d1, d2, d3] }
  | _ => none }
def freshEvenRow : OpenClaim := { program := "ytinihebnajaejaadoor", sum := "575c96eb5a19528ee4f43958b42108b73f79ec5b1ec5a20adcf516bb3178231e", func := "visor/visorlaw21.FreshEven", spec := "freshEven", inPlace := ["sync/atomic.LoadInt64", "sync/atomic.AddInt64"], unfollowed := true, recurses := true, named := ["visor/fresh.pairs"], apart := false, laid := [("visor/fresh.pairs", laid_visor_fresh_pairs)] }
def FreshEvenSaid : Prop := freshEvenRow.holds Tryd.pinned (OpenSpec.ofChange freshEvenSpec)

/-- ITS FALSE NEIGHBOUR: 'it returns false'. Refute it at one input. -/
def freshEvenWrong : ChangeSpec := { name := "freshEven", fn := fun _ => fun
  | [d1, d2, d3] => { results := [.lit (.bool false)], args := [d1, d2, d3] }
  | _ => none }
def FreshEvenWrongFalsely : Prop := freshEvenRow.holds Tryd.pinned (OpenSpec.ofChange freshEvenWrong)

/- THE SECOND FORM. 'bulk': how many values and letters a reading holds, each counted each time it is reached (what is shared counts as often as it is met; a slice's spare places count too). A statement '..UptoSaid' is the law's where the arguments, and the package variables that the reading takes, are together of bulk at most 1048576: NARROWER than '..Said'. Prove '..Said' where nothing that the law and all that it calls make is longer than what came in: it says more and counts as full. Else prove '..UptoSaid'. A law counts once. -/
mutual
def uptoBulk {H : Type} : DataW H → Nat
  | .lit (.string bytes) => bytes.length + 1
  | .lit _ => 1
  | .nil => 1
  | .ptr d => uptoBulk d + 1
  | .slice elems spare => uptoBulkAll elems + uptoBulkAll spare + 1
  | .agg parts => uptoBulkAll parts + 1
  | .iface _ d => uptoBulk d + 1
  | .map entries => uptoBulkEntries entries + 1
  | .held _ => 1
def uptoBulkAll {H : Type} : List (DataW H) → Nat
  | [] => 0
  | d :: r => uptoBulk d + uptoBulkAll r
def uptoBulkEntries {H : Type} : List (Lit × DataW H) → Nat
  | [] => 0
  | x :: r => uptoBulkEntry x + uptoBulkEntries r
def uptoBulkEntry {H : Type} : Lit × DataW H → Nat
  | (.string bytes, d) => bytes.length + uptoBulk d + 1
  | (_, d) => uptoBulk d + 1
 end
def uptoSmall : (H : Type) → List (DataW H) → Bool := fun _ ds => decide (uptoBulkAll ds ≤ 1048576)
def OpenSpec.upto (s : _root_.Go.ChangeSpec) : _root_.Go.OpenSpec := { _root_.Go.OpenSpec.ofChange s with cond := some uptoSmall }

/-- 'visorlaw21.FreshTells', WHERE WHAT IT READS IS OF BULK AT MOST 1048576: true; the input reads as it did. -/
def freshTellsUptoRow : OpenClaim := { program := "ytinihebnajaejaadoor", sum := "575c96eb5a19528ee4f43958b42108b73f79ec5b1ec5a20adcf516bb3178231e", func := "visor/visorlaw21.FreshTells", spec := "freshTells", inPlace := ["sync/atomic.LoadInt64", "sync/atomic.AddInt64"], unfollowed := true, recurses := true, named := ["visor/fresh.pairs"], apart := false, laid := [("visor/fresh.pairs", laid_visor_fresh_pairs)], narrowed := true }
def FreshTellsUptoSaid : Prop := freshTellsUptoRow.holds Tryd.pinned (OpenSpec.upto freshTellsSpec)

/-- 'visorlaw21.FreshEven', WHERE WHAT IT READS IS OF BULK AT MOST 1048576: true; the input reads as it did. -/
def freshEvenUptoRow : OpenClaim := { program := "ytinihebnajaejaadoor", sum := "575c96eb5a19528ee4f43958b42108b73f79ec5b1ec5a20adcf516bb3178231e", func := "visor/visorlaw21.FreshEven", spec := "freshEven", inPlace := ["sync/atomic.LoadInt64", "sync/atomic.AddInt64"], unfollowed := true, recurses := true, named := ["visor/fresh.pairs"], apart := false, laid := [("visor/fresh.pairs", laid_visor_fresh_pairs)], narrowed := true }
def FreshEvenUptoSaid : Prop := freshEvenUptoRow.holds Tryd.pinned (OpenSpec.upto freshEvenSpec)

end Rows
end Go.Proofs.YtinihebnajaejaaDoor
