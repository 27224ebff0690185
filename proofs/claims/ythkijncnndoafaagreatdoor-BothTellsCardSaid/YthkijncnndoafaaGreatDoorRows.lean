/-
  NARROWER THAN 'FOR EVERY INPUT', by the rows' own cells (each row's printed sentence says how): BothTells: laid · BothPicks: laid.
  DERIVED. THE GIVEN ROWS OF THIS SEAT. 2 by the template 'for every input the law returns true; each argument reads behind the call as it read before'; 0 by the template 'total and deterministic' (their statements: YthkijncnndoafaaGreatDoorTotals.lean).
  GIVEN WITH THE SEED: the statements are not yours to turn. If you find one false, say at which input.
  Laid BY PROGRAM, IN A SANDBOX (cutbox-rows.mjs): the forced cells as the released guide's own fill.sh prints them over the translation 5b1c80e34a43cb9c… (all of the seat's roots in one cut). By AI agents, Wed Nov 11 2026. No macro, syntax, notation, axiom, sorry.
-/
import Derived.Test.YthkijncnndoafaaGreatDoorChecked
import GoSem.Claim
import GoSem.ClaimJoined
import GoSem.ClaimMapViews
import Derived.JoinedTies
import Derived.KernelRfl
namespace Go.Proofs.YthkijncnndoafaaGreatDoor
/- THE CELL 'sum', in the pinned program and in every row, IS THE sha256 OF THE DUMP (.gsa) THAT YthkijncnndoafaaGreatDoorProg.lean LOADS. Nothing in Lean hashes anything: it is a label: what it is worth is what the hold of that sum in a sandbox is worth. -/
noncomputable def Tryz.pinned : Pinned := { name := "ythkijncnndoafaagreatdoor", sum := "5b1c80e34a43cb9c7b4846f1f3c153babb510fa9bb6c1c12e8b232e7f40e316d", checked := Tryz.checked }
namespace Rows
def none {H : Type} : Left H := { results := [], args := [] }

/- WHAT THE LISTED PACKAGE-LEVEL VARIABLES READ AS WHEN THE CALL BEGINS. Each datum BY PROGRAM (the guide's laid-datum.mjs) off the statement by which the dump's own 'gosem.cut.vars' lays the variable. In a bare row this is a premise. The card (YthkijncnndoafaaGreatDoorCards.lean) ties it to the program's text. -/
def laid_visor_fresh_pairs {H : Type} : DataW H := .agg [.agg [.lit (.int .i64 0), .lit (.int .i64 1)], .agg [.lit (.int .i64 0), .lit (.int .i64 2)], .agg [.lit (.int .i64 1), .lit (.int .i64 2)]]

/-- 'visorlaw23.BothTells': WHATEVER THE INPUT: true; the input reads as it did. -/
def bothTellsSpec : ChangeSpec := { name := "bothTells", fn := fun _ => fun
  | [d] => { results := [.lit (.bool true)], args := [d] }
  | _ => none }
def bothTellsRow : OpenClaim := { program := "ythkijncnndoafaagreatdoor", sum := "5b1c80e34a43cb9c7b4846f1f3c153babb510fa9bb6c1c12e8b232e7f40e316d", func := "visor/visorlaw23.BothTells", spec := "bothTells", inPlace := ["sync/atomic.LoadInt64", "sync/atomic.AddInt64"], unfollowed := true, recurses := true, named := ["visor/fresh.pairs"], plainKeys := false, apart := false, laid := [("visor/fresh.pairs", laid_visor_fresh_pairs)] }
def BothTellsSaid : Prop := bothTellsRow.holds Tryz.pinned (OpenSpec.ofChange bothTellsSpec)

/-- ITS FALSE NEIGHBOUR: 'it returns false'. Refute it at one input. -/
def bothTellsWrong : ChangeSpec := { name := "bothTells", fn := fun _ => fun
  | [d] => { results := [.lit (.bool false)], args := [d] }
  | _ => none }
def BothTellsWrongFalsely : Prop := bothTellsRow.holds Tryz.pinned (OpenSpec.ofChange bothTellsWrong)

/-- 'visorlaw23.BothPicks': WHATEVER THE INPUT: true; the input reads as it did. -/
def bothPicksSpec : ChangeSpec := { name := "bothPicks", fn := fun _ => fun
  | [d1, d2, d3, d4] => { results := [.lit (.bool true)], args := [d1, d2, d3, d4] }
  | _ => none }
def bothPicksRow : OpenClaim := { program := "ythkijncnndoafaagreatdoor", sum := "5b1c80e34a43cb9c7b4846f1f3c153babb510fa9bb6c1c12e8b232e7f40e316d", func := "visor/visorlaw23.BothPicks", spec := "bothPicks", inPlace := ["sync/atomic.LoadInt64", "sync/atomic.AddInt64"], unfollowed := true, recurses := true, named := ["visor/fresh.pairs"], plainKeys := false, apart := false, laid := [("visor/fresh.pairs", laid_visor_fresh_pairs)] }
def BothPicksSaid : Prop := bothPicksRow.holds Tryz.pinned (OpenSpec.ofChange bothPicksSpec)

/-- ITS FALSE NEIGHBOUR: 'it returns false'. Refute it at one input. -/
def bothPicksWrong : ChangeSpec := { name := "bothPicks", fn := fun _ => fun
  | [d1, d2, d3, d4] => { results := [.lit (.bool false)], args := [d1, d2, d3, d4] }
  | _ => none }
def BothPicksWrongFalsely : Prop := bothPicksRow.holds Tryz.pinned (OpenSpec.ofChange bothPicksWrong)

/- THE SECOND FORM. 'bulk': how many values and letters a reading holds, each counted each time it is reached (what is shared counts as often as it is met; a slice's spare places count too). A statement '..UptoSaid' is the law's where the arguments, and the package variables that the reading takes, are together of bulk at most 1048576: NARROWER than '..Said'. Prove '..Said' where nothing that the law and all that it calls make is longer than what came in: it says more and counts as full. Else prove '..UptoSaid'. A law counts once. -/
mutual
def uptoBulk {H : Type} : DataW H → Nat
  | .lit (.string bytes) => bytes.length + 1
  | .lit _ => 1
  | .nil => 1
  | .ptr d => uptoBulk d + 1
  | .slice elems spare => uptoBulkAll elems + uptoBulkAll spare + 1
  | .agg parts => uptoBulkAll parts + 1
  | .iface _ d => uptoBulk d + 1
  | .map entries => uptoBulkEntries entries + 1
  | .held _ => 1
def uptoBulkAll {H : Type} : List (DataW H) → Nat
  | [] => 0
  | d :: r => uptoBulk d + uptoBulkAll r
def uptoBulkEntries {H : Type} : List (Lit × DataW H) → Nat
  | [] => 0
  | x :: r => uptoBulkEntry x + uptoBulkEntries r
def uptoBulkEntry {H : Type} : Lit × DataW H → Nat
  | (.string bytes, d) => bytes.length + uptoBulk d + 1
  | (_, d) => uptoBulk d + 1
 end
def uptoSmall : (H : Type) → List (DataW H) → Bool := fun _ ds => decide (uptoBulkAll ds ≤ 1048576)
def OpenSpec.upto (s : _root_.Go.ChangeSpec) : _root_.Go.OpenSpec := { _root_.Go.OpenSpec.ofChange s with cond := some uptoSmall }

/-- 'visorlaw23.BothTells', WHERE WHAT IT READS IS OF BULK AT MOST 1048576: true; the input reads as it did. -/
def bothTellsUptoRow : OpenClaim := { program := "ythkijncnndoafaagreatdoor", sum := "5b1c80e34a43cb9c7b4846f1f3c153babb510fa9bb6c1c12e8b232e7f40e316d", func := "visor/visorlaw23.BothTells", spec := "bothTells", inPlace := ["sync/atomic.LoadInt64", "sync/atomic.AddInt64"], unfollowed := true, recurses := true, named := ["visor/fresh.pairs"], plainKeys := false, apart := false, laid := [("visor/fresh.pairs", laid_visor_fresh_pairs)], narrowed := true }
def BothTellsUptoSaid : Prop := bothTellsUptoRow.holds Tryz.pinned (OpenSpec.upto bothTellsSpec)

/-- 'visorlaw23.BothPicks', WHERE WHAT IT READS IS OF BULK AT MOST 1048576: true; the input reads as it did. -/
def bothPicksUptoRow : OpenClaim := { program := "ythkijncnndoafaagreatdoor", sum := "5b1c80e34a43cb9c7b4846f1f3c153babb510fa9bb6c1c12e8b232e7f40e316d", func := "visor/visorlaw23.BothPicks", spec := "bothPicks", inPlace := ["sync/atomic.LoadInt64", "sync/atomic.AddInt64"], unfollowed := true, recurses := true, named := ["visor/fresh.pairs"], plainKeys := false, apart := false, laid := [("visor/fresh.pairs", laid_visor_fresh_pairs)], narrowed := true }
def BothPicksUptoSaid : Prop := bothPicksUptoRow.holds Tryz.pinned (OpenSpec.upto bothPicksSpec)

end Rows
end Go.Proofs.YthkijncnndoafaaGreatDoor
