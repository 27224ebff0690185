/-
  No cell of these rows narrows 'for every input' (looked for: loops, veiled, ifaces, maps, wideKeys, modest, calm, conditions, laid).
  DERIVED. THE GIVEN ROWS OF THIS SEAT. 3 by the template 'for every input the law returns true; each argument reads behind the call as it read before'; 0 by the template 'total and deterministic' (their statements: YtkdbjejblbopeaaTotals.lean).
  GIVEN WITH THE SEED: the statements are not yours to turn. If you find one false, say at which input.
  Laid BY PROGRAM, IN A SANDBOX (cutbox-rows.mjs): the forced cells as the released guide's own fill.sh prints them over the translation 61973a749a2ee9ab… (all of the seat's roots in one cut). By AI agents, Wed Nov 11 2026. No macro, syntax, notation, axiom, sorry.
-/
import Derived.Test.YtkdbjejblbopeaaChecked
import GoSem.Claim
import GoSem.ClaimJoined
import GoSem.ClaimMapViews
import Derived.JoinedTies
import Derived.KernelRfl
namespace Go.Proofs.Ytkdbjejblbopeaa
/- THE CELL 'sum', in the pinned program and in every row, IS THE sha256 OF THE DUMP (.gsa) THAT YtkdbjejblbopeaaProg.lean LOADS. Nothing in Lean hashes anything: it is a label: what it is worth is what the hold of that sum in a sandbox is worth. -/
noncomputable def Try.pinned : Pinned := { name := "ytkdbjejblbopeaa", sum := "61973a749a2ee9abaea8f404730094cc076886f53a0c2144276ca94bc9577665", checked := Try.checked }
namespace Rows
def none {H : Type} : Left H := { results := [], args := [] }

/-- 'visorlaw05.MatTells': WHATEVER THE INPUT: true; the input reads as it did. -/
def matTellsSpec : ChangeSpec := { name := "matTells", fn := fun _ => fun
  | [d1, d2, d3] => { results := [.lit (.bool true)], args := [d1, d2, d3] }
  | _ => none }
def matTellsRow : OpenClaim := { program := "ytkdbjejblbopeaa", sum := "61973a749a2ee9abaea8f404730094cc076886f53a0c2144276ca94bc9577665", func := "visor/visorlaw05.MatTells", spec := "matTells", apart := false }
def MatTellsSaid : Prop := matTellsRow.holds Try.pinned (OpenSpec.ofChange matTellsSpec)

/-- ITS FALSE NEIGHBOUR: 'it returns false'. Refute it at one input. -/
def matTellsWrong : ChangeSpec := { name := "matTells", fn := fun _ => fun
  | [d1, d2, d3] => { results := [.lit (.bool false)], args := [d1, d2, d3] }
  | _ => none }
def MatTellsWrongFalsely : Prop := matTellsRow.holds Try.pinned (OpenSpec.ofChange matTellsWrong)

/-- 'visorlaw05.MatLinear': WHATEVER THE INPUT: true; the input reads as it did. -/
def matLinearSpec : ChangeSpec := { name := "matLinear", fn := fun _ => fun
  | [d1, d2, d3, d4] => { results := [.lit (.bool true)], args := [d1, d2, d3, d4] }
  | _ => none }
def matLinearRow : OpenClaim := { program := "ytkdbjejblbopeaa", sum := "61973a749a2ee9abaea8f404730094cc076886f53a0c2144276ca94bc9577665", func := "visor/visorlaw05.MatLinear", spec := "matLinear", apart := false }
def MatLinearSaid : Prop := matLinearRow.holds Try.pinned (OpenSpec.ofChange matLinearSpec)

/-- ITS FALSE NEIGHBOUR: 'it returns false'. Refute it at one input. -/
def matLinearWrong : ChangeSpec := { name := "matLinear", fn := fun _ => fun
  | [d1, d2, d3, d4] => { results := [.lit (.bool false)], args := [d1, d2, d3, d4] }
  | _ => none }
def MatLinearWrongFalsely : Prop := matLinearRow.holds Try.pinned (OpenSpec.ofChange matLinearWrong)

/-- 'visorlaw05.MatKernel': WHATEVER THE INPUT: true; the input reads as it did. -/
def matKernelSpec : ChangeSpec := { name := "matKernel", fn := fun _ => fun
  | [d1, d2, d3] => { results := [.lit (.bool true)], args := [d1, d2, d3] }
  | _ => none }
def matKernelRow : OpenClaim := { program := "ytkdbjejblbopeaa", sum := "61973a749a2ee9abaea8f404730094cc076886f53a0c2144276ca94bc9577665", func := "visor/visorlaw05.MatKernel", spec := "matKernel", apart := false }
def MatKernelSaid : Prop := matKernelRow.holds Try.pinned (OpenSpec.ofChange matKernelSpec)

/-- ITS FALSE NEIGHBOUR: 'it returns false'. Refute it at one input. -/
def matKernelWrong : ChangeSpec := { name := "matKernel", fn := fun _ => fun
  | [d1, d2, d3] => { results := [.lit (.bool false)], args := [d1, d2, d3] }
  | _ => none }
def MatKernelWrongFalsely : Prop := matKernelRow.holds Try.pinned (OpenSpec.ofChange matKernelWrong)

/- THE SECOND FORM. 'bulk': how many values and letters a reading holds, each counted each time it is reached (what is shared counts as often as it is met; a slice's spare places count too). A statement '..UptoSaid' is the law's where the arguments, and the package variables that the reading takes, are together of bulk at most 1048576: NARROWER than '..Said'. Prove '..Said' where nothing that the law and all that it calls make is longer than what came in: it says more and counts as full. Else prove '..UptoSaid'. A law counts once. -/
mutual
def uptoBulk {H : Type} : DataW H → Nat
  | .lit (.string bytes) => bytes.length + 1
  | .lit _ => 1
  | .nil => 1
  | .ptr d => uptoBulk d + 1
  | .slice elems spare => uptoBulkAll elems + uptoBulkAll spare + 1
  | .agg parts => uptoBulkAll parts + 1
  | .iface _ d => uptoBulk d + 1
  | .map entries => uptoBulkEntries entries + 1
  | .held _ => 1
def uptoBulkAll {H : Type} : List (DataW H) → Nat
  | [] => 0
  | d :: r => uptoBulk d + uptoBulkAll r
def uptoBulkEntries {H : Type} : List (Lit × DataW H) → Nat
  | [] => 0
  | x :: r => uptoBulkEntry x + uptoBulkEntries r
def uptoBulkEntry {H : Type} : Lit × DataW H → Nat
  | (.string bytes, d) => bytes.length + uptoBulk d + 1
  | (_, d) => uptoBulk d + 1
 end
def uptoSmall : (H : Type) → List (DataW H) → Bool := fun _ ds => decide (uptoBulkAll ds ≤ 1048576)
def OpenSpec.upto (s : _root_.Go.ChangeSpec) : _root_.Go.OpenSpec := { _root_.Go.OpenSpec.ofChange s with cond := some uptoSmall }

/-- 'visorlaw05.MatTells', WHERE WHAT IT READS IS OF BULK AT MOST 1048576: true; the input reads as it did. -/
def matTellsUptoRow : OpenClaim := { program := "ytkdbjejblbopeaa", sum := "61973a749a2ee9abaea8f404730094cc076886f53a0c2144276ca94bc9577665", func := "visor/visorlaw05.MatTells", spec := "matTells", apart := false, narrowed := true }
def MatTellsUptoSaid : Prop := matTellsUptoRow.holds Try.pinned (OpenSpec.upto matTellsSpec)

/-- 'visorlaw05.MatLinear', WHERE WHAT IT READS IS OF BULK AT MOST 1048576: true; the input reads as it did. -/
def matLinearUptoRow : OpenClaim := { program := "ytkdbjejblbopeaa", sum := "61973a749a2ee9abaea8f404730094cc076886f53a0c2144276ca94bc9577665", func := "visor/visorlaw05.MatLinear", spec := "matLinear", apart := false, narrowed := true }
def MatLinearUptoSaid : Prop := matLinearUptoRow.holds Try.pinned (OpenSpec.upto matLinearSpec)

/-- 'visorlaw05.MatKernel', WHERE WHAT IT READS IS OF BULK AT MOST 1048576: true; the input reads as it did. -/
def matKernelUptoRow : OpenClaim := { program := "ytkdbjejblbopeaa", sum := "61973a749a2ee9abaea8f404730094cc076886f53a0c2144276ca94bc9577665", func := "visor/visorlaw05.MatKernel", spec := "matKernel", apart := false, narrowed := true }
def MatKernelUptoSaid : Prop := matKernelUptoRow.holds Try.pinned (OpenSpec.upto matKernelSpec)

end Rows
end Go.Proofs.Ytkdbjejblbopeaa
