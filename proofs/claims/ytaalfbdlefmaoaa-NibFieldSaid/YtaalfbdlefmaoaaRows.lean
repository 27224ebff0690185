/-
  No cell of these rows narrows 'for every input' (looked for: loops, veiled, ifaces, maps, wideKeys, modest, calm, conditions, laid).
  DERIVED. THE GIVEN ROWS OF THIS SEAT. 3 by the template 'for every input the law returns true; each argument reads behind the call as it read before'; 0 by the template 'total and deterministic' (their statements: YtaalfbdlefmaoaaTotals.lean).
  GIVEN WITH THE SEED: the statements are not yours to turn. If you find one false, say at which input.
  Laid BY PROGRAM, IN A SANDBOX (cutbox-rows.mjs): the forced cells as the released guide's own fill.sh prints them over the translation 8830a97102a2d6eb… (all of the seat's roots in one cut). By AI agents, Wed Nov 11 2026. No macro, syntax, notation, axiom, sorry.
-/
import Derived.Test.YtaalfbdlefmaoaaChecked
import GoSem.Claim
import GoSem.ClaimJoined
import GoSem.ClaimMapViews
import Derived.JoinedTies
import Derived.KernelRfl
namespace Go.Proofs.Ytaalfbdlefmaoaa
/- THE CELL 'sum', in the pinned program and in every row, IS THE sha256 OF THE DUMP (.gsa) THAT YtaalfbdlefmaoaaProg.lean LOADS. Nothing in Lean hashes anything: it is a label: what it is worth is what the hold of that sum in a sandbox is worth. -/
noncomputable def Try.pinned : Pinned := { name := "ytaalfbdlefmaoaa", sum := "8830a97102a2d6eb17aece7cd7e11f987a05fb17a468205ec6d2a91bd564003e", checked := Try.checked }
namespace Rows
def none {H : Type} : Left H := { results := [], args := [] }

/-- 'visorlaw04.NibTells': WHATEVER THE INPUT: true; the input reads as it did. -/
def nibTellsSpec : ChangeSpec := { name := "nibTells", fn := fun _ => fun
  | [d1, d2, d3] => { results := [.lit (.bool true)], args := [d1, d2, d3] }
  | _ => none }
def nibTellsRow : OpenClaim := { program := "ytaalfbdlefmaoaa", sum := "8830a97102a2d6eb17aece7cd7e11f987a05fb17a468205ec6d2a91bd564003e", func := "visor/visorlaw04.NibTells", spec := "nibTells", apart := false }
def NibTellsSaid : Prop := nibTellsRow.holds Try.pinned (OpenSpec.ofChange nibTellsSpec)

/-- ITS FALSE NEIGHBOUR: 'it returns false'. Refute it at one input. -/
def nibTellsWrong : ChangeSpec := { name := "nibTells", fn := fun _ => fun
  | [d1, d2, d3] => { results := [.lit (.bool false)], args := [d1, d2, d3] }
  | _ => none }
def NibTellsWrongFalsely : Prop := nibTellsRow.holds Try.pinned (OpenSpec.ofChange nibTellsWrong)

/-- 'visorlaw04.NibField': WHATEVER THE INPUT: true; the input reads as it did. -/
def nibFieldSpec : ChangeSpec := { name := "nibField", fn := fun _ => fun
  | [d1, d2, d3] => { results := [.lit (.bool true)], args := [d1, d2, d3] }
  | _ => none }
def nibFieldRow : OpenClaim := { program := "ytaalfbdlefmaoaa", sum := "8830a97102a2d6eb17aece7cd7e11f987a05fb17a468205ec6d2a91bd564003e", func := "visor/visorlaw04.NibField", spec := "nibField", apart := false }
def NibFieldSaid : Prop := nibFieldRow.holds Try.pinned (OpenSpec.ofChange nibFieldSpec)

/-- ITS FALSE NEIGHBOUR: 'it returns false'. Refute it at one input. -/
def nibFieldWrong : ChangeSpec := { name := "nibField", fn := fun _ => fun
  | [d1, d2, d3] => { results := [.lit (.bool false)], args := [d1, d2, d3] }
  | _ => none }
def NibFieldWrongFalsely : Prop := nibFieldRow.holds Try.pinned (OpenSpec.ofChange nibFieldWrong)

/-- 'visorlaw04.NibHalves': WHATEVER THE INPUT: true; the input reads as it did. -/
def nibHalvesSpec : ChangeSpec := { name := "nibHalves", fn := fun _ => fun
  | [d] => { results := [.lit (.bool true)], args := [d] }
  | _ => none }
def nibHalvesRow : OpenClaim := { program := "ytaalfbdlefmaoaa", sum := "8830a97102a2d6eb17aece7cd7e11f987a05fb17a468205ec6d2a91bd564003e", func := "visor/visorlaw04.NibHalves", spec := "nibHalves", apart := false }
def NibHalvesSaid : Prop := nibHalvesRow.holds Try.pinned (OpenSpec.ofChange nibHalvesSpec)

/-- ITS FALSE NEIGHBOUR: 'it returns false'. Refute it at one input. -/
def nibHalvesWrong : ChangeSpec := { name := "nibHalves", fn := fun _ => fun
  | [d] => { results := [.lit (.bool false)], args := [d] }
  | _ => none }
def NibHalvesWrongFalsely : Prop := nibHalvesRow.holds Try.pinned (OpenSpec.ofChange nibHalvesWrong)

/- THE SECOND FORM. 'bulk': how many values and letters a reading holds, each counted each time it is reached (what is shared counts as often as it is met; a slice's spare places count too). A statement '..UptoSaid' is the law's where the arguments, and the package variables that the reading takes, are together of bulk at most 1048576: NARROWER than '..Said'. Prove '..Said' where nothing that the law and all that it calls make is longer than what came in: it says more and counts as full. Else prove '..UptoSaid'. A law counts once. -/
mutual
def uptoBulk {H : Type} : DataW H → Nat
  | .lit (.string bytes) => bytes.length + 1
  | .lit _ => 1
  | .nil => 1
  | .ptr d => uptoBulk d + 1
  | .slice elems spare => uptoBulkAll elems + uptoBulkAll spare + 1
  | .agg parts => uptoBulkAll parts + 1
  | .iface _ d => uptoBulk d + 1
  | .map entries => uptoBulkEntries entries + 1
  | .held _ => 1
def uptoBulkAll {H : Type} : List (DataW H) → Nat
  | [] => 0
  | d :: r => uptoBulk d + uptoBulkAll r
def uptoBulkEntries {H : Type} : List (Lit × DataW H) → Nat
  | [] => 0
  | x :: r => uptoBulkEntry x + uptoBulkEntries r
def uptoBulkEntry {H : Type} : Lit × DataW H → Nat
  | (.string bytes, d) => bytes.length + uptoBulk d + 1
  | (_, d) => uptoBulk d + 1
 end
def uptoSmall : (H : Type) → List (DataW H) → Bool := fun _ ds => decide (uptoBulkAll ds ≤ 1048576)
def OpenSpec.upto (s : _root_.Go.ChangeSpec) : _root_.Go.OpenSpec := { _root_.Go.OpenSpec.ofChange s with cond := some uptoSmall }

/-- 'visorlaw04.NibTells', WHERE WHAT IT READS IS OF BULK AT MOST 1048576: true; the input reads as it did. -/
def nibTellsUptoRow : OpenClaim := { program := "ytaalfbdlefmaoaa", sum := "8830a97102a2d6eb17aece7cd7e11f987a05fb17a468205ec6d2a91bd564003e", func := "visor/visorlaw04.NibTells", spec := "nibTells", apart := false, narrowed := true }
def NibTellsUptoSaid : Prop := nibTellsUptoRow.holds Try.pinned (OpenSpec.upto nibTellsSpec)

/-- 'visorlaw04.NibField', WHERE WHAT IT READS IS OF BULK AT MOST 1048576: true; the input reads as it did. -/
def nibFieldUptoRow : OpenClaim := { program := "ytaalfbdlefmaoaa", sum := "8830a97102a2d6eb17aece7cd7e11f987a05fb17a468205ec6d2a91bd564003e", func := "visor/visorlaw04.NibField", spec := "nibField", apart := false, narrowed := true }
def NibFieldUptoSaid : Prop := nibFieldUptoRow.holds Try.pinned (OpenSpec.upto nibFieldSpec)

/-- 'visorlaw04.NibHalves', WHERE WHAT IT READS IS OF BULK AT MOST 1048576: true; the input reads as it did. -/
def nibHalvesUptoRow : OpenClaim := { program := "ytaalfbdlefmaoaa", sum := "8830a97102a2d6eb17aece7cd7e11f987a05fb17a468205ec6d2a91bd564003e", func := "visor/visorlaw04.NibHalves", spec := "nibHalves", apart := false, narrowed := true }
def NibHalvesUptoSaid : Prop := nibHalvesUptoRow.holds Try.pinned (OpenSpec.upto nibHalvesSpec)

end Rows
end Go.Proofs.Ytaalfbdlefmaoaa
