/-
  DERIVED. GIVEN WITH THE SEED: THE CARDS: each row of YthkijncnndoafaaDoorRows.lean that lists a variable, with what it lists TIED to the program's text (the seventh form; the later family's looks); each row that meets fmt, with fmt's text TOLD by the authors' own Lean function (tested against real Go, not proved from fmt's source: count such statements apart). THE CARD IS WHAT COUNTS. Prove the row's statement (the work); the ties are given (YthkijncnndoafaaDoorTie.lean); close each card by the builder's one call (the guide's Derived/Test/ToyasCard.lean, 'card_holds'). Laid BY PROGRAM, IN A SANDBOX (cutbox-door.mjs). By AI agents, Wed Nov 11 2026. No macro, syntax, notation, axiom, sorry.
-/
import Derived.Test.YthkijncnndoafaaDoorRows
import GoSem.ClaimSeven
namespace Go.Proofs.YthkijncnndoafaaDoor
namespace Rows

/-- THE TIED CARD OF 'visorlaw23.BothFolds'. -/
def bothFoldsCard : Claim7 := { stood := { row := bothFoldsRow, standIns := [], harness := (true, "9ccddbb2260f534d7ab374a00354d340b2e49bc40afe7f538cfb1d2f96a7d8a9"), looks := false }, kinds := [], alts := [], laidByText := true, laidKinds := [.data], laidTests := true, laidLooks := .later }
def BothFoldsCardSaid : Prop := Claim7.holds Tryd.pinned (.plain (OpenSpec.ofChange bothFoldsSpec)) bothFoldsCard

/-- THE SECOND FORM's CARD OF 'visorlaw23.BothFolds'. -/
def bothFoldsUptoCard : Claim7 := { stood := { row := bothFoldsUptoRow, standIns := [], harness := (true, "9ccddbb2260f534d7ab374a00354d340b2e49bc40afe7f538cfb1d2f96a7d8a9"), looks := false }, kinds := [], alts := [], laidByText := true, laidKinds := [.data], laidTests := true, laidLooks := .later }
def BothFoldsUptoCardSaid : Prop := Claim7.holds Tryd.pinned (.plain (OpenSpec.upto bothFoldsSpec)) bothFoldsUptoCard
end Rows
end Go.Proofs.YthkijncnndoafaaDoor
