/-
  DERIVED. GIVEN WITH THE SEED: THE CARDS: each row of YthkijncnndoafaaGreatDoorRows.lean that lists a variable, with what it lists TIED to the program's text (the seventh form; the later family's looks); each row that meets fmt, with fmt's text TOLD by the authors' own Lean function (tested against real Go, not proved from fmt's source: count such statements apart). THE CARD IS WHAT COUNTS. Prove the row's statement (the work); the ties are given (YthkijncnndoafaaGreatDoorTie.lean); close each card by the builder's one call (the guide's Derived/Test/ToyasCard.lean, 'card_holds'). Laid BY PROGRAM, IN A SANDBOX (cutbox-door.mjs). By AI agents, Wed Nov 11 2026. No macro, syntax, notation, axiom, sorry.
-/
import Derived.Test.YthkijncnndoafaaGreatDoorRows
import GoSem.ClaimSeven
namespace Go.Proofs.YthkijncnndoafaaGreatDoor
namespace Rows

/-- THE TIED CARD OF 'visorlaw23.BothTells'. -/
def bothTellsCard : Claim7 := { stood := { row := bothTellsRow, standIns := [], harness := (true, "cdb08fe31649e9eca81a214a4730319622dca9b47027c46a3e492e4a73e4b92c"), looks := false }, kinds := [], alts := [], laidByText := true, laidKinds := [.data], laidTests := true, laidLooks := .later }
def BothTellsCardSaid : Prop := Claim7.holds Tryz.pinned (.plain (OpenSpec.ofChange bothTellsSpec)) bothTellsCard

/-- THE TIED CARD OF 'visorlaw23.BothPicks'. -/
def bothPicksCard : Claim7 := { stood := { row := bothPicksRow, standIns := [], harness := (true, "cdb08fe31649e9eca81a214a4730319622dca9b47027c46a3e492e4a73e4b92c"), looks := false }, kinds := [], alts := [], laidByText := true, laidKinds := [.data], laidTests := true, laidLooks := .later }
def BothPicksCardSaid : Prop := Claim7.holds Tryz.pinned (.plain (OpenSpec.ofChange bothPicksSpec)) bothPicksCard

/-- THE SECOND FORM's CARD OF 'visorlaw23.BothTells'. -/
def bothTellsUptoCard : Claim7 := { stood := { row := bothTellsUptoRow, standIns := [], harness := (true, "cdb08fe31649e9eca81a214a4730319622dca9b47027c46a3e492e4a73e4b92c"), looks := false }, kinds := [], alts := [], laidByText := true, laidKinds := [.data], laidTests := true, laidLooks := .later }
def BothTellsUptoCardSaid : Prop := Claim7.holds Tryz.pinned (.plain (OpenSpec.upto bothTellsSpec)) bothTellsUptoCard

/-- THE SECOND FORM's CARD OF 'visorlaw23.BothPicks'. -/
def bothPicksUptoCard : Claim7 := { stood := { row := bothPicksUptoRow, standIns := [], harness := (true, "cdb08fe31649e9eca81a214a4730319622dca9b47027c46a3e492e4a73e4b92c"), looks := false }, kinds := [], alts := [], laidByText := true, laidKinds := [.data], laidTests := true, laidLooks := .later }
def BothPicksUptoCardSaid : Prop := Claim7.holds Tryz.pinned (.plain (OpenSpec.upto bothPicksSpec)) bothPicksUptoCard
end Rows
end Go.Proofs.YthkijncnndoafaaGreatDoor
