/-
  DERIVED. GIVEN WITH THE SEED: THE CARDS: each row of YtpjgpiieminaoaaGreatDoorRows.lean that lists a variable, with what it lists TIED to the program's text (the seventh form; the later family's looks); each row that meets fmt, with fmt's text TOLD by the authors' own Lean function (tested against real Go, not proved from fmt's source: count such statements apart). THE CARD IS WHAT COUNTS. Prove the row's statement (the work); the ties are given (YtpjgpiieminaoaaGreatDoorTie.lean); close each card by the builder's one call (the guide's Derived/Test/ToyasCard.lean, 'card_holds'). Laid BY PROGRAM, IN A SANDBOX (cutbox-door.mjs). By AI agents, Wed Nov 11 2026. No macro, syntax, notation, axiom, sorry.
-/
import Derived.Test.YtpjgpiieminaoaaGreatDoorRows
import GoSem.ClaimSeven
namespace Go.Proofs.YtpjgpiieminaoaaGreatDoor
namespace Rows

/-- THE TIED CARD OF 'visorlaw24.GuardTells'. -/
def guardTellsCard : Claim7 := { stood := { row := guardTellsRow, standIns := [], harness := (true, "0c2705ceb0dfa1a73772fb7e54284744ac9aeda1fc29d1398c305e4f3220f8a7"), looks := false }, kinds := [], alts := [], laidByText := true, laidKinds := [.data], laidTests := true, laidLooks := .later }
def GuardTellsCardSaid : Prop := Claim7.holds Tryz.pinned (.plain (OpenSpec.ofChange guardTellsSpec)) guardTellsCard

/-- THE SECOND FORM's CARD OF 'visorlaw24.GuardTells'. -/
def guardTellsUptoCard : Claim7 := { stood := { row := guardTellsUptoRow, standIns := [], harness := (true, "0c2705ceb0dfa1a73772fb7e54284744ac9aeda1fc29d1398c305e4f3220f8a7"), looks := false }, kinds := [], alts := [], laidByText := true, laidKinds := [.data], laidTests := true, laidLooks := .later }
def GuardTellsUptoCardSaid : Prop := Claim7.holds Tryz.pinned (.plain (OpenSpec.upto guardTellsSpec)) guardTellsUptoCard
end Rows
end Go.Proofs.YtpjgpiieminaoaaGreatDoor
