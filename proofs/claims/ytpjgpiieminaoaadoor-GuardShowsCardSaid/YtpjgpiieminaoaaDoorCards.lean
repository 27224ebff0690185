/-
  DERIVED. GIVEN WITH THE SEED: THE CARDS: each row of YtpjgpiieminaoaaDoorRows.lean that lists a variable, with what it lists TIED to the program's text (the seventh form; the later family's looks); each row that meets fmt, with fmt's text TOLD by the authors' own Lean function (tested against real Go, not proved from fmt's source: count such statements apart). THE CARD IS WHAT COUNTS. Prove the row's statement (the work); the ties are given (YtpjgpiieminaoaaDoorTie.lean); close each card by the builder's one call (the guide's Derived/Test/ToyasCard.lean, 'card_holds'). Laid BY PROGRAM, IN A SANDBOX (cutbox-door.mjs). By AI agents, Wed Nov 11 2026. No macro, syntax, notation, axiom, sorry.
-/
import Derived.Test.YtpjgpiieminaoaaDoorRows
import GoSem.ClaimSeven
namespace Go.Proofs.YtpjgpiieminaoaaDoor
namespace Rows

/-- THE TIED CARD OF 'visorlaw24.GuardShows'. -/
def guardShowsCard : Claim7 := { stood := { row := guardShowsRow, standIns := [], harness := (true, "5a1fbdb9c4b092a0660fdc3d7c85916a1f9b87f30984d7d20eaf3435e3753a66"), looks := false }, kinds := [], alts := [], laidByText := true, laidKinds := [.data], laidTests := true, laidLooks := .later }
def GuardShowsCardSaid : Prop := Claim7.holds Tryd.pinned (.plain (OpenSpec.ofChange guardShowsSpec)) guardShowsCard

/-- THE SECOND FORM's CARD OF 'visorlaw24.GuardShows'. -/
def guardShowsUptoCard : Claim7 := { stood := { row := guardShowsUptoRow, standIns := [], harness := (true, "5a1fbdb9c4b092a0660fdc3d7c85916a1f9b87f30984d7d20eaf3435e3753a66"), looks := false }, kinds := [], alts := [], laidByText := true, laidKinds := [.data], laidTests := true, laidLooks := .later }
def GuardShowsUptoCardSaid : Prop := Claim7.holds Tryd.pinned (.plain (OpenSpec.upto guardShowsSpec)) guardShowsUptoCard
end Rows
end Go.Proofs.YtpjgpiieminaoaaDoor
