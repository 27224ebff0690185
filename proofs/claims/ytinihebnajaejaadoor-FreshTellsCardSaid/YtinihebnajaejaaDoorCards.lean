/-
  DERIVED. GIVEN WITH THE SEED: THE CARDS: each row of YtinihebnajaejaaDoorRows.lean that lists a variable, with what it lists TIED to the program's text (the seventh form; the later family's looks); each row that meets fmt, with fmt's text TOLD by the authors' own Lean function (tested against real Go, not proved from fmt's source: count such statements apart). THE CARD IS WHAT COUNTS. Prove the row's statement (the work); the ties are given (YtinihebnajaejaaDoorTie.lean); close each card by the builder's one call (the guide's Derived/Test/ToyasCard.lean, 'card_holds'). Laid BY PROGRAM, IN A SANDBOX (cutbox-door.mjs). By AI agents, Wed Nov 11 2026. No macro, syntax, notation, axiom, sorry.
-/
import Derived.Test.YtinihebnajaejaaDoorRows
import GoSem.ClaimSeven
namespace Go.Proofs.YtinihebnajaejaaDoor
namespace Rows

/-- THE TIED CARD OF 'visorlaw21.FreshTells'. -/
def freshTellsCard : Claim7 := { stood := { row := freshTellsRow, standIns := [], harness := (true, "93fd4296334016c7827c15a9aaaf6046ebc74a27cf14cd152e4e0af7fec91d8a"), looks := false }, kinds := [], alts := [], laidByText := true, laidKinds := [.data], laidTests := true, laidLooks := .later }
def FreshTellsCardSaid : Prop := Claim7.holds Tryd.pinned (.plain (OpenSpec.ofChange freshTellsSpec)) freshTellsCard

/-- THE TIED CARD OF 'visorlaw21.FreshEven'. -/
def freshEvenCard : Claim7 := { stood := { row := freshEvenRow, standIns := [], harness := (true, "93fd4296334016c7827c15a9aaaf6046ebc74a27cf14cd152e4e0af7fec91d8a"), looks := false }, kinds := [], alts := [], laidByText := true, laidKinds := [.data], laidTests := true, laidLooks := .later }
def FreshEvenCardSaid : Prop := Claim7.holds Tryd.pinned (.plain (OpenSpec.ofChange freshEvenSpec)) freshEvenCard

/-- THE SECOND FORM's CARD OF 'visorlaw21.FreshTells'. -/
def freshTellsUptoCard : Claim7 := { stood := { row := freshTellsUptoRow, standIns := [], harness := (true, "93fd4296334016c7827c15a9aaaf6046ebc74a27cf14cd152e4e0af7fec91d8a"), looks := false }, kinds := [], alts := [], laidByText := true, laidKinds := [.data], laidTests := true, laidLooks := .later }
def FreshTellsUptoCardSaid : Prop := Claim7.holds Tryd.pinned (.plain (OpenSpec.upto freshTellsSpec)) freshTellsUptoCard

/-- THE SECOND FORM's CARD OF 'visorlaw21.FreshEven'. -/
def freshEvenUptoCard : Claim7 := { stood := { row := freshEvenUptoRow, standIns := [], harness := (true, "93fd4296334016c7827c15a9aaaf6046ebc74a27cf14cd152e4e0af7fec91d8a"), looks := false }, kinds := [], alts := [], laidByText := true, laidKinds := [.data], laidTests := true, laidLooks := .later }
def FreshEvenUptoCardSaid : Prop := Claim7.holds Tryd.pinned (.plain (OpenSpec.upto freshEvenSpec)) freshEvenUptoCard
end Rows
end Go.Proofs.YtinihebnajaejaaDoor
