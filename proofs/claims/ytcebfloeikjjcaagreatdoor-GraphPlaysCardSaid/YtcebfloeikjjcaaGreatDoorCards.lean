/-
  DERIVED. GIVEN WITH THE SEED: THE CARDS: each row of YtcebfloeikjjcaaGreatDoorRows.lean that lists a variable, with what it lists TIED to the program's text (the seventh form; the later family's looks); each row that meets fmt, with fmt's text TOLD by the authors' own Lean function (tested against real Go, not proved from fmt's source: count such statements apart). THE CARD IS WHAT COUNTS. Prove the row's statement (the work); the ties are given (YtcebfloeikjjcaaGreatDoorTie.lean); close each card by the builder's one call (the guide's Derived/Test/ToyasCard.lean, 'card_holds'). Laid BY PROGRAM, IN A SANDBOX (cutbox-door.mjs). By AI agents, Wed Nov 11 2026. No macro, syntax, notation, axiom, sorry.
-/
import Derived.Test.YtcebfloeikjjcaaGreatDoorRows
import GoSem.ClaimSeven
namespace Go.Proofs.YtcebfloeikjjcaaGreatDoor
namespace Rows

/-- THE TIED CARD OF 'footbridgelaw1.TourPlays'. -/
def tourPlaysCard : Claim7 := { stood := { row := tourPlaysRow, standIns := [], harness := (true, "b3a1021cc173ee0a49d874148ea3cca67b9e7cfc0bc445abc013a686dbb999f2"), looks := true }, kinds := [], alts := [], laidByText := true, laidKinds := [.handle], laidTests := true, laidLooks := .later }
def TourPlaysCardSaid : Prop := Claim7.holds Tryz.pinned (.plain (OpenSpec.ofChange tourPlaysSpec)) tourPlaysCard

/-- THE TIED CARD OF 'footbridgelaw1.GraphPlays'. -/
def graphPlaysCard : Claim7 := { stood := { row := graphPlaysRow, standIns := [], harness := (true, "b3a1021cc173ee0a49d874148ea3cca67b9e7cfc0bc445abc013a686dbb999f2"), looks := true }, kinds := [], alts := [], laidByText := true, laidKinds := [.handle], laidTests := true, laidLooks := .later }
def GraphPlaysCardSaid : Prop := Claim7.holds Tryz.pinned (.plain (OpenSpec.ofChange graphPlaysSpec)) graphPlaysCard

/-- THE SECOND FORM's CARD OF 'footbridgelaw1.TourPlays'. -/
def tourPlaysUptoCard : Claim7 := { stood := { row := tourPlaysUptoRow, standIns := [], harness := (true, "b3a1021cc173ee0a49d874148ea3cca67b9e7cfc0bc445abc013a686dbb999f2"), looks := true }, kinds := [], alts := [], laidByText := true, laidKinds := [.handle], laidTests := true, laidLooks := .later }
def TourPlaysUptoCardSaid : Prop := Claim7.holds Tryz.pinned (.plain (OpenSpec.upto tourPlaysSpec)) tourPlaysUptoCard

/-- THE SECOND FORM's CARD OF 'footbridgelaw1.GraphPlays'. -/
def graphPlaysUptoCard : Claim7 := { stood := { row := graphPlaysUptoRow, standIns := [], harness := (true, "b3a1021cc173ee0a49d874148ea3cca67b9e7cfc0bc445abc013a686dbb999f2"), looks := true }, kinds := [], alts := [], laidByText := true, laidKinds := [.handle], laidTests := true, laidLooks := .later }
def GraphPlaysUptoCardSaid : Prop := Claim7.holds Tryz.pinned (.plain (OpenSpec.upto graphPlaysSpec)) graphPlaysUptoCard
end Rows
end Go.Proofs.YtcebfloeikjjcaaGreatDoor
