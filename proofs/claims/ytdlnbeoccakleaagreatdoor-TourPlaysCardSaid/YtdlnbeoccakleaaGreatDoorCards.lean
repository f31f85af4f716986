/-
  DERIVED. GIVEN WITH THE SEED: THE CARDS: each row of YtdlnbeoccakleaaGreatDoorRows.lean that lists a variable, with what it lists TIED to the program's text (the seventh form; the later family's looks); each row that meets fmt, with fmt's text TOLD by the authors' own Lean function (tested against real Go, not proved from fmt's source: count such statements apart). THE CARD IS WHAT COUNTS. Prove the row's statement (the work); the ties are given (YtdlnbeoccakleaaGreatDoorTie.lean); close each card by the builder's one call (the guide's Derived/Test/ToyasCard.lean, 'card_holds'). Laid BY PROGRAM, IN A SANDBOX (cutbox-door.mjs). By AI agents, Wed Nov 11 2026. No macro, syntax, notation, axiom, sorry.
-/
import Derived.Test.YtdlnbeoccakleaaGreatDoorRows
import GoSem.ClaimSeven
namespace Go.Proofs.YtdlnbeoccakleaaGreatDoor
namespace Rows

/-- THE TIED CARD OF 'footbridgelaw1.TourPlays'. -/
def tourPlaysCard : Claim7 := { stood := { row := tourPlaysRow, standIns := [], harness := (true, "2e129fd2d833ae4c40be2b3b7bd46de258d07a76262ab36c8c27a0fb5724c309"), looks := true }, kinds := [], alts := [], laidByText := true, laidKinds := [.handle], laidTests := true, laidLooks := .later }
def TourPlaysCardSaid : Prop := Claim7.holds Tryz.pinned (.plain (OpenSpec.ofChange tourPlaysSpec)) tourPlaysCard

/-- THE SECOND FORM's CARD OF 'footbridgelaw1.TourPlays'. -/
def tourPlaysUptoCard : Claim7 := { stood := { row := tourPlaysUptoRow, standIns := [], harness := (true, "2e129fd2d833ae4c40be2b3b7bd46de258d07a76262ab36c8c27a0fb5724c309"), looks := true }, kinds := [], alts := [], laidByText := true, laidKinds := [.handle], laidTests := true, laidLooks := .later }
def TourPlaysUptoCardSaid : Prop := Claim7.holds Tryz.pinned (.plain (OpenSpec.upto tourPlaysSpec)) tourPlaysUptoCard
end Rows
end Go.Proofs.YtdlnbeoccakleaaGreatDoor
