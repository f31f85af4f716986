/-
  DERIVED. GIVEN WITH THE SEED: THE CARDS: each row of YtcfemppdeidjmacGreatDoorRows.lean that lists a variable, with what it lists TIED to the program's text (the seventh form; the later family's looks); each row that meets fmt, with fmt's text TOLD by the authors' own Lean function (tested against real Go, not proved from fmt's source: count such statements apart). THE CARD IS WHAT COUNTS. Prove the row's statement (the work); the ties are given (YtcfemppdeidjmacGreatDoorTie.lean); close each card by the builder's one call (the guide's Derived/Test/ToyasCard.lean, 'card_holds'). Laid BY PROGRAM, IN A SANDBOX (cutbox-door.mjs). By AI agents, Wed Nov 11 2026. No macro, syntax, notation, axiom, sorry.
-/
import Derived.Test.YtcfemppdeidjmacGreatDoorRows
import GoSem.ClaimSeven
namespace Go.Proofs.YtcfemppdeidjmacGreatDoor
namespace Rows

/-- THE TIED CARD OF 'footbridgelaw2.DeskPlays'. -/
def deskPlaysCard : Claim7 := { stood := { row := deskPlaysRow, standIns := [], harness := (true, "ea4541fbe318dce2f62a86f64328ebee7f35cdf7c593819d10ef14cbd65e903d"), looks := true }, kinds := [], alts := [], laidByText := true, laidKinds := [.handle], laidTests := true, laidLooks := .later }
def DeskPlaysCardSaid : Prop := Claim7.holds Tryz.pinned (.plain (OpenSpec.ofChange deskPlaysSpec)) deskPlaysCard

/-- THE TIED CARD OF 'footbridgelaw2.DeskKeeps'. -/
def deskKeepsCard : Claim7 := { stood := { row := deskKeepsRow, standIns := [], harness := (true, "ea4541fbe318dce2f62a86f64328ebee7f35cdf7c593819d10ef14cbd65e903d"), looks := true }, kinds := [], alts := [], laidByText := true, laidKinds := [.handle], laidTests := true, laidLooks := .later }
def DeskKeepsCardSaid : Prop := Claim7.holds Tryz.pinned (.plain (OpenSpec.ofChange deskKeepsSpec)) deskKeepsCard

/-- THE TIED CARD OF 'footbridgelaw2.DeskWhole'. -/
def deskWholeCard : Claim7 := { stood := { row := deskWholeRow, standIns := [], harness := (true, "ea4541fbe318dce2f62a86f64328ebee7f35cdf7c593819d10ef14cbd65e903d"), looks := true }, kinds := [], alts := [], laidByText := true, laidKinds := [.handle], laidTests := true, laidLooks := .later }
def DeskWholeCardSaid : Prop := Claim7.holds Tryz.pinned (.plain (OpenSpec.ofChange deskWholeSpec)) deskWholeCard

/-- THE SECOND FORM's CARD OF 'footbridgelaw2.DeskPlays'. -/
def deskPlaysUptoCard : Claim7 := { stood := { row := deskPlaysUptoRow, standIns := [], harness := (true, "ea4541fbe318dce2f62a86f64328ebee7f35cdf7c593819d10ef14cbd65e903d"), looks := true }, kinds := [], alts := [], laidByText := true, laidKinds := [.handle], laidTests := true, laidLooks := .later }
def DeskPlaysUptoCardSaid : Prop := Claim7.holds Tryz.pinned (.plain (OpenSpec.upto deskPlaysSpec)) deskPlaysUptoCard

/-- THE SECOND FORM's CARD OF 'footbridgelaw2.DeskKeeps'. -/
def deskKeepsUptoCard : Claim7 := { stood := { row := deskKeepsUptoRow, standIns := [], harness := (true, "ea4541fbe318dce2f62a86f64328ebee7f35cdf7c593819d10ef14cbd65e903d"), looks := true }, kinds := [], alts := [], laidByText := true, laidKinds := [.handle], laidTests := true, laidLooks := .later }
def DeskKeepsUptoCardSaid : Prop := Claim7.holds Tryz.pinned (.plain (OpenSpec.upto deskKeepsSpec)) deskKeepsUptoCard

/-- THE SECOND FORM's CARD OF 'footbridgelaw2.DeskWhole'. -/
def deskWholeUptoCard : Claim7 := { stood := { row := deskWholeUptoRow, standIns := [], harness := (true, "ea4541fbe318dce2f62a86f64328ebee7f35cdf7c593819d10ef14cbd65e903d"), looks := true }, kinds := [], alts := [], laidByText := true, laidKinds := [.handle], laidTests := true, laidLooks := .later }
def DeskWholeUptoCardSaid : Prop := Claim7.holds Tryz.pinned (.plain (OpenSpec.upto deskWholeSpec)) deskWholeUptoCard
end Rows
end Go.Proofs.YtcfemppdeidjmacGreatDoor
