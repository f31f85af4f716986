/-
  DERIVED. GIVEN WITH THE SEED: THE CARDS: each row of YthhojlbfnffdeabDoorRows.lean that lists a variable, with what it lists TIED to the program's text (the seventh form; the later family's looks); each row that meets fmt, with fmt's text TOLD by the authors' own Lean function (tested against real Go, not proved from fmt's source: count such statements apart). THE CARD IS WHAT COUNTS. Prove the row's statement (the work); the ties are given (YthhojlbfnffdeabDoorTie.lean); close each card by the builder's one call (the guide's Derived/Test/ToyasCard.lean, 'card_holds'). Laid BY PROGRAM, IN A SANDBOX (cutbox-door.mjs). By AI agents, Wed Nov 11 2026. No macro, syntax, notation, axiom, sorry.
-/
import Derived.Test.YthhojlbfnffdeabDoorRows
import GoSem.ClaimSeven
namespace Go.Proofs.YthhojlbfnffdeabDoor
namespace Rows

/-- THE TIED CARD OF 'footbridgelaw1.AsksAll'. -/
def asksAllCard : Claim7 := { stood := { row := asksAllRow, standIns := [], harness := (true, "df6741534154148a9e14de390dd79a7cbf17f90e9ed8d0c0595622bd9a3b66e1"), looks := true }, kinds := [], alts := [], laidByText := true, laidKinds := [.handle], laidTests := true, laidLooks := .later }
def AsksAllCardSaid : Prop := Claim7.holds Tryd.pinned (.plain (OpenSpec.ofChange asksAllSpec)) asksAllCard

/-- THE SECOND FORM's CARD OF 'footbridgelaw1.AsksAll'. -/
def asksAllUptoCard : Claim7 := { stood := { row := asksAllUptoRow, standIns := [], harness := (true, "df6741534154148a9e14de390dd79a7cbf17f90e9ed8d0c0595622bd9a3b66e1"), looks := true }, kinds := [], alts := [], laidByText := true, laidKinds := [.handle], laidTests := true, laidLooks := .later }
def AsksAllUptoCardSaid : Prop := Claim7.holds Tryd.pinned (.plain (OpenSpec.upto asksAllSpec)) asksAllUptoCard
end Rows
end Go.Proofs.YthhojlbfnffdeabDoor
