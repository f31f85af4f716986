/-
  DERIVED. GIVEN WITH THE SEED: THE CARDS: each row of YtflifofpfodnnabDoorRows.lean that lists a variable, with what it lists TIED to the program's text (the seventh form; the later family's looks); each row that meets fmt, with fmt's text TOLD by the authors' own Lean function (tested against real Go, not proved from fmt's source: count such statements apart). THE CARD IS WHAT COUNTS. Prove the row's statement (the work); the ties are given (YtflifofpfodnnabDoorTie.lean); close each card by the builder's one call (the guide's Derived/Test/ToyasCard.lean, 'card_holds'). Laid BY PROGRAM, IN A SANDBOX (cutbox-door.mjs). By AI agents, Wed Nov 11 2026. No macro, syntax, notation, axiom, sorry.
-/
import Derived.Test.YtflifofpfodnnabDoorRows
import GoSem.ClaimSeven
namespace Go.Proofs.YtflifofpfodnnabDoor
namespace Rows

/-- THE TIED CARD OF 'footbridgelaw1.AsksAll'. -/
def asksAllCard : Claim7 := { stood := { row := asksAllRow, standIns := [], harness := (true, "636b3e18c0ba2f595c7a78ef9a0f95ff1a52803921d14a616baf33e5b3449a6e"), looks := true }, kinds := [], alts := [], laidByText := true, laidKinds := [.handle], laidTests := true, laidLooks := .later }
def AsksAllCardSaid : Prop := Claim7.holds Tryd.pinned (.plain (OpenSpec.ofChange asksAllSpec)) asksAllCard

/-- THE TIED CARD OF 'footbridgelaw2.BridgeIs'. -/
def bridgeIsCard : Claim7 := { stood := { row := bridgeIsRow, standIns := [], harness := (true, "636b3e18c0ba2f595c7a78ef9a0f95ff1a52803921d14a616baf33e5b3449a6e"), looks := true }, kinds := [], alts := [], laidByText := true, laidKinds := [.handle], laidTests := true, laidLooks := .later }
def BridgeIsCardSaid : Prop := Claim7.holds Tryd.pinned (.plain (OpenSpec.ofChange bridgeIsSpec)) bridgeIsCard

/-- THE SECOND FORM's CARD OF 'footbridgelaw1.AsksAll'. -/
def asksAllUptoCard : Claim7 := { stood := { row := asksAllUptoRow, standIns := [], harness := (true, "636b3e18c0ba2f595c7a78ef9a0f95ff1a52803921d14a616baf33e5b3449a6e"), looks := true }, kinds := [], alts := [], laidByText := true, laidKinds := [.handle], laidTests := true, laidLooks := .later }
def AsksAllUptoCardSaid : Prop := Claim7.holds Tryd.pinned (.plain (OpenSpec.upto asksAllSpec)) asksAllUptoCard

/-- THE SECOND FORM's CARD OF 'footbridgelaw2.BridgeIs'. -/
def bridgeIsUptoCard : Claim7 := { stood := { row := bridgeIsUptoRow, standIns := [], harness := (true, "636b3e18c0ba2f595c7a78ef9a0f95ff1a52803921d14a616baf33e5b3449a6e"), looks := true }, kinds := [], alts := [], laidByText := true, laidKinds := [.handle], laidTests := true, laidLooks := .later }
def BridgeIsUptoCardSaid : Prop := Claim7.holds Tryd.pinned (.plain (OpenSpec.upto bridgeIsSpec)) bridgeIsUptoCard
end Rows
end Go.Proofs.YtflifofpfodnnabDoor
