/-
  DERIVED. GIVEN WITH THE SEED: THE CARDS: each row of YtgmadfiibaeleabDoorRows.lean that lists a variable, with what it lists TIED to the program's text (the seventh form; the later family's looks); each row that meets fmt, with fmt's text TOLD by the authors' own Lean function (tested against real Go, not proved from fmt's source: count such statements apart). THE CARD IS WHAT COUNTS. Prove the row's statement (the work); the ties are given (YtgmadfiibaeleabDoorTie.lean); close each card by the builder's one call (the guide's Derived/Test/ToyasCard.lean, 'card_holds'). Laid BY PROGRAM, IN A SANDBOX (cutbox-door.mjs). By AI agents, Wed Nov 11 2026. No macro, syntax, notation, axiom, sorry.
-/
import Derived.Test.YtgmadfiibaeleabDoorRows
import GoSem.ClaimSeven
namespace Go.Proofs.YtgmadfiibaeleabDoor
namespace Rows

/-- THE TIED CARD OF 'footbridgelaw1.AsksAll'. -/
def asksAllCard : Claim7 := { stood := { row := asksAllRow, standIns := [], harness := (true, "20a99887a6f06a453560f29598fca62ea9a80141f2c65d575540ddcc6a49eeb3"), looks := true }, kinds := [], alts := [], laidByText := true, laidKinds := [.handle], laidTests := true, laidLooks := .later }
def AsksAllCardSaid : Prop := Claim7.holds Tryd.pinned (.plain (OpenSpec.ofChange asksAllSpec)) asksAllCard

/-- THE TIED CARD OF 'footbridgelaw2.BridgeIs'. -/
def bridgeIsCard : Claim7 := { stood := { row := bridgeIsRow, standIns := [], harness := (true, "20a99887a6f06a453560f29598fca62ea9a80141f2c65d575540ddcc6a49eeb3"), looks := true }, kinds := [], alts := [], laidByText := true, laidKinds := [.handle], laidTests := true, laidLooks := .later }
def BridgeIsCardSaid : Prop := Claim7.holds Tryd.pinned (.plain (OpenSpec.ofChange bridgeIsSpec)) bridgeIsCard

/-- THE TIED CARD OF 'footbridgelaw2.BridgeHolds'. -/
def bridgeHoldsCard : Claim7 := { stood := { row := bridgeHoldsRow, standIns := [], harness := (true, "20a99887a6f06a453560f29598fca62ea9a80141f2c65d575540ddcc6a49eeb3"), looks := true }, kinds := [], alts := [], laidByText := true, laidKinds := [.handle], laidTests := true, laidLooks := .later }
def BridgeHoldsCardSaid : Prop := Claim7.holds Tryd.pinned (.plain (OpenSpec.ofChange bridgeHoldsSpec)) bridgeHoldsCard

/-- THE TIED CARD OF 'footbridgelaw2.PathIs'. -/
def pathIsCard : Claim7 := { stood := { row := pathIsRow, standIns := [], harness := (true, "20a99887a6f06a453560f29598fca62ea9a80141f2c65d575540ddcc6a49eeb3"), looks := true }, kinds := [], alts := [], laidByText := true, laidKinds := [.handle], laidTests := true, laidLooks := .later }
def PathIsCardSaid : Prop := Claim7.holds Tryd.pinned (.plain (OpenSpec.ofChange pathIsSpec)) pathIsCard

/-- THE TIED CARD OF 'footbridgelaw2.PathGoes'. -/
def pathGoesCard : Claim7 := { stood := { row := pathGoesRow, standIns := [], harness := (true, "20a99887a6f06a453560f29598fca62ea9a80141f2c65d575540ddcc6a49eeb3"), looks := true }, kinds := [], alts := [], laidByText := true, laidKinds := [.handle], laidTests := true, laidLooks := .later }
def PathGoesCardSaid : Prop := Claim7.holds Tryd.pinned (.plain (OpenSpec.ofChange pathGoesSpec)) pathGoesCard

/-- THE TIED CARD OF 'footbridgelaw2.PathRings'. -/
def pathRingsCard : Claim7 := { stood := { row := pathRingsRow, standIns := [], harness := (true, "20a99887a6f06a453560f29598fca62ea9a80141f2c65d575540ddcc6a49eeb3"), looks := true }, kinds := [], alts := [], laidByText := true, laidKinds := [.handle], laidTests := true, laidLooks := .later }
def PathRingsCardSaid : Prop := Claim7.holds Tryd.pinned (.plain (OpenSpec.ofChange pathRingsSpec)) pathRingsCard

/-- THE TIED CARD OF 'footbridgelaw2.NoteReads'. -/
def noteReadsCard : Claim7 := { stood := { row := noteReadsRow, standIns := [], harness := (true, "20a99887a6f06a453560f29598fca62ea9a80141f2c65d575540ddcc6a49eeb3"), looks := true }, kinds := [], alts := [], laidByText := true, laidKinds := [.data, .data, .data, .handle, .sentinel, .sentinel], laidTests := true, laidLooks := .later }
def NoteReadsCardSaid : Prop := Claim7.holds Tryd.pinned (.plain (OpenSpec.ofChange noteReadsSpec)) noteReadsCard

/-- THE SECOND FORM's CARD OF 'footbridgelaw1.AsksAll'. -/
def asksAllUptoCard : Claim7 := { stood := { row := asksAllUptoRow, standIns := [], harness := (true, "20a99887a6f06a453560f29598fca62ea9a80141f2c65d575540ddcc6a49eeb3"), looks := true }, kinds := [], alts := [], laidByText := true, laidKinds := [.handle], laidTests := true, laidLooks := .later }
def AsksAllUptoCardSaid : Prop := Claim7.holds Tryd.pinned (.plain (OpenSpec.upto asksAllSpec)) asksAllUptoCard

/-- THE SECOND FORM's CARD OF 'footbridgelaw2.BridgeIs'. -/
def bridgeIsUptoCard : Claim7 := { stood := { row := bridgeIsUptoRow, standIns := [], harness := (true, "20a99887a6f06a453560f29598fca62ea9a80141f2c65d575540ddcc6a49eeb3"), looks := true }, kinds := [], alts := [], laidByText := true, laidKinds := [.handle], laidTests := true, laidLooks := .later }
def BridgeIsUptoCardSaid : Prop := Claim7.holds Tryd.pinned (.plain (OpenSpec.upto bridgeIsSpec)) bridgeIsUptoCard

/-- THE SECOND FORM's CARD OF 'footbridgelaw2.BridgeHolds'. -/
def bridgeHoldsUptoCard : Claim7 := { stood := { row := bridgeHoldsUptoRow, standIns := [], harness := (true, "20a99887a6f06a453560f29598fca62ea9a80141f2c65d575540ddcc6a49eeb3"), looks := true }, kinds := [], alts := [], laidByText := true, laidKinds := [.handle], laidTests := true, laidLooks := .later }
def BridgeHoldsUptoCardSaid : Prop := Claim7.holds Tryd.pinned (.plain (OpenSpec.upto bridgeHoldsSpec)) bridgeHoldsUptoCard

/-- THE SECOND FORM's CARD OF 'footbridgelaw2.PathIs'. -/
def pathIsUptoCard : Claim7 := { stood := { row := pathIsUptoRow, standIns := [], harness := (true, "20a99887a6f06a453560f29598fca62ea9a80141f2c65d575540ddcc6a49eeb3"), looks := true }, kinds := [], alts := [], laidByText := true, laidKinds := [.handle], laidTests := true, laidLooks := .later }
def PathIsUptoCardSaid : Prop := Claim7.holds Tryd.pinned (.plain (OpenSpec.upto pathIsSpec)) pathIsUptoCard

/-- THE SECOND FORM's CARD OF 'footbridgelaw2.PathGoes'. -/
def pathGoesUptoCard : Claim7 := { stood := { row := pathGoesUptoRow, standIns := [], harness := (true, "20a99887a6f06a453560f29598fca62ea9a80141f2c65d575540ddcc6a49eeb3"), looks := true }, kinds := [], alts := [], laidByText := true, laidKinds := [.handle], laidTests := true, laidLooks := .later }
def PathGoesUptoCardSaid : Prop := Claim7.holds Tryd.pinned (.plain (OpenSpec.upto pathGoesSpec)) pathGoesUptoCard

/-- THE SECOND FORM's CARD OF 'footbridgelaw2.PathRings'. -/
def pathRingsUptoCard : Claim7 := { stood := { row := pathRingsUptoRow, standIns := [], harness := (true, "20a99887a6f06a453560f29598fca62ea9a80141f2c65d575540ddcc6a49eeb3"), looks := true }, kinds := [], alts := [], laidByText := true, laidKinds := [.handle], laidTests := true, laidLooks := .later }
def PathRingsUptoCardSaid : Prop := Claim7.holds Tryd.pinned (.plain (OpenSpec.upto pathRingsSpec)) pathRingsUptoCard

/-- THE SECOND FORM's CARD OF 'footbridgelaw2.NoteReads'. -/
def noteReadsUptoCard : Claim7 := { stood := { row := noteReadsUptoRow, standIns := [], harness := (true, "20a99887a6f06a453560f29598fca62ea9a80141f2c65d575540ddcc6a49eeb3"), looks := true }, kinds := [], alts := [], laidByText := true, laidKinds := [.data, .data, .data, .handle, .sentinel, .sentinel], laidTests := true, laidLooks := .later }
def NoteReadsUptoCardSaid : Prop := Claim7.holds Tryd.pinned (.plain (OpenSpec.upto noteReadsSpec)) noteReadsUptoCard
end Rows
end Go.Proofs.YtgmadfiibaeleabDoor
