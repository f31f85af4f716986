/-
  DERIVED. GIVEN WITH THE SEED: THE CARDS: each row of YtpmkllmeilhakaaDoorRows.lean that lists a variable, with what it lists TIED to the program's text (the seventh form; the later family's looks); each row that meets fmt, with fmt's text TOLD by the authors' own Lean function (tested against real Go, not proved from fmt's source: count such statements apart). THE CARD IS WHAT COUNTS. Prove the row's statement (the work); the ties are given (YtpmkllmeilhakaaDoorTie.lean); close each card by the builder's one call (the guide's Derived/Test/ToyasCard.lean, 'card_holds'). Laid BY PROGRAM, IN A SANDBOX (cutbox-door.mjs). By AI agents, Wed Nov 11 2026. No macro, syntax, notation, axiom, sorry.
-/
import Derived.Test.YtpmkllmeilhakaaDoorRows
import GoSem.ClaimSeven
namespace Go.Proofs.YtpmkllmeilhakaaDoor
namespace Rows

/-- THE TIED CARD OF 'footbridgelaw1.SeqPlays'. -/
def seqPlaysCard : Claim7 := { stood := { row := seqPlaysRow, standIns := [], harness := (true, "5507c4ab953b739fb5b34120ac82b572860cfa45dd9043ade0dbe082efc8eaf7"), looks := true }, kinds := [], alts := [], laidByText := true, laidKinds := [.handle], laidTests := true, laidLooks := .later }
def SeqPlaysCardSaid : Prop := Claim7.holds Tryd.pinned (.plain (OpenSpec.ofChange seqPlaysSpec)) seqPlaysCard

/-- THE SECOND FORM's CARD OF 'footbridgelaw1.SeqPlays'. -/
def seqPlaysUptoCard : Claim7 := { stood := { row := seqPlaysUptoRow, standIns := [], harness := (true, "5507c4ab953b739fb5b34120ac82b572860cfa45dd9043ade0dbe082efc8eaf7"), looks := true }, kinds := [], alts := [], laidByText := true, laidKinds := [.handle], laidTests := true, laidLooks := .later }
def SeqPlaysUptoCardSaid : Prop := Claim7.holds Tryd.pinned (.plain (OpenSpec.upto seqPlaysSpec)) seqPlaysUptoCard
end Rows
end Go.Proofs.YtpmkllmeilhakaaDoor
