/-
  DERIVED. GIVEN WITH THE SEED: THE CARDS: each row of YtffpkclefgidhaaDoorRows.lean that lists a variable, with what it lists TIED to the program's text (the seventh form; the later family's looks); each row that meets fmt, with fmt's text TOLD by the authors' own Lean function (tested against real Go, not proved from fmt's source: count such statements apart). THE CARD IS WHAT COUNTS. Prove the row's statement (the work); the ties are given (YtffpkclefgidhaaDoorTie.lean); close each card by the builder's one call (the guide's Derived/Test/ToyasCard.lean, 'card_holds'). Laid BY PROGRAM, IN A SANDBOX (cutbox-door.mjs). By AI agents, Wed Nov 11 2026. No macro, syntax, notation, axiom, sorry.
-/
import Derived.Test.YtffpkclefgidhaaDoorRows
import GoSem.ClaimSeven
namespace Go.Proofs.YtffpkclefgidhaaDoor
namespace Rows

/-- THE TIED CARD OF 'footbridgelaw1.SeqPlays'. -/
def seqPlaysCard : Claim7 := { stood := { row := seqPlaysRow, standIns := [], harness := (true, "ab6555d74abc36ee343990b652498757915b0e82671bc094eaa67d43c7311ae2"), looks := true }, kinds := [], alts := [], laidByText := true, laidKinds := [.handle], laidTests := true, laidLooks := .later }
def SeqPlaysCardSaid : Prop := Claim7.holds Tryd.pinned (.plain (OpenSpec.ofChange seqPlaysSpec)) seqPlaysCard

/-- THE TIED CARD OF 'footbridgelaw1.SpanIs'. -/
def spanIsCard : Claim7 := { stood := { row := spanIsRow, standIns := [], harness := (true, "ab6555d74abc36ee343990b652498757915b0e82671bc094eaa67d43c7311ae2"), looks := true }, kinds := [], alts := [], laidByText := true, laidKinds := [.handle], laidTests := true, laidLooks := .later }
def SpanIsCardSaid : Prop := Claim7.holds Tryd.pinned (.plain (OpenSpec.ofChange spanIsSpec)) spanIsCard

/-- THE SECOND FORM's CARD OF 'footbridgelaw1.SeqPlays'. -/
def seqPlaysUptoCard : Claim7 := { stood := { row := seqPlaysUptoRow, standIns := [], harness := (true, "ab6555d74abc36ee343990b652498757915b0e82671bc094eaa67d43c7311ae2"), looks := true }, kinds := [], alts := [], laidByText := true, laidKinds := [.handle], laidTests := true, laidLooks := .later }
def SeqPlaysUptoCardSaid : Prop := Claim7.holds Tryd.pinned (.plain (OpenSpec.upto seqPlaysSpec)) seqPlaysUptoCard

/-- THE SECOND FORM's CARD OF 'footbridgelaw1.SpanIs'. -/
def spanIsUptoCard : Claim7 := { stood := { row := spanIsUptoRow, standIns := [], harness := (true, "ab6555d74abc36ee343990b652498757915b0e82671bc094eaa67d43c7311ae2"), looks := true }, kinds := [], alts := [], laidByText := true, laidKinds := [.handle], laidTests := true, laidLooks := .later }
def SpanIsUptoCardSaid : Prop := Claim7.holds Tryd.pinned (.plain (OpenSpec.upto spanIsSpec)) spanIsUptoCard
end Rows
end Go.Proofs.YtffpkclefgidhaaDoor
