/-
  The statements' own answer: which edge is wrong first, and how.
-/
import Derived.Test.YtgmadfiibaeleacDoorBg
namespace Go.Proofs.YtgmadfiibaeleacDoor.Br
open Go.RowKit Go.Deep
open Go.RowKit (Below)
set_option linter.unusedVariables false

variable {w w' : World} {f : Nat → Int × Int}

end Go.Proofs.YtgmadfiibaeleacDoor.Br
