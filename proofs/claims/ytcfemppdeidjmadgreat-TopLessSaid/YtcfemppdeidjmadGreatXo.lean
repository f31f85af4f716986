/-
  The statements of the whole: the closed fact that each begins with.
-/
import Derived.Test.YtcfemppdeidjmadGreatMa
import Derived.Test.YtcfemppdeidjmadGreatChecked
import Derived.Deep.Slices
import Derived.Deep.RegionHeld3
import Derived.WalkKit
import Derived.WalkLawsBesides
import Derived.WalkSpells
import Derived.Stop.Asserts
namespace Go.Proofs.YtcfemppdeidjmadGreat.To
open Go.RowKit Go.Deep
open Go.RowKit (Below)
set_option linter.unusedVariables false

/-- The closed fact: a graph that is kept. -/
def OneOk : Prop := ∀ {w : World}, Calls Tryz.prog 5 #[] w fun e w' => e = .returned (.bool true) ∧ Below w.heap.size w w'


end Go.Proofs.YtcfemppdeidjmadGreat.To
