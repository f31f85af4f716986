/-
  What package bridge answers, for BridgeMore.
-/
import Derived.Test.YtcfemppdeidjmadGreatBv
namespace Go.Proofs.YtcfemppdeidjmadGreat.Br
open Go.RowKit Go.Deep
open Go.RowKit (Below)
set_option linter.unusedVariables false

theorem not_valid {n : Int} {m : Nat} {f : Nat → Int × Int} (h : ¬ Valid n m f) : ∃ k x, EFault n m f k x ∧ x ≠ 0 := (fault_or n m f).resolve_left h

end Go.Proofs.YtcfemppdeidjmadGreat.Br
