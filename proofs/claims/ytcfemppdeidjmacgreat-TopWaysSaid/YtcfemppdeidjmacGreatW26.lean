/-
  Ka
-/
import Derived.Test.YtcfemppdeidjmacGreatW4
namespace Go.Proofs.YtcfemppdeidjmacGreat
set_option linter.unusedVariables false

variable {m n : Nat} {ed : Nat → Nat × Nat} {wt : Nat → Nat} {t : Nat → Bool}

def picked (m : Nat) (ed : Nat → Nat × Nat) (d : Nat → Bool) : List (Nat × Nat) := ((List.range m).filter d).map ed

def upto (m : Nat) (ed : Nat → Nat × Nat) (wt : Nat → Nat) (V : Nat) : List (Nat × Nat) := picked m ed (fun k => decide (wt k ≤ V))

def low (M : Nat) (l : List Nat) : Nat := (l.map fun x => min x M).sum

end Go.Proofs.YtcfemppdeidjmacGreat
