/-
  The statements' own look whether two lists of numbers are the same: where they are, it says so.
-/
import Derived.Test.YthhojlbfnffdeabGreatWalks3
namespace Go.Proofs.YthhojlbfnffdeabGreat
open Go.RowKit Go.Deep

theorem below_drewN {w a : World} {n : Nat} (h : a = w.drewN n) : Below w.heap.size w a := by
  subst h
  induction n with
  | zero => exact Below.refl _ _
  | succ n ih => exact ih.drew

end Go.Proofs.YthhojlbfnffdeabGreat
