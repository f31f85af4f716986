/-
  GraphPlays: what stands behind the switch.
-/
import Derived.Test.YtcebfloeikjjcaaGreatDoorGp3
namespace Go.Proofs.YtcebfloeikjjcaaGreatDoor.Gr
open Go.RowKit Go.Deep Go.Maps
open Go.RowKit (Below)
set_option linter.unusedVariables false

/-- Is a block the last of a code? -/
def endsBlock (n : Nat) : Code → Bool
  | .block k _ => k == n
  | .seq _ b => endsBlock n b
  | _ => false

/-- What stands behind a block of a code, by its label. -/
def afterBlock (n : Nat) : Code → Option Code
  | .loop c => afterBlock n c
  | .seq a b => if endsBlock n a then some b else match afterBlock n a with
    | some d => some d
    | none => afterBlock n b
  | .block _ c => afterBlock n c
  | .scope c => afterBlock n c
  | .cond _ a b => match afterBlock n a with
    | some c => some c
    | none => afterBlock n b
  | _ => none

theorem conn_mid {E : List (Nat × Nat)} {u v : Nat} (h : (min u v, max u v) ∈ E) : Conn E u v := by
  rcases Nat.le_total u v with q | q
  · rw [Nat.min_eq_left q, Nat.max_eq_right q] at h; exact conn_edge h
  · rw [Nat.min_eq_right q, Nat.max_eq_left q] at h; exact (conn_eqv E).symm (conn_edge h)


end Go.Proofs.YtcebfloeikjjcaaGreatDoor.Gr
