/-
  The statements' own events: EventFault, EventText.
-/
import Derived.Test.YtgmadfiibaeleacDoorNb
namespace Go.Proofs.YtgmadfiibaeleacDoor.Nt
open Go.RowKit Go.Deep Go.Proofs.YtgmadfiibaeleacDoor.Br
open Go.RowKit (Below)
set_option linter.unusedVariables false

variable {w w' : World}

/-- An event that may be written. -/
def EvOk (k a b : Int) : Prop := (1 ≤ k ∧ k ≤ 3) ∧ (0 ≤ a ∧ a < 60) ∧ (0 ≤ b ∧ b < 60)

def evv (k a b : Int) : Value := .agg #[.int .i64 k, .int .i64 a, .int .i64 b]

theorem mark_at {k : Nat} (h : 1 ≤ k ∧ k ≤ 3) : (ByteArray.mk #[43, 45, 63]).extract (k - 1) k = str [mark k] := by
  have : k = 1 ∨ k = 2 ∨ k = 3 := by omega
  rcases this with rfl | rfl | rfl <;> decide

theorem str_blank : (ByteArray.mk #[32]) = str [32] := rfl

end Go.Proofs.YtgmadfiibaeleacDoor.Nt
