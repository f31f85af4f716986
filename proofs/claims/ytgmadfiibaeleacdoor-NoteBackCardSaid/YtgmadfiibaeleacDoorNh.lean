/-
  The statements' own events: EventOf, walked to its end.
-/
import Derived.Test.YtgmadfiibaeleacDoorNg
namespace Go.Proofs.YtgmadfiibaeleacDoor.Nt
open Go.RowKit Go.Deep Go.Proofs.YtgmadfiibaeleacDoor.Br
open Go.RowKit (Below)
set_option linter.unusedVariables false

variable {w w' : World}

theorem mark_byte {j : Nat} (hj : j < 3) (h : j < (ByteArray.mk #[43, 45, 63]).size) : (ByteArray.mk #[43, 45, 63])[j]'h = mark (j + 1) := by
  match j, hj with
  | 0, _ => rfl
  | 1, _ => rfl
  | 2, _ => rfl

theorem wh_step (c : UInt8) (j : Nat) : wh c (j + 1) = if mark (j + 1) = c then j + 1 else wh c j := rfl

end Go.Proofs.YtgmadfiibaeleacDoor.Nt
