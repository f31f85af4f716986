/-
  NoteReads returns true.
-/
import Derived.Test.YtgmadfiibaeleacDoorNr
namespace Go.Proofs.YtgmadfiibaeleacDoor.Nt
open Go.RowKit Go.Deep Go.Proofs.YtgmadfiibaeleacDoor.Br
open Go.RowKit (Below)
set_option linter.unusedVariables false

variable {w w' : World} {f : Nat → Int × Int} {m N : Nat} {g : Nat → Nat}

/-- An event in a block of its own. -/
theorem row3_keep {b : Nat} {x y z : Int} (h : w.rowIs b 24 3 (cells3 x y z)) (hb : Below w.heap.size w w') : w'.rowIs b 24 3 (cells3 x y z) := h.of_block (hb.block _ h.lt)

theorem row3_cells {b : Nat} {x y z : Int} (h : w.rowIs b 24 3 (cells3 x y z)) : w.cell? ⟨b, 0, none⟩ = some (.int .i64 x) ∧ w.cell? ⟨b, 1, none⟩ = some (.int .i64 y) ∧ w.cell? ⟨b, 2, none⟩ = some (.int .i64 z) := ⟨h.cell (i := 0) (by omega), h.cell (i := 1) (by omega), h.cell (i := 2) (by omega)⟩

end Go.Proofs.YtgmadfiibaeleacDoor.Nt
