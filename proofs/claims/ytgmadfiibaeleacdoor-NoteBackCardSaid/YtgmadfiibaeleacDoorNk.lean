/-
  Bytes as edges: what the statements' own EdgesOf tells.
-/
import Derived.Test.YtgmadfiibaeleacDoorNi
import Derived.Test.YtgmadfiibaeleacDoorBd
namespace Go.Proofs.YtgmadfiibaeleacDoor.Nt
open Go.RowKit Go.Deep Go.Proofs.YtgmadfiibaeleacDoor.Br
open Go.RowKit (Below)
set_option linter.unusedVariables false

variable {w w' : World} {g : Nat → Nat} {N : Nat}

/-- Bytes, as they lie in memory. -/
structure BtAt (w : World) (a : Option Addr) (N : Nat) (g : Nat → Nat) : Prop where
  cell : ∀ i, i < N → ∃ b o, a = some ⟨b, o, none⟩ ∧ w.cell? ⟨b, o + i, none⟩ = some (.int .u8 (g i : Nat))
  byte : ∀ i, i < N → g i < 256

theorem BtAt.below {a : Option Addr} (h : BtAt w a N g) (hb : Below w.heap.size w w') : BtAt w' a N g := ⟨fun i hi => by
  obtain ⟨b, o, e, h1⟩ := h.cell i hi
  exact ⟨b, o, e, cell_keep hb h1⟩, h.byte⟩

theorem BtAt.at {b o : Nat} (h : BtAt w (some ⟨b, o, none⟩) N g) {i : Nat} (hi : i < N) : w.cell? ⟨b, o + i, none⟩ = some (.int .u8 (g i : Nat)) := by
  obtain ⟨b', o', e, h1⟩ := h.cell i hi
  simp only [Option.some.injEq, Addr.mk.injEq, and_true] at e
  obtain ⟨rfl, rfl⟩ := e
  exact h1

/-- The edges that bytes may tell. -/
def de (g : Nat → Nat) (i : Nat) : Int × Int := ((g (2 * i + 2) : Nat), (g (2 * i + 1 + 2) : Nat))
/-- Bytes of edges that may be. -/
def Good (N : Nat) (g : Nat → Nat) : Prop := 2 ≤ N ∧ N = 2 + 2 * g 1 ∧ Valid (g 0 : Nat) (g 1) (de g)

theorem eg_de {a : Option Addr} {m : Nat} (h : EdgesAt w a (edges (de g) m)) : EgAt w a m (de g) := fun i hi => by
  obtain ⟨b, o, e, h1, h2⟩ := h.cell i (by rw [edges_len]; exact hi)
  rw [edges_getD hi] at h1 h2
  exact ⟨b, o, e, h1, h2⟩

theorem edges_snoc (f : Nat → Int × Int) (j : Nat) : edges f (j + 1) = edges f j ++ [((f j).1.toNat, (f j).2.toNat)] := by simp [edges, List.range_succ]

end Go.Proofs.YtgmadfiibaeleacDoor.Nt
