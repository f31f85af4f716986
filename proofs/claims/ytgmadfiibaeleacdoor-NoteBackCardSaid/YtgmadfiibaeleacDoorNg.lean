/-
  Two texts in a row of one's own (for EventOf).
-/
import Derived.Test.YtgmadfiibaeleacDoorNf
namespace Go.Proofs.YtgmadfiibaeleacDoor.Nt
open Go.RowKit Go.Deep Go.Proofs.YtgmadfiibaeleacDoor.Br
open Go.RowKit (Below)
set_option linter.unusedVariables false

variable {w w' : World}

theorem own_two {base : Nat} {v : Value} {p q : List UInt8} (h : w.ownsRow base 9 1 v 2 (strs [p, q])) : ∃ g cap, v = .slice (some ⟨g, 0, none⟩) 2 cap ∧ w.cell? ⟨g, 0, none⟩ = some (.string (str p)) ∧ w.cell? ⟨g, 1, none⟩ = some (.string (str q)) ∧ g < w.heap.size := by
  rcases h.2 with ⟨hv, h0⟩ | ⟨g', cap', cur, hv, hb, hg, h1, h2, h3, h4⟩
  · cases h0
  · have e : ∀ i u, (strs [p, q])[i]? = some u → i < 2 → w.cell? ⟨g', i, none⟩ = some u := fun i u hu hi => by
      rw [← h4, List.getElem?_take, if_pos (by omega)] at hu
      simp only [World.cell?, hg]
      simpa using hu
    exact ⟨g', cap', hv, e 0 _ rfl (by omega), e 1 _ rfl (by omega), (Array.getElem?_eq_some_iff.1 hg).1⟩

end Go.Proofs.YtgmadfiibaeleacDoor.Nt
