/-
  What the statements want of package note: both sides by the same words.
-/
import Derived.Test.YtgmadfiibaeleacDoorNm
import Derived.Test.YtgmadfiibaeleacDoorNq
import Derived.Test.YtgmadfiibaeleacDoorTold
import Derived.Laws.IdiomStrings
namespace Go.Proofs.YtgmadfiibaeleacDoor.Nt
open Go.RowKit Go.Deep Go.Proofs.YtgmadfiibaeleacDoor.Br
open Go.RowKit (Below)
set_option linter.unusedVariables false

variable {w w' : World}

/-- An own row of bytes that is not empty. -/
theorem own_bytes {base n : Nat} {v : Value} {l : List UInt8} (h : w.ownsRow base 5 1 v n (bys l)) (h0 : 0 < n) : l.length = n ∧ ∃ k cap, v = .slice (some ⟨k, 0, none⟩) n cap ∧ n ≤ cap ∧ cap ≤ maxLen ∧ ∀ j (hj : j < l.length), w.cell? ⟨k, j, none⟩ = some (by1 l[j]) := by
  have hl : l.length = n := by have := h.1; rw [bys_len] at this; omega
  refine ⟨hl, ?_⟩
  rcases h.2 with ⟨hv, h1⟩ | ⟨k, cap, cur, hv, hb, hg, h1, h2, h3, h4⟩
  · omega
  · refine ⟨k, cap, hv, h1, h2, fun j hj => ?_⟩
    have e1 : (cur.toList.take (n * 1))[j]? = some (by1 l[j]) := by
      rw [h4, bys, List.getElem?_map, List.getElem?_eq_getElem hj]; rfl
    rw [List.getElem?_take, if_pos (by omega)] at e1
    simp only [World.cell?, hg]
    simpa using e1

theorem conv_own {n k cap : Nat} {l : List UInt8} (hl : l.length = n) (hc : ∀ j (hj : j < l.length), w.cell? ⟨k, j, none⟩ = some (by1 l[j])) :
    (convert 31 9 (.slice (some ⟨k, 0, none⟩) n cap)).run Tryd.prog w = .ok (.string (str l)) w := by
  have := run_convert_bytes_back (P := Tryd.prog) w 31 9 5 ⟨k, 0, none⟩ cap l Tryd.underlying31 Tryd.underlying5 Tryd.underlying9 (fun j hj => by rw [add_at, Nat.zero_add]; exact hc j hj)
  rw [hl] at this
  exact this

theorem conv_none (W : World) : (convert 31 9 (.slice none 0 0)).run Tryd.prog W = .ok (.string (ByteArray.mk #[])) W := by kernel_rfl

theorem edges_nil (w : World) (a : Option Addr) : EdgesAt w a [] := ⟨fun i hi => absurd hi (Nat.not_lt_zero _)⟩

end Go.Proofs.YtgmadfiibaeleacDoor.Nt
