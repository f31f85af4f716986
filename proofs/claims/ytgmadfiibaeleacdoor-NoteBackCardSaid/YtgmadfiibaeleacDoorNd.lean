/-
  The statements' own events: Split, EventOf.
-/
import Derived.Test.YtgmadfiibaeleacDoorNc
namespace Go.Proofs.YtgmadfiibaeleacDoor.Nt
open Go.RowKit Go.Deep Go.Proofs.YtgmadfiibaeleacDoor.Br
open Go.RowKit (Below)
set_option linter.unusedVariables false

variable {w w' : World}

theorem Tryd.infoStr : (Tryd.prog.info? 9).map (fun i => (i.zero, i.size, i.bytes)) = some (some (.string (ByteArray.mk #[])), 1, 16) := by kernel_rfl

def strs (ps : List (List UInt8)) : List Value := ps.map fun p => Value.string (str p)
theorem strs_snoc (ps : List (List UInt8)) (p : List UInt8) : strs (ps ++ [p]) = strs ps ++ [.string (str p)] := by simp [strs]

theorem str_cut (l : List UInt8) (i j : Nat) : (str l).extract i j = str ((l.take j).drop i) := by
  unfold str
  rw [ByteArray.extract_mk]
  congr 1
  apply Array.ext'
  simp [List.drop_take]

theorem pieces_len (l : List UInt8) : (pieces l).length ≤ l.length + 1 := by
  induction l with
  | nil => simp [pieces_nil]
  | cons c r ih =>
    by_cases h : c = 32
    · subst h; rw [pieces_blank]; simp; omega
    · rw [pieces_cons r h]
      obtain ⟨p, ps, e⟩ := pieces_ne r
      rw [e] at ih ⊢
      simp [glue] at ih ⊢
      omega

end Go.Proofs.YtgmadfiibaeleacDoor.Nt
