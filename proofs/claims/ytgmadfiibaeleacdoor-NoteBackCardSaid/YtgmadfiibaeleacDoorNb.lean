/-
  The statements' own numbers in decimal: Dec, Number.
-/
import Derived.Test.YtgmadfiibaeleacDoorNa
import Derived.Test.YtgmadfiibaeleacDoorBg
namespace Go.Proofs.YtgmadfiibaeleacDoor.Nt
open Go.RowKit Go.Deep Go.Proofs.YtgmadfiibaeleacDoor.Br
open Go.RowKit (Below)
set_option linter.unusedVariables false

variable {w w' : World}

def str (l : List UInt8) : ByteArray := ⟨l.toArray⟩

theorem digit_at {d : Nat} (h : d < 10) : (ByteArray.mk #[48, 49, 50, 51, 52, 53, 54, 55, 56, 57]).extract d (d + 1) = str [UInt8.ofNat (48 + d)] := by
  have : d = 0 ∨ d = 1 ∨ d = 2 ∨ d = 3 ∨ d = 4 ∨ d = 5 ∨ d = 6 ∨ d = 7 ∨ d = 8 ∨ d = 9 := by omega
  rcases this with rfl | rfl | rfl | rfl | rfl | rfl | rfl | rfl | rfl | rfl <;> decide

theorem str_app (a b : List UInt8) : str a ++ str b = str (a ++ b) := by
  unfold str
  rw [ByteArray.mk_append_mk]

theorem str_nil : (ByteArray.mk #[]) = str [] := rfl

theorem str_size (l : List UInt8) : (str l).size = l.length := by simp [str, ByteArray.size]

/-- What Number tells. -/
def NumIs (l : List UInt8) (x : Int) : Prop := (Numeral l ∧ x = (val l : Nat)) ∨ (¬ Numeral l ∧ x = -1)

theorem val_lt {l : List UInt8} : ∀ (k : Nat), l.length ≤ k → (∀ c ∈ l, Dig c) → val l < 10 ^ k := by
  intro k
  induction k generalizing l with
  | zero =>
    intro hl _
    have : l = [] := List.eq_nil_of_length_eq_zero (by omega)
    subst this
    decide
  | succ k ih =>
    intro hl hd
    rcases List.eq_nil_or_concat l with rfl | ⟨r, c, rfl⟩
    · exact Nat.pow_pos (by decide)
    · rw [List.concat_eq_append] at hl hd ⊢
      rw [List.length_append] at hl
      have h1 := ih (l := r) (by simp at hl; omega) fun d hd' => hd d (List.mem_append_left _ hd')
      have h2 := hd c (by simp)
      unfold Dig at h2
      rw [val_snoc, Nat.pow_succ]
      omega

theorem str_get (l : List UInt8) (i : Nat) (h : i < (str l).size) : (str l)[i]'h = l.getD i 0 := by
  have h' : i < l.length := by rw [str_size] at h; exact h
  rw [List.getD_eq_getElem?_getD, List.getElem?_eq_getElem h']
  simp [str, ByteArray.getElem_eq_getElem_data]

end Go.Proofs.YtgmadfiibaeleacDoor.Nt
