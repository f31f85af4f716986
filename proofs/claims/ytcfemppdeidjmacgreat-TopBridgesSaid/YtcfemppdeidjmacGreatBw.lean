/-
  What package bridge answers, for BridgeMore.
-/
import Derived.Test.YtcfemppdeidjmacGreatBv
namespace Go.Proofs.YtcfemppdeidjmacGreat.Br
open Go.RowKit Go.Deep
open Go.RowKit (Below)
set_option linter.unusedVariables false

theorem not_valid {n : Int} {m : Nat} {f : Nat → Int × Int} (h : ¬ Valid n m f) : ∃ k x, EFault n m f k x ∧ x ≠ 0 := (fault_or n m f).resolve_left h

theorem plain_ok : PlainOk where
  bridges_no := fun {w a m c f} n h hv => by
    obtain ⟨k, x, h1, h2⟩ := not_valid hv
    exact (bridges_no (c := c) h n k x h1 h2).mono fun e w' ⟨q1, q2⟩ => ⟨_, _, _, q1, q2⟩
  parts_no := fun {w a m c f} n h hv => by
    obtain ⟨k, x, h1, h2⟩ := not_valid hv
    exact (parts_no (c := c) h n k x h1 h2).mono fun e w' ⟨q1, q2⟩ => ⟨_, _, _, q1, q2⟩
  bridges_ok := fun {w a m c n f} h _ _ hv => (bridges_ok (c := c) h hv).mono fun e w' ⟨v, L, q1, q2, q3, q4⟩ => by
    obtain ⟨a', c', rfl, h1, -, -⟩ := own_edges q3 rfl
    exact ⟨a', c', _, L, q1, q2, rfl, h1, q4⟩
  parts_ok := fun {w a m c n f p} h _ _ hv hp => (parts_ok (c := c) h hv hp).mono fun e w' ⟨k, c', q1, q2, q3⟩ => ⟨_, c', q1, q2, q3⟩

end Go.Proofs.YtcfemppdeidjmacGreat.Br
