/-
  What package bridge answers, for BridgeIs.
-/
import Derived.Test.YtflifofpfodnnabDoorBv
import Derived.Test.YtflifofpfodnnabDoorBh
namespace Go.Proofs.YtflifofpfodnnabDoor.Br
open Go.RowKit Go.Deep
open Go.RowKit (Below)
set_option linter.unusedVariables false

theorem errV_is (x : Int) : ErrIs (errV x) x := by
  unfold errV
  split
  · rename_i h; subst h; exact ⟨Or.inl ⟨rfl, rfl⟩⟩
  · exact ⟨Or.inr rfl⟩

theorem all_ok : BridgeOk where
  check := fun {w a m c f} n h => (check_any (c := c) h n).mono fun e w' ⟨k, x, q1, q2, q3⟩ => ⟨k, x, _, q1, errV_is x, q2, q3⟩
  bridges_no := fun {w a m c f} n k x h hF hx => (bridges_no (c := c) h n k x hF hx).mono fun e w' ⟨q1, q2⟩ => ⟨_, _, q1, q2⟩
  joints_no := fun {w a m c f} n k x h hF hx => (joints_no (c := c) h n k x hF hx).mono fun e w' ⟨q1, q2⟩ => ⟨_, _, q1, q2⟩
  parts_no := fun {w a m c f} n k x h hF hx => (parts_no (c := c) h n k x hF hx).mono fun e w' ⟨q1, q2⟩ => ⟨_, _, q1, q2⟩
  bridges_ok := fun {w a m c n f} h _ _ hv => (bridges_ok (c := c) h hv).mono fun e w' ⟨v, L, q1, q2, q3, q4⟩ => by
    obtain ⟨a', c', rfl, h1, -, -⟩ := own_edges q3 rfl
    exact ⟨a', c', _, L, q1, q2, rfl, h1, q4⟩
  joints_ok := fun {w a m c n f} h _ _ hv => (joints_ok (c := c) h hv).mono fun e w' ⟨v, L, q1, q2, q3, q4⟩ => by
    obtain ⟨a', c', rfl, h1⟩ := own_ints q3 rfl
    exact ⟨a', c', _, L, q1, q2, h1, q4⟩
  parts_ok := fun {w a m c n f p} h _ _ hv hp => (parts_ok (c := c) h hv hp).mono fun e w' ⟨k, c', q1, q2, q3⟩ => ⟨_, c', q1, q2, q3⟩

end Go.Proofs.YtflifofpfodnnabDoor.Br
