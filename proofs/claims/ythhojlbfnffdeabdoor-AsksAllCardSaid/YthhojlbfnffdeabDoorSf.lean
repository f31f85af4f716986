/-
  What package asks is to answer, it answers.
-/
import Derived.Test.YthhojlbfnffdeabDoorOj
import Derived.Test.YthhojlbfnffdeabDoorSe
namespace Go.Proofs.YthhojlbfnffdeabDoor.As
open Go.RowKit Go.Deep
open Go.RowKit (Below)
set_option linter.unusedVariables false

theorem errIs_of (x : Int) : ErrIs (errOf x) x := by
  by_cases h : x = 0
  · rw [show errOf x = .nilIface from if_pos h]
    exact ⟨Or.inl ⟨rfl, h⟩⟩
  · rw [show errOf x = .iface 23 (.int .i64 x) from if_neg h]
    exact ⟨Or.inr rfl⟩

theorem asksOk : AsksOk where
  check := by
    intro w a m c f n h hfit
    refine (acheck_any n h hfit).mono ?_
    rintro e w' ⟨k, x, rfl, hE, hb⟩
    exact ⟨k, x, _, rfl, errIs_of x, hE, hb⟩
  answers_no := by
    intro w a m c f n k x h hfit hE hx
    refine (answers_bad h hfit n k x hE hx).mono ?_
    rintro e w' ⟨rfl, hb⟩
    exact ⟨_, _, rfl, hb⟩
  answers_ok := by
    intro w a m c n f h h1 h60 hm hmay
    refine (answers_right h h1 h60 hm hmay).mono ?_
    rintro e w' ⟨v, l, rfl, hA, hown, hb⟩
    obtain ⟨a', c', rfl, hB, -, -⟩ := own_bools hown rfl
    exact ⟨a', c', _, l, rfl, hA, hB, hb⟩
  spans_no := by
    intro w a m c f n k x h hfit hE hx
    refine (aspans_any n h hfit).mono ?_
    rintro e w' ⟨v, k', x', rfl, hE', hb, h1, -⟩
    obtain ⟨rfl, rfl⟩ := hE'.one hE
    rw [h1 hx, show errOf x' = .iface 23 (.int .i64 x') from if_neg hx]
    exact ⟨_, _, rfl, hb⟩
  spans_ok := by
    intro w a m c n f h h1 h60 hm hmay
    have hE : EFault (n : Nat) m f 0 0 := Or.inr (Or.inr (Or.inr ⟨by omega, hm, by simpa using hmay, rfl, rfl⟩))
    refine (aspans_any (n : Nat) h (Fits.of_may h60 hmay)).mono ?_
    rintro e w' ⟨v, k', x', rfl, hE', hb, -, h2⟩
    obtain ⟨rfl, rfl⟩ := hE'.one hE
    obtain ⟨a', c', rfl, hEd, -, -⟩ := own_edges (h2 rfl) rfl
    rw [show errOf 0 = .nilIface from if_pos rfl]
    exact ⟨a', c', _, rfl, rfl, hEd, hb⟩

end Go.Proofs.YthhojlbfnffdeabDoor.As
