/-
  What the landed Neck answers, as TopNeck wants it.
-/
import Derived.Test.YtcfemppdeidjmadGreatKg
import Derived.Test.YtcfemppdeidjmadGreatXn
namespace Go.Proofs.YtcfemppdeidjmadGreat.To
open Go.RowKit Go.Deep
open Go.RowKit (Below)
set_option linter.unusedVariables false

theorem neck_ok : NeckOk := fun {w ad m c hv} h n x y => by
  refine (Sp.neck_any h n x y).mono ?_
  rintro e w' ⟨z, err, rfl, hN, hb⟩
  rcases hN with ⟨k, hF, he, rfl⟩ | ⟨hF, _, rfl, rfl⟩ | ⟨_, _, _, _, _, _, _, _, _, _, rfl, rfl⟩ | ⟨n', a', b', W, hF, h1, h2, h3, h4, h5, h6, _, rfl, rfl⟩
  · exact Or.inl ⟨0, _, _, by rw [Sp.errV_some he], hb⟩
  · exact Or.inl ⟨0, _, _, by rw [Sp.errV_some (by decide)], hb⟩
  · exact Or.inl ⟨0, _, _, by rw [Sp.errV_some (by decide)], hb⟩
  · exact Or.inr ⟨n', a', b', W, by rw [Sp.errV_none], hb, h1, h2, h3, h4, h5, by have := hF.ok; omega, hF.ok.2.2.1, hF.ok.2.2.2, h6⟩

end Go.Proofs.YtcfemppdeidjmadGreat.To
