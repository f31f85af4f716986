/-
  Xi
-/
import Derived.Test.YtcfemppdeidjmacGreatT31
import Derived.Test.YtcfemppdeidjmacGreatT26
namespace Go.Proofs.YtcfemppdeidjmacGreat.To
open Go.RowKit Go.Deep
open Go.RowKit (Below)
set_option linter.unusedVariables false

theorem ring_tells : RingTells := fun {w ad m c n f} h hmc hcm hv => by
  by_cases hall : ∀ e ∈ Br.edges f m, Br.Bridge (Br.edges f m) e
  · refine (Pt.ring_is.ring_none h hmc hcm hv hall).mono ?_
    rintro e w' ⟨v, rfl, hb⟩
    exact ⟨_, _, rfl, hb, Or.inr ⟨⟨_, _, rfl⟩, hall⟩⟩
  · refine (Pt.ring_is.ring_some h hmc hcm hv hall).mono ?_
    rintro e w' ⟨a', c', N, r, rfl, _, _, _, _, hb⟩
    exact ⟨_, _, rfl, hb, Or.inl ⟨rfl, hall⟩⟩

end Go.Proofs.YtcfemppdeidjmacGreat.To
