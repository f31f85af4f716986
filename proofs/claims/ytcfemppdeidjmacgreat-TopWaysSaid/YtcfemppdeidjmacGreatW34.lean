/-
  Xs
-/
import Derived.Test.YtcfemppdeidjmacGreatW33
import Derived.Test.YtcfemppdeidjmacGreatW28
namespace Go.Proofs.YtcfemppdeidjmacGreat.To
open Go.RowKit Go.Deep
open Go.RowKit (Below)
set_option linter.unusedVariables false

theorem short_tells : ShortTells := fun {w ad m c n a b f} h hmc hcm hv ha hb => by
  by_cases hc : Conn (Br.edges f m) a b
  · obtain ⟨k, hk⟩ := Pt.dist_some hc
    refine (Pt.short_goes h hv ha hb hk).mono ?_
    rintro e w' ⟨a', c', L, rfl, _, _, _, _, hb⟩
    exact Or.inl ⟨_, _, k, rfl, hb, hk⟩
  · refine (Pt.short_told h hv ha hb fun k hk => hc hk.conn).mono ?_
    rintro e w' ⟨a', c', rfl, hb⟩
    exact Or.inr ⟨_, _, _, _, rfl, hb, hc⟩

end Go.Proofs.YtcfemppdeidjmacGreat.To
