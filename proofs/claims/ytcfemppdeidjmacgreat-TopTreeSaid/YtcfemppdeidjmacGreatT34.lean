/-
  Xj Xk
-/
import Derived.Test.YtcfemppdeidjmacGreatT33
import Derived.Test.YtcfemppdeidjmacGreatT26
import Derived.ProofKit
import Derived.OpenShut
namespace Go.Proofs.YtcfemppdeidjmacGreat.To
open Go.RowKit Go.Deep
open Go.RowKit (Below)
set_option linter.unusedVariables false

theorem span_tells : SpanTells := fun {w ad m c hv t} h ht n hF => by
  refine (Sp.span_any h ht n).mono ?_
  rintro e w' ⟨v, err, k, rfl, hb, hF', ho⟩
  obtain ⟨-, rfl⟩ := hF.one hF'
  rcases ho with ⟨h1, _⟩ | ⟨_, a, c, rfl, _, hc⟩
  · exact absurd rfl h1
  · exact ⟨a, c, by rw [Sp.errV_none], hb, hc⟩

end Go.Proofs.YtcfemppdeidjmacGreat.To

namespace Go.Proofs.YtcfemppdeidjmacGreat.To
open Go.ChangeShapes Go.WideShapes Go.ChangeAt Go.RowKit

theorem Tryz.cellsI : Tryz.prog.cellsOf 3 = 1 := by kernel_rfl

theorem nums_of {H : Type} {enc : TypeId × Value → H} {W : World} {a : Option Addr} {len cap fuel : Nat} {x : DataW H × List MemPlace} (h : DataW.trod enc Tryz.prog W 0 (fun _ => true) true fuel 33 [.slice a len cap] = some x) : ∃ f, NsAt W a len f := by
  rcases open_ints Tryz.underlying33 Tryz.underlying3 Tryz.cellsI h with ⟨hcs, _⟩ | ⟨ad, l, c, zs, hcs, _, hl, hm, hz, _, hcell, _⟩
  · simp at hcs
    obtain ⟨rfl, rfl, rfl⟩ := hcs
    exact ⟨fun _ => 0, fun i hi => absurd hi (Nat.not_lt_zero _)⟩
  · simp at hcs
    obtain ⟨rfl, rfl, rfl⟩ := hcs
    simp only [if_true] at hz
    refine ⟨fun i => zs.getD i 0, fun i hi => ?_⟩
    have hc := hcell i (by omega)
    obtain ⟨b, o, sp⟩ := ad
    have hsp : sp = none := by simpa [Addr.add] using World.cell?_spot (hcell 0 (by omega))
    subst hsp
    rw [Addr.add_lit] at hc
    exact ⟨b, o, rfl, hc⟩

end Go.Proofs.YtcfemppdeidjmacGreat.To
