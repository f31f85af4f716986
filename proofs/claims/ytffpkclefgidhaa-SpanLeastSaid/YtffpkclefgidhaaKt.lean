/-
  The places that came in, as they lie in memory, and how many there may be.
-/
import Derived.Test.YtffpkclefgidhaaKr
import Derived.Test.YtffpkclefgidhaaKsc
import Derived.ProofKit
import Derived.OpenShut
import Derived.Deep.Slices
namespace Go.Proofs.Ytffpkclefgidhaa.Sp
open Go.ChangeShapes Go.WideShapes Go.ChangeAt Go.RowKit

theorem Try.bytesI : Try.prog.bytesOf 3 = 8 := by kernel_rfl

theorem picks_of {H : Type} {enc : TypeId × Value → H} {W : World} {a : Option Addr} {len cap fuel : Nat} {x : DataW H × List MemPlace} (h : DataW.trod enc Try.prog W 0 (fun _ => true) true fuel 22 [.slice a len cap] = some x) :
    Picks W a len ∧ (len = 0 ∨ ∃ el sp, x.1 = .slice el sp ∧ len ≤ el.length + sp.length) := by
  rcases open_ints Try.underlying22 Try.underlying3 Try.cellsI h with ⟨hcs, _⟩ | ⟨ad, l, c, zs, hcs, _, hle, hm, hz, hx, hcell, _⟩
  · simp at hcs
    obtain ⟨rfl, rfl, rfl⟩ := hcs
    exact ⟨fun i hi => absurd hi (Nat.not_lt_zero _), Or.inl rfl⟩
  · simp at hcs
    obtain ⟨rfl, rfl, rfl⟩ := hcs
    simp only [if_true] at hz
    refine ⟨fun i hi => ?_, Or.inr ⟨_, _, by rw [hx], ?_⟩⟩
    · obtain ⟨b, o, sp⟩ := ad
      have h0 := hcell 0 (by omega)
      have hs : sp = none := by simpa [Addr.add] using World.cell?_spot h0
      subst hs
      have h1 := hcell i (by omega)
      rw [Addr.add_lit] at h1
      exact ⟨b, o, rfl, _, h1⟩
    · simp [lits]
      omega

end Go.Proofs.Ytffpkclefgidhaa.Sp
