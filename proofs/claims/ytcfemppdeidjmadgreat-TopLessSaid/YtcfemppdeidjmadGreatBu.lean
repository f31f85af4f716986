/-
  hangs and Bridges of package bridge.
-/
import Derived.Test.YtcfemppdeidjmadGreatBt
namespace Go.Proofs.YtcfemppdeidjmadGreat.Br
open Go.RowKit Go.Deep
open Go.RowKit (Below)
set_option linter.unusedVariables false

variable {w w' : World} {f : Nat → Int × Int} {kw kn n : Nat} {V : Nat → Value} {nb : Nat → List Nat} {s : St}

theorem WAt.below (h : WAt w kw kn n V nb s) (hb : Below w.heap.size w w') : WAt w' kw kn n V nb s := by
  obtain ⟨g, h1, h2⟩ := h.nd
  refine ⟨h.st.of_block (hb.block _ h.st.lt), ⟨g, h1.of_block (hb.block _ h1.lt), h2⟩, h.ne, fun i hi => ?_⟩
  obtain ⟨b, c, e1, e2, e3⟩ := h.near i hi
  exact ⟨b, c, e1, e2.below hb, e3⟩

/-- What the walk tells of an edge. -/
theorem hang_some (s : St) : ∃ t : Nat × Nat → Bool, ∀ e, t e = true ↔ (s.fr e.2 = (e.1 : Nat) ∧ s.back e.2 = s.turn e.2) ∨ (s.fr e.1 = (e.2 : Nat) ∧ s.back e.1 = s.turn e.1) := ⟨fun e => decide ((s.fr e.2 = (e.1 : Nat) ∧ s.back e.2 = s.turn e.2) ∨ (s.fr e.1 = (e.2 : Nat) ∧ s.back e.1 = s.turn e.1)), fun e => by simp⟩

theorem roots_brs {E : List (Nat × Nat)} {p : Nat → Nat} {t : Nat × Nat → Bool} (hR : Roots E n p s n) (hn : E.Nodup) (hlt : ∀ e ∈ E, e.1 < e.2 ∧ e.2 < n) (ht : ∀ e, t e = true ↔ (s.fr e.2 = (e.1 : Nat) ∧ s.back e.2 = s.turn e.2) ∨ (s.fr e.1 = (e.2 : Nat) ∧ s.back e.1 = s.turn e.1)) : Brs E (E.filter t) :=
  ⟨t, fun e he => by
    have := hlt e he
    rw [ht, bridge_iff hR.inv.deep hn (fun e he => (hlt e he).1) he (hR.seen _ (by omega)) (hR.seen _ (by omega))], rfl⟩

theorem may_lt {m : Nat} (hmay : ∀ i, i < m → May n f i) : ∀ e ∈ edges f m, e.1 < e.2 ∧ e.2 < n := fun e he => by
  obtain ⟨i, hi, rfl⟩ := List.mem_map.1 he
  have h2 := (hmay i (List.mem_range.1 hi)).1
  unfold Sane at h2
  show (f i).1.toNat < (f i).2.toNat ∧ (f i).2.toNat < n
  omega

end Go.Proofs.YtcfemppdeidjmadGreat.Br
