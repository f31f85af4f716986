/-
  The statements' own events: EventOf, to its end.
-/
import Derived.Test.YtgmadfiibaeleacDoorNe
namespace Go.Proofs.YtgmadfiibaeleacDoor.Nt
open Go.RowKit Go.Deep Go.Proofs.YtgmadfiibaeleacDoor.Br
open Go.RowKit (Below)
set_option linter.unusedVariables false

variable {w w' : World}

/-- What Number tells is one. -/
theorem num_fun : ∃ nf : List UInt8 → Int, ∀ l, NumIs l (nf l) := by
  refine ⟨fun l => @ite _ (Numeral l) (Classical.propDecidable _) (val l : Nat) (-1), fun l => ?_⟩
  by_cases h : Numeral l
  · exact Or.inl ⟨h, if_pos h⟩
  · exact Or.inr ⟨h, if_neg h⟩

theorem NumIs.one {l : List UInt8} {x y : Int} (h : NumIs l x) (h' : NumIs l y) : x = y := by
  rcases h with ⟨h1, rfl⟩ | ⟨h1, rfl⟩ <;> rcases h' with ⟨h2, rfl⟩ | ⟨h2, rfl⟩
  · rfl
  · exact absurd h1 h2
  · exact absurd h2 h1
  · rfl

/-- A number that may be a node is told by its digits. -/
theorem NumIs.node {l : List UInt8} {x : Int} (h : NumIs l x) : (0 ≤ x ∧ x < 60) ↔ ∃ n : Nat, n ≤ 59 ∧ x = (n : Nat) ∧ l = dgt n := by
  constructor
  · intro hx
    rcases h with ⟨h1, rfl⟩ | ⟨_, rfl⟩
    · exact ⟨val l, by omega, rfl, num_dgt h1 (by omega)⟩
    · omega
  · rintro ⟨n, h1, rfl, -⟩
    omega

/-- Which mark a text begins with. -/
def wh (c : UInt8) : Nat → Nat
  | 0 => 0
  | j + 1 => if mark (j + 1) = c then j + 1 else wh c j

theorem wh_three (c : UInt8) : (wh c 3 = 0 ∧ ∀ k, 1 ≤ k ∧ k ≤ 3 → c ≠ mark k) ∨ (1 ≤ wh c 3 ∧ wh c 3 ≤ 3 ∧ c = mark (wh c 3)) := by
  have e : ∀ i, 1 ≤ i ∧ i ≤ 3 → i = 1 ∨ i = 2 ∨ i = 3 := fun i hi => by omega
  by_cases h3 : mark 3 = c
  · have : wh c 3 = 3 := by unfold wh; rw [if_pos h3]
    exact Or.inr (by rw [this]; exact ⟨by omega, by omega, h3.symm⟩)
  by_cases h2 : mark 2 = c
  · have : wh c 3 = 2 := by unfold wh; rw [if_neg h3]; unfold wh; rw [if_pos h2]
    exact Or.inr (by rw [this]; exact ⟨by omega, by omega, h2.symm⟩)
  by_cases h1 : mark 1 = c
  · have : wh c 3 = 1 := by unfold wh; rw [if_neg h3]; unfold wh; rw [if_neg h2]; unfold wh; rw [if_pos h1]
    exact Or.inr (by rw [this]; exact ⟨by omega, by omega, h1.symm⟩)
  refine Or.inl ⟨by unfold wh; rw [if_neg h3]; unfold wh; rw [if_neg h2]; unfold wh; rw [if_neg h1]; rfl, fun k hk q => ?_⟩
  rcases e k hk with rfl | rfl | rfl
  · exact h1 q.symm
  · exact h2 q.symm
  · exact h3 q.symm

/-- What the parts tell. -/
theorem tells_of {c : UInt8} {r p q : List UInt8} {x y : Int} (hp : pieces r = [p, q]) (hx : NumIs p x) (hy : NumIs q y) : (EvOk (wh c 3 : Nat) x y → TextIs (c :: r) ((wh c 3 : Nat), x, y)) ∧ (¬ EvOk (wh c 3 : Nat) x y → ∀ z, ¬ TextIs (c :: r) z) := by
  refine ⟨fun ⟨h1, h2, h3⟩ => ?_, fun hn z hz => hn ?_⟩
  · obtain ⟨a, a1, rfl, rfl⟩ := hx.node.1 h2
    obtain ⟨b, b1, rfl, rfl⟩ := hy.node.1 h3
    rcases wh_three c with ⟨q, _⟩ | ⟨q1, q2, q3⟩
    · omega
    · refine ⟨wh c 3, a, b, ⟨q1, q2⟩, a1, b1, rfl, ?_⟩
      rw [pieces_two hp]
      unfold text
      rw [← q3]
  · obtain ⟨p', q', e, k, a, b, hk, ha, hb, hc, rfl, rfl, -⟩ := text_cons hz
    rw [hp] at e
    injection e with e1 e2
    injection e2 with e2 _
    subst e1 e2
    have hxa : x = (a : Nat) := hx.one (Or.inl ⟨(dgt_num ha).1, by rw [(dgt_num ha).2]⟩)
    have hyb : y = (b : Nat) := hy.one (Or.inl ⟨(dgt_num hb).1, by rw [(dgt_num hb).2]⟩)
    rcases wh_three c with ⟨_, q⟩ | ⟨q1, q2, q3⟩
    · exact absurd hc (q k hk)
    · refine ⟨by omega, by omega, by omega⟩

end Go.Proofs.YtgmadfiibaeleacDoor.Nt
