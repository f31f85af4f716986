/-
  Rings, plain: an edge of a ring is no bridge; a bridge's node with another edge is a joint.
-/
import Derived.Test.YtinflbkmemjgbabDoorPa
namespace Go.Proofs.YtinflbkmemjgbabDoor.Pt
open Go.Proofs.YtinflbkmemjgbabDoor.Br
set_option linter.unusedVariables false

variable {E : List (Nat × Nat)} {a b c i j k n m N : Nat}

/-- A ring of N nodes, told by their places. -/
structure Ring (E : List (Nat × Nat)) (N : Nat) (r : Nat → Nat) : Prop where
  three : 3 ≤ N
  inj : ∀ i j, i < N → j < N → r i = r j → i = j
  next : ∀ i, i < N → Next E (r i) (r ((i + 1) % N))

/-- The edge of two nodes, as it stands in a list of which each edge has the lesser node first. -/
theorem next_edge (hl : ∀ e ∈ E, e.1 < e.2) (h : Next E a b) : (min a b, max a b) ∈ E := by
  rcases h with h | h
  · have h1 : a < b := hl _ h
    rw [Nat.min_eq_left (by omega), Nat.max_eq_right (by omega)]; exact h
  · have h1 : b < a := hl _ h
    rw [Nat.min_eq_right (by omega), Nat.max_eq_left (by omega)]; exact h

theorem next_conn {E' : List (Nat × Nat)} (h : (min a b, max a b) ∈ E') : Conn E' a b := by
  rcases Nat.le_total a b with q | q
  · rw [Nat.min_eq_left q, Nat.max_eq_right q] at h; exact conn_edge h
  · rw [Nat.min_eq_right q, Nat.max_eq_left q] at h; exact (conn_eqv _).symm (conn_edge h)

/-- An edge of a ring is no bridge. -/
theorem Ring.bridge {r : Nat → Nat} (h : Ring E N r) (hl : ∀ e ∈ E, e.1 < e.2) (hnd : E.Nodup) (hi : i < N) : ¬ Bridge E (min (r i) (r ((i + 1) % N)), max (r i) (r ((i + 1) % N))) := by
  have h3 := h.three
  obtain ⟨e, he⟩ : ∃ e, (min (r i) (r ((i + 1) % N)), max (r i) (r ((i + 1) % N))) = e := ⟨_, rfl⟩
  have key : ∀ k, k + 1 ≤ N → Conn (E.erase e) (r ((i + 1) % N)) (r ((i + 1 + k) % N)) := by
    intro k
    induction k with
    | zero => intro _; exact (conn_eqv _).refl _
    | succ k ih =>
      intro hk
      refine (conn_eqv _).trans (ih (by omega)) ?_
      obtain ⟨j, hj⟩ : ∃ j, (i + 1 + k) % N = j := ⟨_, rfl⟩
      have hjN : j < N := by rw [← hj]; exact Nat.mod_lt _ (by omega)
      have hj1 : (i + 1 + (k + 1)) % N = (j + 1) % N := by rw [← hj, Nat.mod_add_mod]; rfl
      rw [hj, hj1]
      have hji : j ≠ i := by
        intro q
        rw [q] at hj
        rcases Nat.lt_or_ge (i + 1 + k) N with z | z
        · rw [Nat.mod_eq_of_lt z] at hj; omega
        · rw [Nat.mod_eq_sub_mod z, Nat.mod_eq_of_lt (by omega)] at hj; omega
      have hi1 : (i + 1) % N < N := Nat.mod_lt _ (by omega)
      have hj1N : (j + 1) % N < N := Nat.mod_lt _ (by omega)
      refine next_conn ((hnd.mem_erase_iff).2 ⟨fun q => ?_, next_edge hl (h.next j hjN)⟩)
      rw [← he] at q
      have q1 := congrArg Prod.fst q
      have q2 := congrArg Prod.snd q
      simp only at q1 q2
      have hor : (r j = r i ∧ r ((j + 1) % N) = r ((i + 1) % N)) ∨ (r j = r ((i + 1) % N) ∧ r ((j + 1) % N) = r i) := by omega
      rcases hor with ⟨z1, _⟩ | ⟨z1, z2⟩
      · exact hji (h.inj j i hjN hi z1)
      · have w1 := h.inj _ _ hjN hi1 z1
        have w2 := h.inj _ _ hj1N hi z2
        have m1 : (i + 1) % N = i + 1 ∨ ((i + 1) % N = 0 ∧ i + 1 = N) := by
          rcases Nat.lt_or_ge (i + 1) N with z | z
          · exact Or.inl (Nat.mod_eq_of_lt z)
          · have : i + 1 = N := by omega
            exact Or.inr ⟨by rw [this, Nat.mod_self], this⟩
        have m2 : (j + 1) % N = j + 1 ∨ ((j + 1) % N = 0 ∧ j + 1 = N) := by
          rcases Nat.lt_or_ge (j + 1) N with z | z
          · exact Or.inl (Nat.mod_eq_of_lt z)
          · have : j + 1 = N := by omega
            exact Or.inr ⟨by rw [this, Nat.mod_self], this⟩
        omega
  intro hb
  have hlast := key (N - 1) (by omega)
  have hw : (i + 1 + (N - 1)) % N = i := by
    rw [show i + 1 + (N - 1) = i + N by omega, Nat.add_mod_right, Nat.mod_eq_of_lt hi]
  rw [hw] at hlast
  have hb' : ¬ Conn (E.erase e) e.1 e.2 := by rw [he] at hb; exact hb
  refine hb' ?_
  rw [← he] at hlast ⊢
  rcases Nat.le_total (r i) (r ((i + 1) % N)) with q | q
  · simp only [Nat.min_eq_left q, Nat.max_eq_right q] at hlast ⊢
    exact (conn_eqv _).symm hlast
  · simp only [Nat.min_eq_right q, Nat.max_eq_left q] at hlast ⊢
    exact hlast

/-- An edge is a bridge just if without it there is no walk between its nodes. -/
theorem bridge_walk {e : Nat × Nat} : Bridge E e ↔ ∀ k, ¬ Walk (E.erase e) e.2 e.1 k := by
  constructor
  · exact fun h k hk => h hk.conn
  · intro h hc
    obtain ⟨k, hk⟩ := walk_of hc
    exact h k hk

/-- Who stands at a bridge with another edge besides is a joint. -/
theorem bridge_joint {e g : Nat × Nat} (hl : ∀ e ∈ E, e.1 < e.2) (hnd : E.Nodup) (hb : Bridge E e) (he : e ∈ E) (hg : g ∈ E) (hne : g ≠ e) (hx : (g.1 = a ∨ g.2 = a) ∧ (e.1 = a ∨ e.2 = a)) : Joint E a := by
  have hle := hl e he
  have hlg := hl g hg
  -- the other ends
  obtain ⟨u, hu, hue⟩ : ∃ u, u ≠ a ∧ ((e.1 = a ∧ e.2 = u) ∨ (e.2 = a ∧ e.1 = u)) := by
    rcases hx.2 with q | q
    · exact ⟨e.2, by omega, Or.inl ⟨q, rfl⟩⟩
    · exact ⟨e.1, by omega, Or.inr ⟨q, rfl⟩⟩
  obtain ⟨v, hv, hvg⟩ : ∃ v, v ≠ a ∧ ((g.1 = a ∧ g.2 = v) ∨ (g.2 = a ∧ g.1 = v)) := by
    rcases hx.1 with q | q
    · exact ⟨g.2, by omega, Or.inl ⟨q, rfl⟩⟩
    · exact ⟨g.1, by omega, Or.inr ⟨q, rfl⟩⟩
  have cE : ∀ {F : List (Nat × Nat)} {z : Nat × Nat} {y : Nat}, z ∈ F → ((z.1 = a ∧ z.2 = y) ∨ (z.2 = a ∧ z.1 = y)) → Conn F a y := fun {F z y} hz hh => by
    rcases hh with ⟨q1, q2⟩ | ⟨q1, q2⟩
    · rw [← q1, ← q2]; exact conn_edge hz
    · rw [← q1, ← q2]; exact (conn_eqv _).symm (conn_edge hz)
  refine ⟨u, v, hu, hv, (conn_eqv _).trans ((conn_eqv _).symm (cE he hue)) (cE hg hvg), fun hc => hb ?_⟩
  have hsub : ∀ z ∈ without E a, z ∈ E.erase e := fun z hz => by
    obtain ⟨z1, z2, z3⟩ := mem_without.1 hz
    refine (hnd.mem_erase_iff).2 ⟨fun q => ?_, z1⟩
    subst q
    rcases hx.2 with q | q
    · exact z2 q
    · exact z3 q
  have h1 : Conn (E.erase e) a v := cE ((hnd.mem_erase_iff).2 ⟨hne, hg⟩) hvg
  have h2 : Conn (E.erase e) u v := conn_mono hsub hc
  have h3 : Conn (E.erase e) a u := (conn_eqv _).trans h1 ((conn_eqv _).symm h2)
  rcases hue with ⟨q1, q2⟩ | ⟨q1, q2⟩
  · rw [q1, q2]; exact h3
  · rw [q1, q2]; exact (conn_eqv _).symm h3

end Go.Proofs.YtinflbkmemjgbabDoor.Pt
