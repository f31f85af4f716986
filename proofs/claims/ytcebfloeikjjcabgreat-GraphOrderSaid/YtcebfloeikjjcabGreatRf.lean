/-
  Forests: edges without a ring. As many parts as nodes less edges, in whatever order the edges stand; without one of its edges a tree falls in two.
-/
import Derived.Test.YtcebfloeikjjcabGreatRp
namespace Go.Proofs.YtcebfloeikjjcabGreat

/-- No edge joins what those behind it join. -/
def Forest : List (Nat × Nat) → Prop
  | [] => True
  | (a, b) :: E => ¬ Conn E a b ∧ Forest E

theorem least_of {P : Nat → Prop} {k : Nat} (h : P k) : ∃ m, P m ∧ ∀ j, P j → m ≤ j := by
  induction k using Nat.strongRecOn with
  | ind k ih =>
    rcases Classical.em (∃ j, P j ∧ j < k) with ⟨j, hj, hlt⟩ | hn
    · exact ih j hlt hj
    · exact ⟨k, h, fun j hj => Nat.le_of_not_lt fun hlt => hn ⟨j, hj, hlt⟩⟩

/-- Numbers at rest there are, whatever the edges. -/
theorem rest_of (E : List (Nat × Nat)) : ∃ p, Rest E p := by
  have h : ∀ i, ∃ m, Conn E i m ∧ ∀ j, Conn E i j → m ≤ j := fun i => least_of ((conn_eqv E).refl i)
  refine ⟨fun i => Classical.choose (h i), ⟨⟨fun i => ?_, fun i => ?_⟩, fun e he => ?_⟩⟩
  · exact (Classical.choose_spec (h i)).2 i ((conn_eqv E).refl i)
  · exact (Classical.choose_spec (h i)).1
  · have s1 := Classical.choose_spec (h e.1)
    have s2 := Classical.choose_spec (h e.2)
    have hc := (conn_over E).2 e he
    have := s1.2 _ ((conn_eqv E).trans hc s2.1)
    have := s2.2 _ ((conn_eqv E).trans ((conn_eqv E).symm hc) s1.1)
    omega

theorem conn_more {E : List (Nat × Nat)} {a b : Nat} (h : Conn E a b) (i j : Nat) : Conn ((a, b) :: E) i j ↔ Conn E i j := by
  rw [conn_cons]
  have q := conn_eqv E
  constructor
  · rintro (h1 | ⟨h1, h2⟩ | ⟨h1, h2⟩)
    · exact h1
    · exact q.trans h1 (q.trans h h2)
    · exact q.trans h1 (q.trans (q.symm h) h2)
  · exact Or.inl

theorem rest_nil {p : Nat → Nat} (h : Rest [] p) (i : Nat) : p i = i := h.conn i (fun i j => i = j) ⟨⟨fun _ => rfl, fun h => h.symm, fun h k => h.trans k⟩, fun e he => absurd he (by simp)⟩ |>.symm

/-- At least as many parts as nodes less edges; just as many, just if it is a forest. -/
theorem forest_parts {n : Nat} : ∀ {E : List (Nat × Nat)} {p : Nat → Nat}, Among n E → Rest E p → n ≤ partsOf n p + E.length ∧ (Forest E ↔ partsOf n p + E.length = n)
  | [], p, _, h => by
    have : partsOf n p = n := by
      unfold partsOf
      rw [cnt_congr n (q := fun i => decide (i = i)) fun i _ => by simp [rest_nil h i]]
      exact cnt_id n
    simp [this, Forest]
  | (a, b) :: E, q, ha, h => by
    obtain ⟨p, hp⟩ := rest_of E
    have hab := ha (a, b) (List.mem_cons_self ..)
    obtain ⟨ih1, ih2⟩ := forest_parts (n := n) (fun e he => ha e (List.mem_cons_of_mem _ he)) hp
    rcases Classical.em (Conn E a b) with hc | hc
    · have e : partsOf n q = partsOf n p := by
        unfold partsOf
        refine cnt_congr n fun i _ => ?_
        rw [h.one hp (conn_more hc) i]
      simp only [List.length_cons]
      refine ⟨by omega, fun hf => absurd hc hf.1, fun e2 => ?_⟩
      omega
    · have e := parts_less hp h hab.1 hab.2 hc
      simp only [List.length_cons]
      refine ⟨by omega, fun hf => ?_, fun e2 => ⟨hc, ih2.2 (by omega)⟩⟩
      have := ih2.1 hf.2
      omega

theorem conn_perm {E E' : List (Nat × Nat)} (h : E.Perm E') (i j : Nat) : Conn E i j ↔ Conn E' i j :=
  ⟨conn_mono fun _ he => h.mem_iff.1 he, conn_mono fun _ he => h.mem_iff.2 he⟩

/-- In whatever order. -/
theorem Forest.perm {n : Nat} {E E' : List (Nat × Nat)} (hf : Forest E) (ha : Among n E) (h : E.Perm E') : Forest E' := by
  obtain ⟨p, hp⟩ := rest_of E
  obtain ⟨q, hq⟩ := rest_of E'
  have e : partsOf n q = partsOf n p := by
    unfold partsOf
    refine cnt_congr n fun i _ => ?_
    rw [hq.one hp (fun i j => (conn_perm h i j).symm) i]
  have ha' : Among n E' := fun e he => ha e (h.mem_iff.2 he)
  refine ((forest_parts ha' hq).2).2 ?_
  have := ((forest_parts ha hp).2).1 hf
  have := h.length_eq
  omega

/-- Without one of its edges, wherever that stands, a forest is one, and its nodes are joined no longer. -/
theorem Forest.out {n : Nat} {A B : List (Nat × Nat)} {a b : Nat} (hf : Forest (A ++ (a, b) :: B)) (ha : Among n (A ++ (a, b) :: B)) : Forest (A ++ B) ∧ ¬ Conn (A ++ B) a b := by
  have := hf.perm ha (List.perm_middle)
  exact ⟨this.2, this.1⟩

theorem conn_out {A B : List (Nat × Nat)} {a b i j : Nat} : Conn (A ++ (a, b) :: B) i j ↔ Conn (A ++ B) i j ∨ (Conn (A ++ B) i a ∧ Conn (A ++ B) b j) ∨ (Conn (A ++ B) i b ∧ Conn (A ++ B) a j) := by
  rw [← conn_cons]
  exact conn_perm List.perm_middle i j

/-- An edge in the middle of a forest between two trees: still a forest. -/
theorem Forest.put {n : Nat} {A B : List (Nat × Nat)} {a b : Nat} (hf : Forest (A ++ B)) (ha : Among n (A ++ B)) (h1 : a < n) (h2 : b < n) (hc : ¬ Conn (A ++ B) a b) : Forest (A ++ (a, b) :: B) := by
  refine Forest.perm (n := n) (E := (a, b) :: (A ++ B)) ⟨hc, hf⟩ (fun e he => ?_) List.perm_middle.symm
  rcases List.mem_cons.1 he with rfl | he
  · exact ⟨h1, h2⟩
  · exact ha e he

end Go.Proofs.YtcebfloeikjjcabGreat
