/-
  Levels, plain: the two rounds of a look for an edge in another's place: first the tree's edges of the lesser side rise, then the others that touch it, up to one that leads out of it.
-/
import Derived.Test.YtcebfloeikjjcabGreatHb
namespace Go.Proofs.YtcebfloeikjjcabGreat
set_option linter.unusedVariables false

variable {n k l v : Nat} {A P Q T : List (Nat × Nat)} {lv lv' lv1 : Nat × Nat → Nat} {tr tr' : Nat × Nat → Bool} {a b s t : Nat} {f : Nat × Nat} {p : Nat → Nat}

/-- An edge of the tree that has risen: the forest of the level above has it, the others are as they were. -/
theorem rise_fo (hA : Rises A) (r : Rise A lv lv' f k) (ht : tr f = true) : (∀ P Q, Fo A lv tr (k + 1) = P ++ Q → Rises (P ++ f :: Q) → P ++ f :: Q = Fo A lv' tr (k + 1)) ∧ ∀ i, i ≠ k + 1 → Fo A lv tr i = Fo A lv' tr i := by
  refine ⟨fun P Q he hr => rises_ext hr (Fo_rises hA _) fun e => ?_, fun i hi => rises_ext (Fo_rises hA _) (Fo_rises hA _) fun e => (r.same hi e).symm⟩
  rw [r.mem, he, List.mem_append, List.mem_append, List.mem_cons]
  constructor
  · rintro (h | h | h)
    · exact Or.inl (Or.inl h)
    · exact Or.inr ⟨h, ht, rfl⟩
    · exact Or.inl (Or.inr h)
  · rintro ((h | h) | ⟨h, _⟩)
    · exact Or.inl h
    · exact Or.inr (Or.inr h)
    · exact Or.inr (Or.inl h)

theorem rise_rest_fo (r : Rise A lv lv' f k) (ht : tr f = false) (i : Nat) : Fo A lv tr i = Fo A lv' tr i :=
  (Fo_other (e := f) (fun x hx hne => ⟨r.rest x hx hne, rfl⟩) (Or.inl ht) (Or.inl ht)).symm

/-- An edge comes into the tree: the forests of its level and below have it, the others are as they were. -/
theorem plant_fo (hA : Rises A) (hf : f ∈ A) (hl : lv f = l) (ht : tr f = false) : (∀ v, v ≤ l → ∀ P Q, Fo A lv tr v = P ++ Q → Rises (P ++ f :: Q) → P ++ f :: Q = Fo A lv (upd tr f true) v) ∧ ∀ v, l < v → Fo A lv tr v = Fo A lv (upd tr f true) v := by
  refine ⟨fun v hv P Q he hr => rises_ext hr (Fo_rises hA _) fun e => ?_, fun v hv => (Fo_other (e := f) (fun x hx hne => ⟨rfl, upd_other hne⟩) (Or.inl ht) (Or.inr (by omega))).symm⟩
  have h1 : e ∈ P ++ Q ↔ e ∈ A ∧ tr e = true ∧ v ≤ lv e := by rw [← he]; exact mem_Fo
  rw [List.mem_append] at h1
  rw [mem_Fo, List.mem_append, List.mem_cons]
  by_cases c : e = f
  · subst c
    rw [upd_same]
    exact ⟨fun _ => ⟨hf, rfl, by omega⟩, fun _ => Or.inr (Or.inl rfl)⟩
  · rw [upd_other c, ← h1]
    constructor
    · rintro (h | h | h)
      · exact Or.inl h
      · exact absurd h c
      · exact Or.inr h
    · rintro (h | h)
      · exact Or.inl h
      · exact Or.inr (Or.inr h)

/-- The tree's edges of a level, on a side. -/
structure Side1 (A : List (Nat × Nat)) (lv : Nat × Nat → Nat) (tr : Nat × Nat → Bool) (k s : Nat) (T : List (Nat × Nat)) : Prop where
  mem : ∀ e, e ∈ T ↔ e ∈ A ∧ tr e = true ∧ lv e = k ∧ Conn (Fo A lv tr k) s e.1
  nodup : T.Nodup

theorem side1_of (hA : Rises A) (hr : Rest (Fo A lv tr k) p) : Side1 A lv tr k s (A.filter fun e => tr e && decide (lv e = k) && decide (p s = p e.1)) :=
  ⟨fun e => by rw [List.mem_filter]; simp only [Bool.and_eq_true, decide_eq_true_eq, hr.same, and_assoc], (rises_nodup hA).sublist List.filter_sublist⟩

/-- The other edges of a level, that touch a side. -/
structure Side2 (A : List (Nat × Nat)) (lv : Nat × Nat → Nat) (tr : Nat × Nat → Bool) (k s : Nat) (T : List (Nat × Nat)) : Prop where
  mem : ∀ e, e ∈ T ↔ e ∈ A ∧ tr e = false ∧ lv e = k ∧ (Conn (Fo A lv tr k) s e.1 ∨ Conn (Fo A lv tr k) s e.2)
  nodup : T.Nodup

theorem side2_of (hA : Rises A) (hr : Rest (Fo A lv tr k) p) : Side2 A lv tr k s (A.filter fun e => !tr e && decide (lv e = k) && (decide (p s = p e.1) || decide (p s = p e.2))) :=
  ⟨fun e => by rw [List.mem_filter]; simp only [Bool.and_eq_true, Bool.not_eq_true', Bool.or_eq_true, decide_eq_true_eq, hr.same, and_assoc], (rises_nodup hA).sublist List.filter_sublist⟩

/-- One of the first list rises. -/
theorem Cut.rise1 (h : Cut n A (lvUp lv P) tr a b (k + 1)) (hs : Side1 A lv tr k s (P ++ f :: Q)) (hf : Few n (Fo A lv tr k) s (n / 2 ^ (k + 1))) (hne : f.1 ≠ f.2) :
    Cut n A (lvUp lv (P ++ [f])) tr a b (k + 1) ∧ Rise A (lvUp lv P) (lvUp lv (P ++ [f])) f k ∧ ¬ Conn (Fo A (lvUp lv P) tr (k + 1)) f.1 f.2 ∧ tr f = true ∧ 0 < n / 2 ^ (k + 1) := by
  obtain ⟨m1, m2, m3, m4⟩ := (hs.mem f).1 (by simp)
  have r : Rise A (lvUp lv P) (lvUp lv (P ++ [f])) f k := lvUp_rise hs.nodup m1 m3
  have hP : ∀ e ∈ P, lv e = k := fun e he => ((hs.mem e).1 (List.mem_append_left _ he)).2.2.1
  have e1 : Fo A (lvUp lv P) tr k = Fo A lv tr k := Fo_up hP
  have q := conn_eqv (Fo A lv tr k)
  have hff : f ∈ Fo A lv tr k := mem_Fo.2 ⟨m1, m2, by omega⟩
  have hc2 : Conn (Fo A lv tr k) f.1 f.2 := conn_edge hff
  refine ⟨h.raise_tree r m2 (by rw [e1]; exact hf.move (q.symm m4)), r, ?_, m2, ?_⟩
  · have hm0 : f ∈ Fo A (lvUp lv P) tr 0 := mem_Fo.2 ⟨m1, m2, Nat.zero_le _⟩
    refine Forest.without h.forest (fun e he => h.among e (mem_Fo.1 he).1) hm0 fun x hx => ?_
    obtain ⟨x1, x2, x3⟩ := mem_Fo.1 hx
    refine ⟨mem_Fo.2 ⟨x1, x2, Nat.zero_le _⟩, fun e => ?_⟩
    subst e
    rw [r.was] at x3
    omega
  · have := few_two hf hne ⟨(h.among f m1).1, q.symm m4⟩ ⟨(h.among f m1).2, q.symm (q.trans m4 hc2)⟩
    omega

/-- All of the first list have risen. -/
theorem side1_done (hs : Side1 A lv tr k s T) : Fo A (lvUp lv T) tr k = Fo A lv tr k ∧ ∀ e ∈ A, tr e = true → lvUp lv T e = k → ¬ Conn (Fo A lv tr k) s e.1 := by
  refine ⟨Fo_up fun e he => ((hs.mem e).1 he).2.2.1, fun e he ht hl hc => ?_⟩
  by_cases c : e ∈ T
  · rw [lvUp_in c, ((hs.mem e).1 c).2.2.1] at hl
    omega
  · rw [lvUp_out c] at hl
    exact c ((hs.mem e).2 ⟨he, ht, hl, hc⟩)

/-- One of the second list, both ends on the side, rises. -/
theorem Cut.rise2 (h : Cut n A (lvUp lv P) tr a b (k + 1)) (hs : Side2 A lv tr k s (P ++ f :: Q)) (h1 : ∀ e ∈ A, tr e = true → lv e = k → ¬ Conn (Fo A lv tr k) s e.1) (hx : Conn (Fo A lv tr k) s f.1) (hy : Conn (Fo A lv tr k) s f.2) :
    Cut n A (lvUp lv (P ++ [f])) tr a b (k + 1) ∧ Rise A (lvUp lv P) (lvUp lv (P ++ [f])) f k ∧ tr f = false := by
  obtain ⟨m1, m2, m3, m4⟩ := (hs.mem f).1 (by simp)
  have r : Rise A (lvUp lv P) (lvUp lv (P ++ [f])) f k := lvUp_rise hs.nodup m1 m3
  have hP : ∀ e ∈ P, lv e = k := fun e he => ((hs.mem e).1 (List.mem_append_left _ he)).2.2.1
  have e1 : Fo A (lvUp lv P) tr k = Fo A lv tr k := Fo_up hP
  refine ⟨h.raise_rest r m2 (side_risen (s := s) (fun e he ht hl => ?_) (by rw [e1]; exact hx) (by rw [e1]; exact hy)), r, m2⟩
  rw [e1]
  have c : e ∉ P := fun c => by
    have := ((hs.mem e).1 (List.mem_append_left _ c)).2.1
    rw [ht] at this
    cases this
  rw [lvUp_out c] at hl
  exact h1 e he ht hl

/-- One of the second list leads out of the side: it comes into the tree. -/
theorem Cut.found (h : Cut n A (lvUp lv P) tr a b (k + 1)) (hA : A.Nodup) (hs : Side2 A lv tr k s (P ++ f :: Q)) (ho : ¬ (Conn (Fo A lv tr k) s f.1 ∧ Conn (Fo A lv tr k) s f.2)) :
    Levels n A (lvUp lv P) (upd tr f true) ∧ f ∈ A ∧ tr f = false ∧ lvUp lv P f = k ∧ ∀ v, ¬ Conn (Fo A (lvUp lv P) tr v) f.1 f.2 := by
  obtain ⟨m1, m2, m3, m4⟩ := (hs.mem f).1 (by simp)
  have r : Rise A (lvUp lv P) (lvUp lv (P ++ [f])) f k := lvUp_rise hs.nodup m1 m3
  have hP : ∀ e ∈ P, lv e = k := fun e he => ((hs.mem e).1 (List.mem_append_left _ he)).2.2.1
  have e1 : Fo A (lvUp lv P) tr k = Fo A lv tr k := Fo_up hP
  have q := conn_eqv (Fo A lv tr k)
  have hc : ¬ Conn (Fo A (lvUp lv P) tr k) f.1 f.2 := by
    rw [e1]
    intro hc
    rcases m4 with m4 | m4
    · exact ho ⟨m4, q.trans m4 hc⟩
    · exact ho ⟨q.trans m4 (q.symm hc), m4⟩
  exact ⟨h.replace hA m1 r.was m2 hc (upd_same ..) (fun e _ hne => upd_other hne), m1, m2, r.was, fun v => h.cross m1 r.was hc v⟩

/-- None of them led out. -/
theorem Cut.last (h : Cut n A (lvUp lv T) tr a b (k + 1)) (hs : Side2 A lv tr k s T) (hab : s = a ∨ s = b) : Cut n A (lvUp lv T) tr a b k := by
  refine h.next hab fun e he ht hl => ?_
  have e1 : Fo A (lvUp lv T) tr k = Fo A lv tr k := Fo_up fun e he => ((hs.mem e).1 he).2.2.1
  rw [e1]
  have c : e ∉ T := fun c => by
    rw [lvUp_in c, ((hs.mem e).1 c).2.2.1] at hl
    omega
  rw [lvUp_out c] at hl
  exact ⟨fun hc => c ((hs.mem e).2 ⟨he, ht, hl, Or.inl hc⟩), fun hc => c ((hs.mem e).2 ⟨he, ht, hl, Or.inr hc⟩)⟩

end Go.Proofs.YtcebfloeikjjcabGreat
