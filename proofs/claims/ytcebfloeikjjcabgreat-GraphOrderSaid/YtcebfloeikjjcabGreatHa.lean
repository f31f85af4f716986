/-
  Levels, plain: edges of a graph, some of them a tree's, each with a level; small parts alone rise. What stays true when an edge comes, goes, rises, or takes another's place in the tree.
-/
import Derived.Test.YtcebfloeikjjcabGreatRf
namespace Go.Proofs.YtcebfloeikjjcabGreat
set_option linter.unusedVariables false

/-- At most k nodes hang together with a. -/
def Few (n : Nat) (E : List (Nat × Nat)) (a k : Nat) : Prop := ∀ X : List Nat, X.Nodup → (∀ i ∈ X, i < n ∧ Conn E i a) → X.length ≤ k

theorem Few.mono {n a k k' : Nat} {E E' : List (Nat × Nat)} (h : Few n E' a k) (hE : ∀ i, Conn E i a → Conn E' i a) (hk : k ≤ k') : Few n E a k' := fun X hX hm =>
  Nat.le_trans (h X hX fun i hi => ⟨(hm i hi).1, hE i (hm i hi).2⟩) hk

theorem Few.move {n a b k : Nat} {E : List (Nat × Nat)} (h : Few n E a k) (hc : Conn E b a) : Few n E b k := fun X hX hm =>
  h X hX fun i hi => ⟨(hm i hi).1, (conn_eqv E).trans (hm i hi).2 hc⟩

theorem few_all (n : Nat) (E : List (Nat × Nat)) (a : Nat) : Few n E a n := fun X hX hm => by
  have := hX.length_le_of_subset (l₂ := List.range n) (fun x hx => List.mem_range.2 (hm x hx).1)
  simpa using this

/-- A list of all that hang together with a tells it. -/
theorem few_of {n a k : Nat} {E : List (Nat × Nat)} {Y : List Nat} (hY : ∀ i, i < n → Conn E i a → i ∈ Y) (hl : Y.length ≤ k) : Few n E a k := fun X hX hm =>
  Nat.le_trans (hX.length_le_of_subset fun x hx => hY x (hm x hx).1 (hm x hx).2) hl

/-- Of two parts that were one the lesser has at most the half. -/
theorem few_half {n a b K : Nat} {E : List (Nat × Nat)} {X Y : List Nat} (h : Few n ((a, b) :: E) a K) (hab : ¬ Conn E a b) (hX : X.Nodup) (hXm : ∀ i ∈ X, i < n ∧ Conn E i a) (hY : Y.Nodup) (hYm : ∀ i ∈ Y, i < n ∧ Conn E i b) : X.length + Y.length ≤ K := by
  have hd : (X ++ Y).Nodup := List.nodup_append.2 ⟨hX, hY, fun x hx y hy e => by
    subst e
    exact hab ((conn_eqv E).trans ((conn_eqv E).symm (hXm x hx).2) (hYm x hy).2)⟩
  have := h (X ++ Y) hd fun i hi => by
    rcases List.mem_append.1 hi with hi | hi
    · exact ⟨(hXm i hi).1, conn_cons.2 (Or.inl (hXm i hi).2)⟩
    · exact ⟨(hYm i hi).1, conn_cons.2 (Or.inr (Or.inr ⟨(hYm i hi).2, (conn_eqv E).refl a⟩))⟩
  rwa [List.length_append] at this

theorem half_pow (n v : Nat) : n / 2 ^ (v + 1) = n / 2 ^ v / 2 := by rw [Nat.pow_succ, Nat.div_div_eq_div_mul]

/-- The tree's edges of a level and above. -/
def Fo (A : List (Nat × Nat)) (lv : Nat × Nat → Nat) (tr : Nat × Nat → Bool) (v : Nat) : List (Nat × Nat) := A.filter fun e => tr e && decide (v ≤ lv e)

variable {n l v : Nat} {A : List (Nat × Nat)} {lv lv' : Nat × Nat → Nat} {tr tr' : Nat × Nat → Bool} {a b : Nat} {f : Nat × Nat}

theorem mem_Fo {e : Nat × Nat} : e ∈ Fo A lv tr v ↔ e ∈ A ∧ tr e = true ∧ v ≤ lv e := by
  unfold Fo
  simp only [List.mem_filter, Bool.and_eq_true, decide_eq_true_eq]

theorem Fo.down {u : Nat} (h : u ≤ v) {i j : Nat} (hc : Conn (Fo A lv tr v) i j) : Conn (Fo A lv tr u) i j :=
  conn_mono (fun e he => by obtain ⟨h1, h2, h3⟩ := mem_Fo.1 he; exact mem_Fo.2 ⟨h1, h2, by omega⟩) hc

/-- The same members, the same that hang together. -/
theorem few_ext {E E' : List (Nat × Nat)} {k : Nat} (h : Few n E a k) (he : ∀ e, e ∈ E' → e ∈ E) : Few n E' a k := h.mono (fun i hc => conn_mono (fun e h1 => he e h1) hc) (Nat.le_refl _)

/-- Who hangs together with another has an edge there. -/
theorem conn_some {E : List (Nat × Nat)} {i j : Nat} (h : Conn E i j) (hne : i ≠ j) : ∃ e ∈ E, Conn E e.1 j := by
  have := h (fun i j => i = j ∨ ((∃ e ∈ E, Conn E e.1 i) ∧ ∃ e ∈ E, Conn E e.1 j)) ⟨⟨fun _ => Or.inl rfl, ?_, ?_⟩, fun e he => Or.inr ⟨⟨e, he, (conn_eqv E).refl _⟩, ⟨e, he, conn_edge he⟩⟩⟩
  · rcases this with h1 | h1
    · exact absurd h1 hne
    · exact h1.2
  · rintro i j (h1 | h1)
    · exact Or.inl h1.symm
    · exact Or.inr ⟨h1.2, h1.1⟩
  · rintro i j k (rfl | h1) h2
    · exact h2
    · rcases h2 with rfl | h2
      · exact Or.inr h1
      · exact Or.inr ⟨h1.1, h2.2⟩

/-- A graph's tree and its levels, as they should be. -/
structure Levels (n : Nat) (A : List (Nat × Nat)) (lv : Nat × Nat → Nat) (tr : Nat × Nat → Bool) : Prop where
  among : Among n A
  forest : Forest (Fo A lv tr 0)
  few : ∀ v, ∀ e ∈ Fo A lv tr v, Few n (Fo A lv tr v) e.1 (n / 2 ^ v)
  joins : ∀ e ∈ A, Conn (Fo A lv tr (lv e)) e.1 e.2

/-- Who is joined is joined by the tree. -/
theorem Levels.tree (h : Levels n A lv tr) (i j : Nat) : Conn (Fo A lv tr 0) i j ↔ Conn A i j :=
  ⟨conn_mono fun e he => (mem_Fo.1 he).1, fun hc => hc _ ⟨conn_eqv _, fun e he => Fo.down (Nat.zero_le _) (h.joins e he)⟩⟩

/-- As many hang together at a level as may: of more than one node. -/
theorem Levels.many (h : Levels n A lv tr) {X : List Nat} (hX : X.Nodup) (hm : ∀ i ∈ X, i < n ∧ Conn (Fo A lv tr v) i a) : X.length ≤ 1 ∨ X.length ≤ n / 2 ^ v := by
  match X, hX, hm with
  | [], _, _ => exact Or.inl (Nat.zero_le _)
  | [x], _, _ => exact Or.inl (Nat.le_refl _)
  | x :: y :: X, hX, hm =>
    right
    have hne : x ≠ y := fun e => by subst e; simp at hX
    have hc : Conn (Fo A lv tr v) x y := (conn_eqv _).trans (hm x (by simp)).2 ((conn_eqv _).symm (hm y (by simp)).2)
    obtain ⟨e, he, hey⟩ := conn_some hc hne
    exact ((h.few v e he).move ((conn_eqv _).trans ((conn_eqv _).symm (hm y (by simp)).2) ((conn_eqv _).symm hey))) _ hX hm

/-- No level is higher than the nodes bear. -/
theorem Levels.level (h : Levels n A lv tr) {e : Nat × Nat} (he : e ∈ A) (hne : e.1 ≠ e.2) : 2 ≤ n / 2 ^ lv e := by
  have ha := h.among e he
  rcases h.many (v := lv e) (a := e.2) (X := [e.1, e.2]) (by simp [hne]) (fun i hi => by
    simp only [List.mem_cons, List.not_mem_nil, or_false] at hi
    rcases hi with rfl | rfl
    · exact ⟨ha.1, h.joins e he⟩
    · exact ⟨ha.2, (conn_eqv _).refl _⟩) with q | q
  · simp at q
  · simpa using q

theorem levels_none (n : Nat) (lv : Nat × Nat → Nat) (tr : Nat × Nat → Bool) : Levels n [] lv tr :=
  ⟨fun e he => absurd he (by simp), trivial, fun v e he => absurd he (by simp [Fo]), fun e he => absurd he (by simp)⟩

theorem Fo.mem_ext {A' : List (Nat × Nat)} (hA : ∀ e, e ∈ A ↔ e ∈ A') (hl : ∀ e ∈ A, lv e = lv' e ∧ tr e = tr' e) (v : Nat) (e : Nat × Nat) : e ∈ Fo A lv tr v ↔ e ∈ Fo A' lv' tr' v := by
  rw [mem_Fo, mem_Fo]
  constructor
  · rintro ⟨h1, h2, h3⟩
    obtain ⟨q1, q2⟩ := hl e h1
    exact ⟨(hA e).1 h1, by rw [← q2]; exact h2, by rw [← q1]; exact h3⟩
  · rintro ⟨h1, h2, h3⟩
    obtain ⟨q1, q2⟩ := hl e ((hA e).2 h1)
    exact ⟨(hA e).2 h1, by rw [q2]; exact h2, by rw [q1]; exact h3⟩

/-- In whatever order, and whatever levels there are of what is no edge. -/
theorem Levels.perm {A' : List (Nat × Nat)} (h : Levels n A lv tr) (hp : A.Perm A') (hl : ∀ e ∈ A, lv e = lv' e ∧ tr e = tr' e) : Levels n A' lv' tr' := by
  have hm := Fo.mem_ext (fun e => hp.mem_iff) hl
  refine ⟨fun e he => h.among e (hp.mem_iff.2 he), ?_, fun v e he => ?_, fun e he => ?_⟩
  · have e1 : Fo A lv tr 0 = A.filter fun e => tr' e && decide (0 ≤ lv' e) := List.filter_congr fun e he => by rw [(hl e he).1, (hl e he).2]
    have h2 : (Fo A lv tr 0).Perm (Fo A' lv' tr' 0) := by rw [e1]; exact hp.filter _
    exact h.forest.perm (n := n) (fun e he => h.among e (mem_Fo.1 he).1) h2
  · exact few_ext (h.few v e ((hm v e).2 he)) fun e he => (hm v e).2 he
  · have he' := hp.mem_iff.2 he
    rw [← (hl e he').1]
    exact conn_mono (fun x hx => (hm _ x).1 hx) (h.joins e he')

/-- An edge that joins two parts comes into the tree. -/
theorem Levels.add_tree (h : Levels n A lv tr) (ha : a < n) (hb : b < n) (hc : ¬ Conn A a b) (h0 : lv (a, b) = 0) (ht : tr (a, b) = true) : Levels n ((a, b) :: A) lv tr := by
  have e0 : Fo ((a, b) :: A) lv tr 0 = (a, b) :: Fo A lv tr 0 := by unfold Fo; rw [List.filter_cons_of_pos (by simp [ht])]
  have ev : ∀ v, 0 < v → Fo ((a, b) :: A) lv tr v = Fo A lv tr v := fun v hv => by unfold Fo; rw [List.filter_cons_of_neg (by simp [h0]; omega)]
  refine ⟨fun e he => ?_, ?_, fun v e he => ?_, fun e he => ?_⟩
  · rcases List.mem_cons.1 he with rfl | he
    · exact ⟨ha, hb⟩
    · exact h.among e he
  · rw [e0]; exact ⟨fun h1 => hc ((h.tree a b).1 h1), h.forest⟩
  · rcases Nat.eq_zero_or_pos v with rfl | hv
    · simpa using few_all n _ _
    · rw [ev v hv] at he ⊢; exact h.few v e he
  · rcases List.mem_cons.1 he with rfl | he
    · rw [h0, e0]; exact conn_edge (List.mem_cons_self ..)
    · exact conn_mono (fun x hx => by obtain ⟨q1, q2, q3⟩ := mem_Fo.1 hx; exact mem_Fo.2 ⟨List.mem_cons_of_mem _ q1, q2, q3⟩) (h.joins e he)

/-- An edge within a part comes beside the tree. -/
theorem Levels.add_rest (h : Levels n A lv tr) (ha : a < n) (hb : b < n) (hc : Conn A a b) (h0 : lv (a, b) = 0) (ht : tr (a, b) = false) : Levels n ((a, b) :: A) lv tr := by
  have ev : ∀ v, Fo ((a, b) :: A) lv tr v = Fo A lv tr v := fun v => by unfold Fo; rw [List.filter_cons_of_neg (by simp [ht])]
  refine ⟨fun e he => ?_, ?_, fun v e he => ?_, fun e he => ?_⟩
  · rcases List.mem_cons.1 he with rfl | he
    · exact ⟨ha, hb⟩
    · exact h.among e he
  · rw [ev]; exact h.forest
  · rw [ev] at he ⊢; exact h.few v e he
  · rw [ev]
    rcases List.mem_cons.1 he with rfl | he
    · rw [h0]; exact (h.tree a b).2 hc
    · exact h.joins e he

/-- An edge beside the tree goes. -/
theorem Levels.drop_rest {e : Nat × Nat} (h : Levels n (e :: A) lv tr) (ht : tr e = false) : Levels n A lv tr := by
  have ev : ∀ v, Fo (e :: A) lv tr v = Fo A lv tr v := fun v => by unfold Fo; rw [List.filter_cons_of_neg (by simp [ht])]
  refine ⟨fun x hx => h.among x (List.mem_cons_of_mem _ hx), ?_, fun v x hx => ?_, fun x hx => ?_⟩
  · have := h.forest; rwa [ev] at this
  · have := h.few v x (by rw [ev]; exact hx); rwa [ev] at this
  · have := h.joins x (List.mem_cons_of_mem _ hx); rwa [ev] at this

/-- An edge of the tree has gone: those below level l are still to be looked at. -/
structure Cut (n : Nat) (A : List (Nat × Nat)) (lv : Nat × Nat → Nat) (tr : Nat × Nat → Bool) (a b l : Nat) : Prop where
  among : Among n A
  ends : a < n ∧ b < n
  forest : Forest (Fo A lv tr 0)
  apart : ¬ Conn (Fo A lv tr 0) a b
  few : ∀ v, ∀ e ∈ Fo A lv tr v, Few n (Fo A lv tr v) e.1 (n / 2 ^ v)
  both : ∀ v, v < l → Few n ((a, b) :: Fo A lv tr v) a (n / 2 ^ v)
  low : ∀ e ∈ A, lv e < l → Conn ((a, b) :: Fo A lv tr (lv e)) e.1 e.2
  high : ∀ e ∈ A, l ≤ lv e → Conn (Fo A lv tr (lv e)) e.1 e.2

theorem Levels.cut (h : Levels n ((a, b) :: A) lv tr) (ht : tr (a, b) = true) : Cut n A lv tr a b (lv (a, b) + 1) := by
  have e0 : ∀ v, v ≤ lv (a, b) → Fo ((a, b) :: A) lv tr v = (a, b) :: Fo A lv tr v := fun v hv => by unfold Fo; rw [List.filter_cons_of_pos (by simp [ht, hv])]
  have ev : ∀ v, lv (a, b) < v → Fo ((a, b) :: A) lv tr v = Fo A lv tr v := fun v hv => by unfold Fo; rw [List.filter_cons_of_neg (by simp [ht]; omega)]
  have hf := h.forest
  rw [e0 0 (Nat.zero_le _)] at hf
  refine ⟨fun e he => h.among e (List.mem_cons_of_mem _ he), h.among (a, b) (List.mem_cons_self ..), hf.2, hf.1, fun v e he => ?_, fun v hv => ?_, fun e he hl => ?_, fun e he hl => ?_⟩
  · rcases Nat.lt_or_ge (lv (a, b)) v with hv | hv
    · have := h.few v e (by rw [ev v hv]; exact he); rwa [ev v hv] at this
    · have := h.few v e (by rw [e0 v hv]; exact List.mem_cons_of_mem _ he)
      rw [e0 v hv] at this
      exact few_ext this fun x hx => List.mem_cons_of_mem _ hx
  · have := h.few v (a, b) (by rw [e0 v (by omega)]; exact List.mem_cons_self ..)
    rwa [e0 v (by omega)] at this
  · have := h.joins e (List.mem_cons_of_mem _ he)
    rwa [e0 _ (by omega)] at this
  · have := h.joins e (List.mem_cons_of_mem _ he)
    rwa [ev _ (by omega)] at this

/-- All levels are looked at. -/
theorem Cut.done (h : Cut n A lv tr a b 0) : Levels n A lv tr := ⟨h.among, h.forest, h.few, fun e he => h.high e he (Nat.zero_le _)⟩

/-- Where no edge of a level joins the two the next one is looked at. -/
theorem Cut.down (h : Cut n A lv tr a b (l + 1)) (hn : ∀ e ∈ A, lv e = l → Conn (Fo A lv tr l) e.1 e.2) : Cut n A lv tr a b l :=
  ⟨h.among, h.ends, h.forest, h.apart, h.few, fun v hv => h.both v (by omega), fun e he hl => h.low e he (by omega), fun e he hl => by
    rcases Nat.lt_or_ge l (lv e) with h1 | h1
    · exact h.high e he (by omega)
    · have e1 : lv e = l := by omega
      rw [e1]; exact hn e he e1⟩

theorem Cut.apart_at (h : Cut n A lv tr a b l) (v : Nat) : ¬ Conn (Fo A lv tr v) a b := fun hc => h.apart (Fo.down (Nat.zero_le _) hc)

/-- The lesser one of both parts has at most the half. -/
theorem Cut.half (h : Cut n A lv tr a b (l + 1)) {X Y : List Nat} (hX : X.Nodup) (hXm : ∀ i ∈ X, i < n ∧ Conn (Fo A lv tr l) i a) (hY : Y.Nodup) (hYm : ∀ i ∈ Y, i < n ∧ Conn (Fo A lv tr l) i b) : X.length + Y.length ≤ n / 2 ^ l :=
  few_half (h.both l (by omega)) (h.apart_at l) hX hXm hY hYm

/-- The levels with one that has risen. -/
structure Rise (A : List (Nat × Nat)) (lv lv' : Nat × Nat → Nat) (f : Nat × Nat) (l : Nat) : Prop where
  at_ : f ∈ A
  was : lv f = l
  is : lv' f = l + 1
  rest : ∀ e ∈ A, e ≠ f → lv' e = lv e

theorem Rise.mem (h : Rise A lv lv' f l) (e : Nat × Nat) : e ∈ Fo A lv' tr v ↔ e ∈ Fo A lv tr v ∨ (e = f ∧ tr f = true ∧ v = l + 1) := by
  rw [mem_Fo, mem_Fo]
  by_cases he : e = f
  · subst he
    rw [h.is, h.was]
    constructor
    · rintro ⟨h1, h2, h3⟩
      rcases Nat.lt_or_ge l v with h4 | h4
      · exact Or.inr ⟨rfl, h2, by omega⟩
      · exact Or.inl ⟨h1, h2, h4⟩
    · rintro (⟨h1, h2, h3⟩ | ⟨_, h2, h3⟩)
      · exact ⟨h1, h2, by omega⟩
      · exact ⟨h.at_, h2, by omega⟩
  · constructor
    · rintro ⟨h1, h2, h3⟩
      rw [h.rest e h1 he] at h3
      exact Or.inl ⟨h1, h2, h3⟩
    · rintro (⟨h1, h2, h3⟩ | ⟨h1, _⟩)
      · exact ⟨h1, h2, by rw [h.rest e h1 he]; exact h3⟩
      · exact absurd h1 he

theorem Rise.up (h : Rise A lv lv' f l) {i j : Nat} (hc : Conn (Fo A lv tr v) i j) : Conn (Fo A lv' tr v) i j := conn_mono (fun e he => (h.mem e).2 (Or.inl he)) hc

theorem Rise.same (h : Rise A lv lv' f l) (hv : v ≠ l + 1) (e : Nat × Nat) : e ∈ Fo A lv' tr v ↔ e ∈ Fo A lv tr v := by
  rw [h.mem]
  exact ⟨fun h1 => h1.elim id fun h2 => absurd h2.2.2 hv, Or.inl⟩

/-- An edge of the tree rises, where few hang together by its level. -/
theorem Cut.raise_tree (h : Cut n A lv tr a b (l + 1)) (r : Rise A lv lv' f l) (ht : tr f = true) (hf : Few n (Fo A lv tr l) f.1 (n / 2 ^ (l + 1))) : Cut n A lv' tr a b (l + 1) := by
  have e0 : Fo A lv' tr 0 = Fo A lv tr 0 := by unfold Fo; exact List.filter_congr fun e _ => by simp
  have hfl : f ∈ Fo A lv tr l := mem_Fo.2 ⟨r.at_, ht, by rw [r.was]; exact Nat.le_refl _⟩
  have sub : ∀ e, e ∈ Fo A lv' tr (l + 1) → e ∈ Fo A lv tr l := fun e he => by
    rcases (r.mem e).1 he with h1 | ⟨rfl, _⟩
    · obtain ⟨q1, q2, q3⟩ := mem_Fo.1 h1; exact mem_Fo.2 ⟨q1, q2, by omega⟩
    · exact hfl
  refine ⟨h.among, h.ends, by rw [e0]; exact h.forest, by rw [e0]; exact h.apart, fun v e he => ?_, fun v hv => ?_, fun e he hl => ?_, fun e he hl => ?_⟩
  · by_cases hv : v = l + 1
    · subst hv
      rcases Classical.em (Conn (Fo A lv tr l) e.1 f.1) with hc | hc
      · exact (hf.move hc).mono (fun i hi => conn_mono sub hi) (Nat.le_refl _)
      · have he' : e ∈ Fo A lv tr (l + 1) := by
          rcases (r.mem e).1 he with h1 | ⟨rfl, _⟩
          · exact h1
          · exact absurd ((conn_eqv _).refl _) hc
        refine (h.few (l + 1) e he').mono (fun i hi => ?_) (Nat.le_refl _)
        have h1 : Conn (f :: Fo A lv tr (l + 1)) i e.1 := conn_mono (fun x hx => by
          rcases (r.mem x).1 hx with h2 | ⟨rfl, _⟩
          · exact List.mem_cons_of_mem _ h2
          · exact List.mem_cons_self ..) hi
        have ef : f = (f.1, f.2) := rfl
        rw [ef] at h1
        rcases conn_cons.1 h1 with h2 | ⟨_, h2⟩ | ⟨_, h2⟩
        · exact h2
        · exact absurd ((conn_eqv _).symm ((conn_eqv _).trans (conn_edge hfl) (Fo.down (by omega) h2))) hc
        · exact absurd ((conn_eqv _).symm (Fo.down (by omega) h2)) hc
    · have := h.few v e ((r.same hv e).1 he)
      exact few_ext this fun x hx => (r.same hv x).1 hx
  · exact few_ext (h.both v hv) fun x hx => by
      rcases List.mem_cons.1 hx with rfl | hx
      · exact List.mem_cons_self ..
      · exact List.mem_cons_of_mem _ ((r.same (by omega) x).1 hx)
  · by_cases hef : e = f
    · subst hef; rw [r.is] at hl; omega
    · rw [r.rest e he hef] at hl ⊢
      exact conn_mono (fun x hx => by
        rcases List.mem_cons.1 hx with rfl | hx
        · exact List.mem_cons_self ..
        · exact List.mem_cons_of_mem _ ((r.mem x).2 (Or.inl hx))) (h.low e he hl)
  · by_cases hef : e = f
    · subst hef; rw [r.is]; exact conn_edge ((r.mem e).2 (Or.inr ⟨rfl, ht, rfl⟩))
    · rw [r.rest e he hef] at hl ⊢
      exact r.up (h.high e he hl)

/-- An edge beside the tree rises, where its nodes hang together by the level above. -/
theorem Cut.raise_rest (h : Cut n A lv tr a b (l + 1)) (r : Rise A lv lv' f l) (ht : tr f = false) (hc : Conn (Fo A lv tr (l + 1)) f.1 f.2) : Cut n A lv' tr a b (l + 1) := by
  have sm : ∀ v e, e ∈ Fo A lv' tr v ↔ e ∈ Fo A lv tr v := fun v e => by
    rw [r.mem]
    exact ⟨fun h1 => h1.elim id fun h2 => by rw [ht] at h2; exact absurd h2.2.1 (by simp), Or.inl⟩
  have e0 : Fo A lv' tr 0 = Fo A lv tr 0 := by unfold Fo; exact List.filter_congr fun e _ => by simp
  refine ⟨h.among, h.ends, by rw [e0]; exact h.forest, by rw [e0]; exact h.apart, fun v e he => ?_, fun v hv => ?_, fun e he hl => ?_, fun e he hl => ?_⟩
  · exact few_ext (h.few v e ((sm v e).1 he)) fun x hx => (sm v x).1 hx
  · exact few_ext (h.both v hv) fun x hx => by
      rcases List.mem_cons.1 hx with rfl | hx
      · exact List.mem_cons_self ..
      · exact List.mem_cons_of_mem _ ((sm v x).1 hx)
  · by_cases hef : e = f
    · subst hef; rw [r.is] at hl; omega
    · rw [r.rest e he hef] at hl ⊢
      exact conn_mono (fun x hx => by
        rcases List.mem_cons.1 hx with rfl | hx
        · exact List.mem_cons_self ..
        · exact List.mem_cons_of_mem _ ((sm _ x).2 hx)) (h.low e he hl)
  · by_cases hef : e = f
    · subst hef; rw [r.is]; exact r.up hc
    · rw [r.rest e he hef] at hl ⊢
      exact r.up (h.high e he hl)

/-- An edge that joins the two takes the place in the tree. -/
theorem Cut.replace (h : Cut n A lv tr a b (l + 1)) (hA : A.Nodup) (hfA : f ∈ A) (hl : lv f = l) (hf : tr f = false) (hc : ¬ Conn (Fo A lv tr l) f.1 f.2) (h1 : tr' f = true) (h2 : ∀ e ∈ A, e ≠ f → tr' e = tr e) : Levels n A lv tr' := by
  have mem : ∀ v e, e ∈ Fo A lv tr' v ↔ e ∈ Fo A lv tr v ∨ (e = f ∧ v ≤ l) := fun v e => by
    rw [mem_Fo, mem_Fo]
    by_cases he : e = f
    · subst he
      rw [h1, hf, hl]
      constructor
      · exact fun q => Or.inr ⟨rfl, q.2.2⟩
      · rintro (⟨_, q, _⟩ | ⟨_, q⟩)
        · cases q
        · exact ⟨hfA, rfl, q⟩
    · constructor
      · rintro ⟨q1, q2, q3⟩
        rw [h2 e q1 he] at q2
        exact Or.inl ⟨q1, q2, q3⟩
      · rintro (⟨q1, q2, q3⟩ | ⟨q, _⟩)
        · exact ⟨q1, by rw [h2 e q1 he]; exact q2, q3⟩
        · exact absurd q he
  -- f joins the two parts at level l, and so at each below
  have hj := h.low f hfA (by omega)
  rw [hl] at hj
  have cross : (Conn (Fo A lv tr l) f.1 a ∧ Conn (Fo A lv tr l) b f.2) ∨ (Conn (Fo A lv tr l) f.1 b ∧ Conn (Fo A lv tr l) a f.2) := by
    rcases conn_cons.1 hj with q | q | q
    · exact absurd q hc
    · exact Or.inl q
    · exact Or.inr q
  have fab : ∀ u, u ≤ l → Conn (Fo A lv tr' u) a b := fun u hu => by
    have up : ∀ {i j}, Conn (Fo A lv tr l) i j → Conn (Fo A lv tr' u) i j := fun {i j} q => conn_mono (fun x hx => (mem u x).2 (Or.inl hx)) (Fo.down hu q)
    have fe : Conn (Fo A lv tr' u) f.1 f.2 := conn_edge ((mem u f).2 (Or.inr ⟨rfl, hu⟩))
    have q := conn_eqv (Fo A lv tr' u)
    rcases cross with ⟨q1, q2⟩ | ⟨q1, q2⟩
    · exact q.trans (q.symm (up q1)) (q.trans fe (q.symm (up q2)))
    · exact q.trans (up q2) (q.trans (q.symm fe) (up q1))
  have abf : ∀ u, u ≤ l → Conn ((a, b) :: Fo A lv tr u) f.1 f.2 := fun u hu => conn_mono (fun x hx => by
    rcases List.mem_cons.1 hx with rfl | hx
    · exact List.mem_cons_self ..
    · obtain ⟨q1, q2, q3⟩ := mem_Fo.1 hx; exact List.mem_cons_of_mem _ (mem_Fo.2 ⟨q1, q2, by omega⟩)) hj
  have swap : ∀ u, u ≤ l → ∀ {i j}, Conn (Fo A lv tr' u) i j → Conn ((a, b) :: Fo A lv tr u) i j := fun u hu {i j} q => q _ ⟨conn_eqv _, fun e he => by
    rcases (mem u e).1 he with q1 | ⟨rfl, _⟩
    · exact conn_edge (List.mem_cons_of_mem _ q1)
    · exact abf u hu⟩
  have swap' : ∀ u, u ≤ l → ∀ {i j}, Conn ((a, b) :: Fo A lv tr u) i j → Conn (Fo A lv tr' u) i j := fun u hu {i j} q => q _ ⟨conn_eqv _, fun e he => by
    rcases List.mem_cons.1 he with rfl | he
    · exact fab u hu
    · exact conn_edge ((mem u e).2 (Or.inl he))⟩
  refine ⟨h.among, ?_, fun v e he => ?_, fun e he => ?_⟩
  · -- the new tree is f and the elder edges, in some order
    have hp : (f :: Fo A lv tr 0).Perm (Fo A lv tr' 0) := by
      have n1 : (Fo A lv tr' 0).Nodup := hA.sublist List.filter_sublist
      have n2 : (f :: Fo A lv tr 0).Nodup := List.nodup_cons.2 ⟨fun q => absurd ((mem_Fo.1 q).2.1.symm.trans hf) (by simp), hA.sublist List.filter_sublist⟩
      refine (List.perm_ext_iff_of_nodup n2 n1).2 fun e => ?_
      rw [mem 0 e, List.mem_cons]
      constructor
      · rintro (q | q)
        · exact Or.inr ⟨q, Nat.zero_le _⟩
        · exact Or.inl q
      · rintro (q | ⟨q, _⟩)
        · exact Or.inr q
        · exact Or.inl q
    refine Forest.perm (n := n) (E := f :: Fo A lv tr 0) ⟨fun q => ?_, h.forest⟩ (fun e he => ?_) hp
    · -- were they joined, the two would be
      have up : ∀ {i j}, Conn (Fo A lv tr l) i j → Conn (Fo A lv tr 0) i j := fun {i j} q => Fo.down (Nat.zero_le _) q
      have e := conn_eqv (Fo A lv tr 0)
      rcases cross with ⟨q1, q2⟩ | ⟨q1, q2⟩
      · exact h.apart (e.trans (e.symm (up q1)) (e.trans q (e.symm (up q2))))
      · exact h.apart (e.trans (up q2) (e.trans (e.symm q) (up q1)))
    · rcases List.mem_cons.1 he with rfl | he
      · exact h.among _ hfA
      · exact h.among _ (mem_Fo.1 he).1
  · rcases Nat.lt_or_ge l v with hv | hv
    · have hs : ∀ x, x ∈ Fo A lv tr' v → x ∈ Fo A lv tr v := fun x hx => by
        rcases (mem v x).1 hx with q | ⟨_, q⟩
        · exact q
        · omega
      exact few_ext (h.few v e (hs e he)) hs
    · rcases Classical.em (Conn ((a, b) :: Fo A lv tr v) e.1 a) with q | q
      · exact ((h.both v (by omega)).move q).mono (fun i hi => swap v hv hi) (Nat.le_refl _)
      · have he' : e ∈ Fo A lv tr v := by
          rcases (mem v e).1 he with q1 | ⟨rfl, _⟩
          · exact q1
          · refine absurd ?_ q
            have qe := conn_eqv ((a, b) :: Fo A lv tr v)
            have dn : ∀ {i j}, Conn (Fo A lv tr l) i j → Conn ((a, b) :: Fo A lv tr v) i j := fun {i j} q => conn_cons.2 (Or.inl (Fo.down hv q))
            rcases cross with ⟨q1, _⟩ | ⟨q1, _⟩
            · exact dn q1
            · exact qe.trans (dn q1) (qe.symm (conn_edge (List.mem_cons_self ..)))
        refine (h.few v e he').mono (fun i hi => ?_) (Nat.le_refl _)
        rcases conn_cons.1 (swap v hv hi) with q1 | ⟨_, q1⟩ | ⟨_, q1⟩
        · exact q1
        · exact absurd ((conn_eqv _).symm ((conn_eqv _).trans (conn_edge (List.mem_cons_self ..)) (conn_cons.2 (Or.inl q1)))) q
        · exact absurd ((conn_eqv _).symm (conn_cons.2 (Or.inl q1))) q
  · rcases Nat.lt_or_ge l (lv e) with q | q
    · exact conn_mono (fun x hx => (mem _ x).2 (Or.inl hx)) (h.high e he (by omega))
    · exact swap' _ q (h.low e he (by omega))

end Go.Proofs.YtcebfloeikjjcabGreat
