/-
  Levels, plain: what a look for an edge in another's place does. Who is on the lesser side; edges that rise one by one; what is left at the end.
-/
import Derived.Test.YtcebfloeikjjcabGreatTn
import Derived.Test.YtcebfloeikjjcabGreatHa
namespace Go.Proofs.YtcebfloeikjjcabGreat
set_option linter.unusedVariables false

variable {n k l v : Nat} {A : List (Nat × Nat)} {lv lv' : Nat × Nat → Nat} {tr tr' : Nat × Nat → Bool} {a b s t : Nat} {f : Nat × Nat} {p : Nat → Nat}

theorem rises_nodup {E : List (Nat × Nat)} (h : Rises E) : E.Nodup := h.imp fun {x y} q e => by subst e; omega

theorem Rises.filter {E : List (Nat × Nat)} (h : Rises E) (q : Nat × Nat → Bool) : Rises (E.filter q) := List.Pairwise.sublist List.filter_sublist h

theorem rises_eq {A B : List (Nat × Nat)} (h1 : Rises A) (h2 : Rises B) (hp : A.Perm B) : A = B := by
  refine List.Perm.eq_of_pairwise (le := fun x y : Nat × Nat => x.1 < y.1 ∨ x.1 = y.1 ∧ x.2 < y.2) (fun a b _ _ q1 q2 => ?_) h1 h2 hp
  omega

theorem rises_ext {E E' : List (Nat × Nat)} (h : Rises E) (h' : Rises E') (hm : ∀ e, e ∈ E ↔ e ∈ E') : E = E' :=
  rises_eq h h' ((List.perm_ext_iff_of_nodup (rises_nodup h) (rises_nodup h')).2 hm)

/-- An edge of a forest is the only way between its nodes. -/
theorem Forest.without {E E' : List (Nat × Nat)} {e : Nat × Nat} (hf : Forest E) (ha : Among n E) (he : e ∈ E) (hs : ∀ x ∈ E', x ∈ E ∧ x ≠ e) : ¬ Conn E' e.1 e.2 := by
  obtain ⟨P, Q, rfl⟩ := List.append_of_mem he
  have h : ¬ Conn (P ++ Q) e.1 e.2 := (Forest.out (n := n) (A := P) (B := Q) (a := e.1) (b := e.2) hf ha).2
  exact fun hc => h (conn_mono (fun x hx => by
    obtain ⟨h1, h2⟩ := hs x hx
    rcases List.mem_append.1 h1 with h1 | h1
    · exact List.mem_append_left _ h1
    · rcases List.mem_cons.1 h1 with h1 | h1
      · exact absurd h1 h2
      · exact List.mem_append_right _ h1) hc)

/-- A value in another's place. -/
def upd {α : Type} (g : Nat × Nat → α) (e : Nat × Nat) (x : α) : Nat × Nat → α := fun y => if y = e then x else g y

theorem upd_same {α : Type} (g : Nat × Nat → α) (e : Nat × Nat) (x : α) : upd g e x e = x := if_pos rfl
theorem upd_other {α : Type} {g : Nat × Nat → α} {e y : Nat × Nat} {x : α} (h : y ≠ e) : upd g e x y = g y := if_neg h

/-- Those of a list have risen by one. -/
def lvUp (lv : Nat × Nat → Nat) (T : List (Nat × Nat)) : Nat × Nat → Nat := fun e => if e ∈ T then lv e + 1 else lv e

theorem lvUp_in {T : List (Nat × Nat)} {e : Nat × Nat} (h : e ∈ T) : lvUp lv T e = lv e + 1 := if_pos h
theorem lvUp_out {T : List (Nat × Nat)} {e : Nat × Nat} (h : e ∉ T) : lvUp lv T e = lv e := if_neg h
theorem lvUp_le (T : List (Nat × Nat)) (e : Nat × Nat) : lv e ≤ lvUp lv T e := by unfold lvUp; split <;> omega
theorem lvUp_nil : lvUp lv [] = lv := by funext e; exact if_neg (by simp)

/-- One more of them rises. -/
theorem lvUp_rise {P Q : List (Nat × Nat)} (hT : (P ++ f :: Q).Nodup) (hf : f ∈ A) (hl : lv f = k) : Rise A (lvUp lv P) (lvUp lv (P ++ [f])) f k := by
  have hn : f ∉ P := fun h => by
    rw [List.nodup_append] at hT
    exact hT.2.2 f h f (List.mem_cons_self ..) rfl
  refine ⟨hf, by rw [lvUp_out hn, hl], by rw [lvUp_in (by simp), hl], fun e _ hne => ?_⟩
  by_cases h : e ∈ P
  · rw [lvUp_in h, lvUp_in (List.mem_append_left _ h)]
  · rw [lvUp_out h, lvUp_out (fun q => by
      rcases List.mem_append.1 q with q | q
      · exact h q
      · simp at q; exact hne q)]

/-- At their own level those that rise hang together as they did. -/
theorem Fo_up {T : List (Nat × Nat)} (hT : ∀ e ∈ T, lv e = k) : Fo A (lvUp lv T) tr k = Fo A lv tr k := by
  unfold Fo
  refine List.filter_congr fun e _ => ?_
  by_cases h : e ∈ T
  · rw [lvUp_in h, hT e h]; simp
  · rw [lvUp_out h]

/-- An edge that joins the two parts at its level joins two parts at each below. -/
theorem Cut.cross (h : Cut n A lv tr a b (l + 1)) (hfA : f ∈ A) (hl : lv f = l) (hc : ¬ Conn (Fo A lv tr l) f.1 f.2) (v : Nat) : ¬ Conn (Fo A lv tr v) f.1 f.2 := by
  have hj := h.low f hfA (by omega)
  rw [hl] at hj
  intro q0
  have q := Fo.down (Nat.zero_le _) q0
  have up : ∀ {i j}, Conn (Fo A lv tr l) i j → Conn (Fo A lv tr 0) i j := fun {i j} q => Fo.down (Nat.zero_le _) q
  have e := conn_eqv (Fo A lv tr 0)
  rcases conn_cons.1 hj with q1 | ⟨q1, q2⟩ | ⟨q1, q2⟩
  · exact hc q1
  · exact h.apart (e.trans (e.symm (up q1)) (e.trans q (e.symm (up q2))))
  · exact h.apart (e.trans (up q2) (e.trans (e.symm q) (up q1)))

/-- Where all of the tree's edges of a side have risen, that side hangs together at the level above. -/
theorem side_risen (h : ∀ e ∈ A, tr e = true → lv e = k → ¬ Conn (Fo A lv tr k) s e.1) {x y : Nat} (hx : Conn (Fo A lv tr k) s x) (hy : Conn (Fo A lv tr k) s y) : Conn (Fo A lv tr (k + 1)) x y := by
  have q := conn_eqv (Fo A lv tr k)
  have u := conn_eqv (Fo A lv tr (k + 1))
  have hxy : Conn (Fo A lv tr k) x y := q.trans (q.symm hx) hy
  have := hxy (fun i j => (Conn (Fo A lv tr k) s i ↔ Conn (Fo A lv tr k) s j) ∧ (Conn (Fo A lv tr k) s i → Conn (Fo A lv tr (k + 1)) i j)) ⟨⟨fun i => ⟨Iff.rfl, fun _ => u.refl i⟩, ?_, ?_⟩, fun e he => ?_⟩
  · exact this.2 hx
  · rintro i j ⟨h1, h2⟩
    exact ⟨h1.symm, fun h3 => u.symm (h2 (h1.2 h3))⟩
  · rintro i j m ⟨h1, h2⟩ ⟨h3, h4⟩
    exact ⟨h1.trans h3, fun h5 => u.trans (h2 h5) (h4 (h1.1 h5))⟩
  · have hc := conn_edge he
    refine ⟨⟨fun h1 => q.trans h1 hc, fun h1 => q.trans h1 (q.symm hc)⟩, fun h1 => ?_⟩
    obtain ⟨m1, m2, m3⟩ := mem_Fo.1 he
    have hne : lv e ≠ k := fun e1 => h e m1 m2 e1 h1
    have hm : e ∈ Fo A lv tr (k + 1) := mem_Fo.2 ⟨m1, m2, by omega⟩
    exact conn_edge hm

/-- Nothing of the level touches a side any more: the next level is looked at. -/
theorem Cut.next (h : Cut n A lv tr a b (k + 1)) (hs : s = a ∨ s = b) (hn : ∀ e ∈ A, tr e = false → lv e = k → ¬ Conn (Fo A lv tr k) s e.1 ∧ ¬ Conn (Fo A lv tr k) s e.2) : Cut n A lv tr a b k := by
  refine h.down fun e he hl => ?_
  cases ht : tr e with
  | true =>
    have hm : e ∈ Fo A lv tr k := mem_Fo.2 ⟨he, ht, by omega⟩
    exact conn_edge hm
  | false =>
    have hj := h.low e he (by omega)
    rw [hl] at hj
    obtain ⟨n1, n2⟩ := hn e he ht hl
    have q := conn_eqv (Fo A lv tr k)
    rcases conn_cons.1 hj with q1 | ⟨q1, q2⟩ | ⟨q1, q2⟩
    · exact q1
    · rcases hs with rfl | rfl
      · exact absurd (q.symm q1) n1
      · exact absurd q2 n2
    · rcases hs with rfl | rfl
      · exact absurd q2 n2
      · exact absurd (q.symm q1) n1

/-- The lesser side is small enough to rise. -/
theorem Cut.lesser (h : Cut n A lv tr a b (k + 1)) (hr : Rest (Fo A lv tr k) p) (hst : (s = a ∧ t = b) ∨ (s = b ∧ t = a)) (hle : (nodesOf n p (p s)).length ≤ (nodesOf n p (p t)).length) : Few n (Fo A lv tr k) s (n / 2 ^ (k + 1)) := by
  have hm : ∀ c i, i ∈ nodesOf n p (p c) → i < n ∧ Conn (Fo A lv tr k) i c := fun c i hi => by
    obtain ⟨h1, h2⟩ := mem_nodesOf.1 hi
    exact ⟨h1, (hr.same i c).1 h2⟩
  have hh := h.half (nodesOf_nodup n p (p a)) (hm a) (nodesOf_nodup n p (p b)) (hm b)
  refine few_of (Y := nodesOf n p (p s)) (fun i hi hc => mem_nodesOf.2 ⟨hi, (hr.same i s).2 hc⟩) ?_
  rw [half_pow]
  generalize n / 2 ^ k = m at *
  rcases hst with ⟨rfl, rfl⟩ | ⟨rfl, rfl⟩ <;> omega

/-- Two nodes that hang together among few: the level above is one that may be. -/
theorem few_two {E : List (Nat × Nat)} {m : Nat} (h : Few n E s m) {x y : Nat} (hne : x ≠ y) (hx : x < n ∧ Conn E x s) (hy : y < n ∧ Conn E y s) : 2 ≤ m := by
  have := h [x, y] (by simp [hne]) (fun i hi => by
    simp only [List.mem_cons, List.not_mem_nil, or_false] at hi
    rcases hi with rfl | rfl
    · exact hx
    · exact hy)
  simpa using this

theorem Fo_rises (h : Rises A) (v : Nat) : Rises (Fo A lv tr v) := h.filter _

theorem Fo_other {e : Nat × Nat} (h : ∀ x ∈ A, x ≠ e → lv' x = lv x ∧ tr' x = tr x) (h1 : tr e = false ∨ lv e < v) (h2 : tr' e = false ∨ lv' e < v) : Fo A lv' tr' v = Fo A lv tr v := by
  unfold Fo
  refine List.filter_congr fun x hx => ?_
  by_cases c : x = e
  · subst c
    have e1 : (tr x && decide (v ≤ lv x)) = false := by
      rcases h1 with h1 | h1
      · rw [h1]; rfl
      · rw [decide_eq_false (by omega)]; simp
    have e2 : (tr' x && decide (v ≤ lv' x)) = false := by
      rcases h2 with h2 | h2
      · rw [h2]; rfl
      · rw [decide_eq_false (by omega)]; simp
    rw [e1, e2]
  · rw [(h x hx c).1, (h x hx c).2]

theorem Fo_split {P Q : List (Nat × Nat)} {e : Nat × Nat} : Fo (P ++ e :: Q) lv tr v = if tr e = true ∧ v ≤ lv e then Fo P lv tr v ++ e :: Fo Q lv tr v else Fo (P ++ Q) lv tr v := by
  unfold Fo
  split
  · rename_i h
    rw [List.filter_append, List.filter_cons_of_pos (by simp [h.1, h.2])]
  · rename_i h
    rw [List.filter_append, List.filter_append, List.filter_cons_of_neg]
    simp only [Bool.and_eq_true, decide_eq_true_eq]
    exact h

end Go.Proofs.YtcebfloeikjjcabGreat
