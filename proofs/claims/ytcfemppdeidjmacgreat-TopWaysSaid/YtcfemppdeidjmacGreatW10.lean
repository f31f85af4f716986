/-
  Mf
-/
import Derived.Test.YtcfemppdeidjmacGreatW9
import Derived.Test.YtcfemppdeidjmacGreatW4
namespace Go.Proofs.YtcfemppdeidjmacGreat
set_option linter.unusedSectionVars false
variable [Inhabited Zed]
set_option linter.unusedVariables false

variable {n k l v : Nat} {A : List (Nat × Nat)} {lv lv' : Nat × Nat → Nat} {tr tr' : Nat × Nat → Bool} {a b s t : Nat} {f : Nat × Nat} {p : Nat → Nat}

theorem rises_nodup {E : List (Nat × Nat)} (h : Rises E) : E.Nodup := h.imp fun {x y} q e => by subst e; omega

theorem Rises.filter {E : List (Nat × Nat)} (h : Rises E) (q : Nat × Nat → Bool) : Rises (E.filter q) := List.Pairwise.sublist List.filter_sublist h

theorem rises_eq {A B : List (Nat × Nat)} (h1 : Rises A) (h2 : Rises B) (hp : A.Perm B) : A = B := by
  refine List.Perm.eq_of_pairwise (le := fun x y : Nat × Nat => x.1 < y.1 ∨ x.1 = y.1 ∧ x.2 < y.2) (fun a b _ _ q1 q2 => ?_) h1 h2 hp
  omega

theorem rises_ext {E E' : List (Nat × Nat)} (h : Rises E) (h' : Rises E') (hm : ∀ e, e ∈ E ↔ e ∈ E') : E = E' :=
  rises_eq h h' ((List.perm_ext_iff_of_nodup (rises_nodup h) (rises_nodup h')).2 hm)

theorem Forest.without {E E' : List (Nat × Nat)} {e : Nat × Nat} (hf : Forest E) (ha : Among n E) (he : e ∈ E) (hs : ∀ x ∈ E', x ∈ E ∧ x ≠ e) : ¬ Conn E' e.1 e.2 := by
  obtain ⟨P, Q, rfl⟩ := List.append_of_mem he
  have h : ¬ Conn (P ++ Q) e.1 e.2 := (Forest.out (n := n) (A := P) (B := Q) (a := e.1) (b := e.2) hf ha).2
  exact fun hc => h (conn_mono (fun x hx => by
    obtain ⟨h1, h2⟩ := hs x hx
    rcases List.mem_append.1 h1 with h1 | h1
    · exact List.mem_append_left _ h1
    · rcases List.mem_cons.1 h1 with h1 | h1
      · exact absurd h1 h2
      · exact List.mem_append_right _ h1) hc)

def upd {α : Type} (g : Nat × Nat → α) (e : Nat × Nat) (x : α) : Nat × Nat → α := fun y => if y = e then x else g y

theorem upd_same {α : Type} (g : Nat × Nat → α) (e : Nat × Nat) (x : α) : upd g e x e = x := if_pos rfl
theorem upd_other {α : Type} {g : Nat × Nat → α} {e y : Nat × Nat} {x : α} (h : y ≠ e) : upd g e x y = g y := if_neg h

def lvUp (lv : Nat × Nat → Nat) (T : List (Nat × Nat)) : Nat × Nat → Nat := fun e => if e ∈ T then lv e + 1 else lv e

theorem lvUp_in {T : List (Nat × Nat)} {e : Nat × Nat} (h : e ∈ T) : lvUp lv T e = lv e + 1 := if_pos h
theorem lvUp_out {T : List (Nat × Nat)} {e : Nat × Nat} (h : e ∉ T) : lvUp lv T e = lv e := if_neg h
theorem lvUp_le (T : List (Nat × Nat)) (e : Nat × Nat) : lv e ≤ lvUp lv T e := by unfold lvUp; split <;> omega
theorem lvUp_nil : lvUp lv [] = lv := by funext e; exact if_neg (by simp)

theorem lvUp_rise {P Q : List (Nat × Nat)} (hT : (P ++ f :: Q).Nodup) (hf : f ∈ A) (hl : lv f = k) : Rise A (lvUp lv P) (lvUp lv (P ++ [f])) f k := by
  have hn : f ∉ P := fun h => by
    rw [List.nodup_append] at hT
    exact hT.2.2 f h f (List.mem_cons_self ..) rfl
  refine ⟨hf, by rw [lvUp_out hn, hl], by rw [lvUp_in (by simp), hl], fun e _ hne => ?_⟩
  by_cases h : e ∈ P
  · rw [lvUp_in h, lvUp_in (List.mem_append_left _ h)]
  · rw [lvUp_out h, lvUp_out (fun q => by
      rcases List.mem_append.1 q with q | q
      · exact h q
      · simp at q; exact hne q)]

theorem Fo_up {T : List (Nat × Nat)} (hT : ∀ e ∈ T, lv e = k) : Fo A (lvUp lv T) tr k = Fo A lv tr k := by
  unfold Fo
  refine List.filter_congr fun e _ => ?_
  by_cases h : e ∈ T
  · rw [lvUp_in h, hT e h]; simp
  · rw [lvUp_out h]

theorem Cut.cross (h : Cut n A lv tr a b (l + 1)) (hfA : f ∈ A) (hl : lv f = l) (hc : ¬ Conn (Fo A lv tr l) f.1 f.2) (v : Nat) : ¬ Conn (Fo A lv tr v) f.1 f.2 := by
  have hj := h.low f hfA (by omega)
  rw [hl] at hj
  intro q0
  have q := Fo.down (Nat.zero_le _) q0
  have up : ∀ {i j}, Conn (Fo A lv tr l) i j → Conn (Fo A lv tr 0) i j := fun {i j} q => Fo.down (Nat.zero_le _) q
  have e := conn_eqv (Fo A lv tr 0)
  rcases conn_cons.1 hj with q1 | ⟨q1, q2⟩ | ⟨q1, q2⟩
  · exact hc q1
  · exact h.apart (e.trans (e.symm (up q1)) (e.trans q (e.symm (up q2))))
  · exact h.apart (e.trans (up q2) (e.trans (e.symm q) (up q1)))

theorem side_risen (h : ∀ e ∈ A, tr e = true → lv e = k → ¬ Conn (Fo A lv tr k) s e.1) {x y : Nat} (hx : Conn (Fo A lv tr k) s x) (hy : Conn (Fo A lv tr k) s y) : Conn (Fo A lv tr (k + 1)) x y := by
  have q := conn_eqv (Fo A lv tr k)
  have u := conn_eqv (Fo A lv tr (k + 1))
  have hxy : Conn (Fo A lv tr k) x y := q.trans (q.symm hx) hy
  have := hxy (fun i j => (Conn (Fo A lv tr k) s i ↔ Conn (Fo A lv tr k) s j) ∧ (Conn (Fo A lv tr k) s i → Conn (Fo A lv tr (k + 1)) i j)) ⟨⟨fun i => ⟨Iff.rfl, fun _ => u.refl i⟩, ?_, ?_⟩, fun e he => ?_⟩
  · exact this.2 hx
  · rintro i j ⟨h1, h2⟩
    exact ⟨h1.symm, fun h3 => u.symm (h2 (h1.2 h3))⟩
  · rintro i j m ⟨h1, h2⟩ ⟨h3, h4⟩
    exact ⟨h1.trans h3, fun h5 => u.trans (h2 h5) (h4 (h1.1 h5))⟩
  · have hc := conn_edge he
    refine ⟨⟨fun h1 => q.trans h1 hc, fun h1 => q.trans h1 (q.symm hc)⟩, fun h1 => ?_⟩
    obtain ⟨m1, m2, m3⟩ := mem_Fo.1 he
    have hne : lv e ≠ k := fun e1 => h e m1 m2 e1 h1
    have hm : e ∈ Fo A lv tr (k + 1) := mem_Fo.2 ⟨m1, m2, by omega⟩
    exact conn_edge hm

theorem Cut.next (h : Cut n A lv tr a b (k + 1)) (hs : s = a ∨ s = b) (hn : ∀ e ∈ A, tr e = false → lv e = k → ¬ Conn (Fo A lv tr k) s e.1 ∧ ¬ Conn (Fo A lv tr k) s e.2) : Cut n A lv tr a b k := by
  refine h.down fun e he hl => ?_
  cases ht : tr e with
  | true =>
    have hm : e ∈ Fo A lv tr k := mem_Fo.2 ⟨he, ht, by omega⟩
    exact conn_edge hm
  | false =>
    have hj := h.low e he (by omega)
    rw [hl] at hj
    obtain ⟨n1, n2⟩ := hn e he ht hl
    have q := conn_eqv (Fo A lv tr k)
    rcases conn_cons.1 hj with q1 | ⟨q1, q2⟩ | ⟨q1, q2⟩
    · exact q1
    · rcases hs with rfl | rfl
      · exact absurd (q.symm q1) n1
      · exact absurd q2 n2
    · rcases hs with rfl | rfl
      · exact absurd q2 n2
      · exact absurd (q.symm q1) n1

theorem Cut.lesser (h : Cut n A lv tr a b (k + 1)) (hr : Rest (Fo A lv tr k) p) (hst : (s = a ∧ t = b) ∨ (s = b ∧ t = a)) (hle : (nodesOf n p (p s)).length ≤ (nodesOf n p (p t)).length) : Few n (Fo A lv tr k) s (n / 2 ^ (k + 1)) := by
  have hm : ∀ c i, i ∈ nodesOf n p (p c) → i < n ∧ Conn (Fo A lv tr k) i c := fun c i hi => by
    obtain ⟨h1, h2⟩ := mem_nodesOf.1 hi
    exact ⟨h1, (hr.same i c).1 h2⟩
  have hh := h.half (nodesOf_nodup n p (p a)) (hm a) (nodesOf_nodup n p (p b)) (hm b)
  refine few_of (Y := nodesOf n p (p s)) (fun i hi hc => mem_nodesOf.2 ⟨hi, (hr.same i s).2 hc⟩) ?_
  rw [half_pow]
  generalize n / 2 ^ k = m at *
  rcases hst with ⟨rfl, rfl⟩ | ⟨rfl, rfl⟩ <;> omega

theorem few_two {E : List (Nat × Nat)} {m : Nat} (h : Few n E s m) {x y : Nat} (hne : x ≠ y) (hx : x < n ∧ Conn E x s) (hy : y < n ∧ Conn E y s) : 2 ≤ m := by
  have := h [x, y] (by simp [hne]) (fun i hi => by
    simp only [List.mem_cons, List.not_mem_nil, or_false] at hi
    rcases hi with rfl | rfl
    · exact hx
    · exact hy)
  simpa using this

theorem Fo_rises (h : Rises A) (v : Nat) : Rises (Fo A lv tr v) := h.filter _

theorem Fo_other {e : Nat × Nat} (h : ∀ x ∈ A, x ≠ e → lv' x = lv x ∧ tr' x = tr x) (h1 : tr e = false ∨ lv e < v) (h2 : tr' e = false ∨ lv' e < v) : Fo A lv' tr' v = Fo A lv tr v := by
  unfold Fo
  refine List.filter_congr fun x hx => ?_
  by_cases c : x = e
  · subst c
    have e1 : (tr x && decide (v ≤ lv x)) = false := by
      rcases h1 with h1 | h1
      · rw [h1]; rfl
      · rw [decide_eq_false (by omega)]; simp
    have e2 : (tr' x && decide (v ≤ lv' x)) = false := by
      rcases h2 with h2 | h2
      · rw [h2]; rfl
      · rw [decide_eq_false (by omega)]; simp
    rw [e1, e2]
  · rw [(h x hx c).1, (h x hx c).2]

theorem Fo_split {P Q : List (Nat × Nat)} {e : Nat × Nat} : Fo (P ++ e :: Q) lv tr v = if tr e = true ∧ v ≤ lv e then Fo P lv tr v ++ e :: Fo Q lv tr v else Fo (P ++ Q) lv tr v := by
  unfold Fo
  split
  · rename_i h
    rw [List.filter_append, List.filter_cons_of_pos (by simp [h.1, h.2])]
  · rename_i h
    rw [List.filter_append, List.filter_append, List.filter_cons_of_neg]
    simp only [Bool.and_eq_true, decide_eq_true_eq]
    exact h

end Go.Proofs.YtcfemppdeidjmacGreat

namespace Go.Proofs.YtcfemppdeidjmacGreat
set_option linter.unusedSectionVars false
variable [Inhabited Zed]
set_option linter.unusedVariables false

variable {n k l v : Nat} {A P Q T : List (Nat × Nat)} {lv lv' lv1 : Nat × Nat → Nat} {tr tr' : Nat × Nat → Bool} {a b s t : Nat} {f : Nat × Nat} {p : Nat → Nat}

theorem rise_fo (hA : Rises A) (r : Rise A lv lv' f k) (ht : tr f = true) : (∀ P Q, Fo A lv tr (k + 1) = P ++ Q → Rises (P ++ f :: Q) → P ++ f :: Q = Fo A lv' tr (k + 1)) ∧ ∀ i, i ≠ k + 1 → Fo A lv tr i = Fo A lv' tr i := by
  refine ⟨fun P Q he hr => rises_ext hr (Fo_rises hA _) fun e => ?_, fun i hi => rises_ext (Fo_rises hA _) (Fo_rises hA _) fun e => (r.same hi e).symm⟩
  rw [r.mem, he, List.mem_append, List.mem_append, List.mem_cons]
  constructor
  · rintro (h | h | h)
    · exact Or.inl (Or.inl h)
    · exact Or.inr ⟨h, ht, rfl⟩
    · exact Or.inl (Or.inr h)
  · rintro ((h | h) | ⟨h, _⟩)
    · exact Or.inl h
    · exact Or.inr (Or.inr h)
    · exact Or.inr (Or.inl h)

theorem rise_rest_fo (r : Rise A lv lv' f k) (ht : tr f = false) (i : Nat) : Fo A lv tr i = Fo A lv' tr i :=
  (Fo_other (e := f) (fun x hx hne => ⟨r.rest x hx hne, rfl⟩) (Or.inl ht) (Or.inl ht)).symm

theorem plant_fo (hA : Rises A) (hf : f ∈ A) (hl : lv f = l) (ht : tr f = false) : (∀ v, v ≤ l → ∀ P Q, Fo A lv tr v = P ++ Q → Rises (P ++ f :: Q) → P ++ f :: Q = Fo A lv (upd tr f true) v) ∧ ∀ v, l < v → Fo A lv tr v = Fo A lv (upd tr f true) v := by
  refine ⟨fun v hv P Q he hr => rises_ext hr (Fo_rises hA _) fun e => ?_, fun v hv => (Fo_other (e := f) (fun x hx hne => ⟨rfl, upd_other hne⟩) (Or.inl ht) (Or.inr (by omega))).symm⟩
  have h1 : e ∈ P ++ Q ↔ e ∈ A ∧ tr e = true ∧ v ≤ lv e := by rw [← he]; exact mem_Fo
  rw [List.mem_append] at h1
  rw [mem_Fo, List.mem_append, List.mem_cons]
  by_cases c : e = f
  · subst c
    rw [upd_same]
    exact ⟨fun _ => ⟨hf, rfl, by omega⟩, fun _ => Or.inr (Or.inl rfl)⟩
  · rw [upd_other c, ← h1]
    constructor
    · rintro (h | h | h)
      · exact Or.inl h
      · exact absurd h c
      · exact Or.inr h
    · rintro (h | h)
      · exact Or.inl h
      · exact Or.inr (Or.inr h)

structure Side1 (A : List (Nat × Nat)) (lv : Nat × Nat → Nat) (tr : Nat × Nat → Bool) (k s : Nat) (T : List (Nat × Nat)) : Prop where
  mem : ∀ e, e ∈ T ↔ e ∈ A ∧ tr e = true ∧ lv e = k ∧ Conn (Fo A lv tr k) s e.1
  nodup : T.Nodup

theorem side1_of (hA : Rises A) (hr : Rest (Fo A lv tr k) p) : Side1 A lv tr k s (A.filter fun e => tr e && decide (lv e = k) && decide (p s = p e.1)) :=
  ⟨fun e => by rw [List.mem_filter]; simp only [Bool.and_eq_true, decide_eq_true_eq, hr.same, and_assoc], (rises_nodup hA).sublist List.filter_sublist⟩

structure Side2 (A : List (Nat × Nat)) (lv : Nat × Nat → Nat) (tr : Nat × Nat → Bool) (k s : Nat) (T : List (Nat × Nat)) : Prop where
  mem : ∀ e, e ∈ T ↔ e ∈ A ∧ tr e = false ∧ lv e = k ∧ (Conn (Fo A lv tr k) s e.1 ∨ Conn (Fo A lv tr k) s e.2)
  nodup : T.Nodup

theorem side2_of (hA : Rises A) (hr : Rest (Fo A lv tr k) p) : Side2 A lv tr k s (A.filter fun e => !tr e && decide (lv e = k) && (decide (p s = p e.1) || decide (p s = p e.2))) :=
  ⟨fun e => by rw [List.mem_filter]; simp only [Bool.and_eq_true, Bool.not_eq_true', Bool.or_eq_true, decide_eq_true_eq, hr.same, and_assoc], (rises_nodup hA).sublist List.filter_sublist⟩

theorem Cut.rise1 (h : Cut n A (lvUp lv P) tr a b (k + 1)) (hs : Side1 A lv tr k s (P ++ f :: Q)) (hf : Few n (Fo A lv tr k) s (n / 2 ^ (k + 1))) (hne : f.1 ≠ f.2) :
    Cut n A (lvUp lv (P ++ [f])) tr a b (k + 1) ∧ Rise A (lvUp lv P) (lvUp lv (P ++ [f])) f k ∧ ¬ Conn (Fo A (lvUp lv P) tr (k + 1)) f.1 f.2 ∧ tr f = true ∧ 0 < n / 2 ^ (k + 1) := by
  obtain ⟨m1, m2, m3, m4⟩ := (hs.mem f).1 (by simp)
  have r : Rise A (lvUp lv P) (lvUp lv (P ++ [f])) f k := lvUp_rise hs.nodup m1 m3
  have hP : ∀ e ∈ P, lv e = k := fun e he => ((hs.mem e).1 (List.mem_append_left _ he)).2.2.1
  have e1 : Fo A (lvUp lv P) tr k = Fo A lv tr k := Fo_up hP
  have q := conn_eqv (Fo A lv tr k)
  have hff : f ∈ Fo A lv tr k := mem_Fo.2 ⟨m1, m2, by omega⟩
  have hc2 : Conn (Fo A lv tr k) f.1 f.2 := conn_edge hff
  refine ⟨h.raise_tree r m2 (by rw [e1]; exact hf.move (q.symm m4)), r, ?_, m2, ?_⟩
  · have hm0 : f ∈ Fo A (lvUp lv P) tr 0 := mem_Fo.2 ⟨m1, m2, Nat.zero_le _⟩
    refine Forest.without h.forest (fun e he => h.among e (mem_Fo.1 he).1) hm0 fun x hx => ?_
    obtain ⟨x1, x2, x3⟩ := mem_Fo.1 hx
    refine ⟨mem_Fo.2 ⟨x1, x2, Nat.zero_le _⟩, fun e => ?_⟩
    subst e
    rw [r.was] at x3
    omega
  · have := few_two hf hne ⟨(h.among f m1).1, q.symm m4⟩ ⟨(h.among f m1).2, q.symm (q.trans m4 hc2)⟩
    omega

theorem side1_done (hs : Side1 A lv tr k s T) : Fo A (lvUp lv T) tr k = Fo A lv tr k ∧ ∀ e ∈ A, tr e = true → lvUp lv T e = k → ¬ Conn (Fo A lv tr k) s e.1 := by
  refine ⟨Fo_up fun e he => ((hs.mem e).1 he).2.2.1, fun e he ht hl hc => ?_⟩
  by_cases c : e ∈ T
  · rw [lvUp_in c, ((hs.mem e).1 c).2.2.1] at hl
    omega
  · rw [lvUp_out c] at hl
    exact c ((hs.mem e).2 ⟨he, ht, hl, hc⟩)

theorem Cut.rise2 (h : Cut n A (lvUp lv P) tr a b (k + 1)) (hs : Side2 A lv tr k s (P ++ f :: Q)) (h1 : ∀ e ∈ A, tr e = true → lv e = k → ¬ Conn (Fo A lv tr k) s e.1) (hx : Conn (Fo A lv tr k) s f.1) (hy : Conn (Fo A lv tr k) s f.2) :
    Cut n A (lvUp lv (P ++ [f])) tr a b (k + 1) ∧ Rise A (lvUp lv P) (lvUp lv (P ++ [f])) f k ∧ tr f = false := by
  obtain ⟨m1, m2, m3, m4⟩ := (hs.mem f).1 (by simp)
  have r : Rise A (lvUp lv P) (lvUp lv (P ++ [f])) f k := lvUp_rise hs.nodup m1 m3
  have hP : ∀ e ∈ P, lv e = k := fun e he => ((hs.mem e).1 (List.mem_append_left _ he)).2.2.1
  have e1 : Fo A (lvUp lv P) tr k = Fo A lv tr k := Fo_up hP
  refine ⟨h.raise_rest r m2 (side_risen (s := s) (fun e he ht hl => ?_) (by rw [e1]; exact hx) (by rw [e1]; exact hy)), r, m2⟩
  rw [e1]
  have c : e ∉ P := fun c => by
    have := ((hs.mem e).1 (List.mem_append_left _ c)).2.1
    rw [ht] at this
    cases this
  rw [lvUp_out c] at hl
  exact h1 e he ht hl

theorem Cut.found (h : Cut n A (lvUp lv P) tr a b (k + 1)) (hA : A.Nodup) (hs : Side2 A lv tr k s (P ++ f :: Q)) (ho : ¬ (Conn (Fo A lv tr k) s f.1 ∧ Conn (Fo A lv tr k) s f.2)) :
    Levels n A (lvUp lv P) (upd tr f true) ∧ f ∈ A ∧ tr f = false ∧ lvUp lv P f = k ∧ ∀ v, ¬ Conn (Fo A (lvUp lv P) tr v) f.1 f.2 := by
  obtain ⟨m1, m2, m3, m4⟩ := (hs.mem f).1 (by simp)
  have r : Rise A (lvUp lv P) (lvUp lv (P ++ [f])) f k := lvUp_rise hs.nodup m1 m3
  have hP : ∀ e ∈ P, lv e = k := fun e he => ((hs.mem e).1 (List.mem_append_left _ he)).2.2.1
  have e1 : Fo A (lvUp lv P) tr k = Fo A lv tr k := Fo_up hP
  have q := conn_eqv (Fo A lv tr k)
  have hc : ¬ Conn (Fo A (lvUp lv P) tr k) f.1 f.2 := by
    rw [e1]
    intro hc
    rcases m4 with m4 | m4
    · exact ho ⟨m4, q.trans m4 hc⟩
    · exact ho ⟨q.trans m4 (q.symm hc), m4⟩
  exact ⟨h.replace hA m1 r.was m2 hc (upd_same ..) (fun e _ hne => upd_other hne), m1, m2, r.was, fun v => h.cross m1 r.was hc v⟩

theorem Cut.last (h : Cut n A (lvUp lv T) tr a b (k + 1)) (hs : Side2 A lv tr k s T) (hab : s = a ∨ s = b) : Cut n A (lvUp lv T) tr a b k := by
  refine h.next hab fun e he ht hl => ?_
  have e1 : Fo A (lvUp lv T) tr k = Fo A lv tr k := Fo_up fun e he => ((hs.mem e).1 he).2.2.1
  rw [e1]
  have c : e ∉ T := fun c => by
    rw [lvUp_in c, ((hs.mem e).1 c).2.2.1] at hl
    omega
  rw [lvUp_out c] at hl
  exact ⟨fun hc => c ((hs.mem e).2 ⟨he, ht, hl, Or.inl hc⟩), fun hc => c ((hs.mem e).2 ⟨he, ht, hl, Or.inr hc⟩)⟩

end Go.Proofs.YtcfemppdeidjmacGreat

namespace Go.Proofs.YtcfemppdeidjmacGreat.Gr
set_option linter.unusedSectionVars false
variable [Inhabited Zed]
open Go.RowKit Go.Deep Go.Maps
open Go.RowKit (Below)
set_option linter.unusedVariables false

def hv (l : Nat) (t : Bool) : Value := .agg #[.int .i64 (l : Nat), .bool t]
def hd (l : Int) (t : Bool) : DataW Unit := .agg [.lit (.int .i64 l), .lit (.bool t)]

def heldElem : Value → Option (DataW Unit × List MemPlace)
  | .agg ⟨[.int .i64 l, .bool t]⟩ => some (hd l t, [])
  | _ => none

theorem held_mk (l : Nat) (t : Bool) : heldElem (hv l t) = some (hd l t, []) := rfl

theorem held_form {v : Value} {y : DataW Unit × List MemPlace} (h : heldElem v = some y) : ∃ (l : Int) (t : Bool), v = .agg #[.int .i64 l, .bool t] ∧ y = (hd l t, []) := by
  unfold heldElem at h
  split at h
  · rename_i l t
    cases h
    exact ⟨l, t, rfl, rfl⟩
  · cases h

theorem held_inv {v : Value} {l : Nat} {t : Bool} {ps : List MemPlace} (h : heldElem v = some (hd l t, ps)) : v = hv l t := by
  obtain ⟨l', t', rfl, e⟩ := held_form h
  simp [hd] at e
  obtain ⟨⟨rfl, rfl⟩, _⟩ := e
  rfl

set_option maxRecDepth 1000000 in
theorem zero_held (w : World) : (zeroValue 91).run Tryz.prog w = .ok (hv 0 false) w := by kernel_rfl

structure HMap (w : World) (mb : Nat) (D : DataW Unit) (A : List (Nat × Nat)) (lv : Nat × Nat → Nat) (tr : Nat × Nat → Bool) : Prop where
  own : ∃ m, w.ownsMap Tryz.prog 44 heldElem mb m D
  has : ∀ v kl, keyOf Tryz.prog 44 v = some kl → (Maps.has D kl = true ↔ ∃ e ∈ A, v = ev e.1 e.2)
  size : Maps.size D = A.length
  at_ : ∀ e ∈ A, ∀ kl, keyOf Tryz.prog 44 (ev (e.1 : Nat) (e.2 : Nat)) = some kl → ∀ z, D.atKey kl z = hd (lv e) (tr e)

variable {w w' w'' : World} {mb : Nat} {D : DataW Unit} {A A' : List (Nat × Nat)} {lv lv' : Nat × Nat → Nat} {tr tr' : Nat × Nat → Bool} {a b : Nat}

theorem HMap.of_block (h : HMap w mb D A lv tr) (e : w'.heap[mb]? = w.heap[mb]?) : HMap w' mb D A lv tr := by
  obtain ⟨m, es, clock, hb, r⟩ := h.own
  exact ⟨⟨m, es, clock, e.trans hb, r⟩, h.has, h.size, h.at_⟩

theorem HMap.isMap (h : HMap w mb D A lv tr) : IsMapAt w mb := by obtain ⟨m, es, c, hb, _⟩ := h.own; exact ⟨es, c, hb⟩

theorem HMap.look_ok (h : HMap w mb D A lv tr) (ha : a < 1000000) (hb : b < 1000000) (q : Bool) (hq : q = true ↔ (a, b) ∈ A) :
    ∃ (l : Int) (t : Bool), (Instr.lookup 85 (.map (some mb)) (ev a b) true).run Tryz.prog w = .ok (.tuple #[.agg #[.int .i64 l, .bool t], .bool q]) w := by
  obtain ⟨m, hown⟩ := h.own
  obtain ⟨kl, hkey⟩ := key_some a b ha hb
  obtain ⟨v, ps, hrun, hv⟩ := hown.look_ok Tryz.lawEdge Tryz.underlying85 (zero_held w) (zd := hd 0 false) (zp := []) (held_mk 0 false) hkey
  obtain ⟨l, t, rfl, _⟩ := held_form hv
  have e : Maps.has D kl = q := by
    rw [Bool.eq_iff_iff, hq, h.has _ kl hkey, ev_mem]
  exact ⟨l, t, by rw [hrun, e]⟩

theorem HMap.look (h : HMap w mb D A lv tr) (ha : a < 1000000) (hb : b < 1000000) (hin : (a, b) ∈ A) :
    (Instr.lookup 85 (.map (some mb)) (ev a b) false).run Tryz.prog w = .ok (hv (lv (a, b)) (tr (a, b))) w := by
  obtain ⟨m, hown⟩ := h.own
  obtain ⟨kl, hkey⟩ := key_some a b ha hb
  obtain ⟨v, ps, hrun, hv⟩ := hown.lookup Tryz.lawEdge Tryz.underlying85 (zero_held w) (zd := hd 0 false) (zp := []) (held_mk 0 false) hkey
  rw [h.at_ (a, b) hin kl hkey] at hv
  rw [hrun, held_inv hv]

theorem HMap.len (h : HMap w mb D A lv tr) (ty : TypeId) : (Builtin.len_ #[85] ty #[.map (some mb)]).run Tryz.prog w = .ok (.int .i64 (A.length : Nat)) w := by
  obtain ⟨m, hown⟩ := h.own
  rw [hown.len Tryz.underlying85, h.size]

theorem edge_key {e : Nat × Nat} {kl : Lit} (h1 : keyOf Tryz.prog 44 (ev (a : Nat) (b : Nat)) = some kl) (h2 : keyOf Tryz.prog 44 (ev (e.1 : Nat) (e.2 : Nat)) = some kl) : e = (a, b) := by
  have := ev_inj (Tryz.lawEdge.inj h2 h1)
  exact Prod.ext (by omega) (by omega)

theorem HMap.put (h : HMap w mb D A lv tr) (hl : A.length < 1000000) (ha : a < 1000000) (hb : b < 1000000) (l : Nat) (t : Bool) (hA : ∀ e, e ∈ A' ↔ e = (a, b) ∨ e ∈ A) (hn : A'.length = if (a, b) ∈ A then A.length else A.length + 1)
    (h1 : lv' (a, b) = l ∧ tr' (a, b) = t) (h2 : ∀ e ∈ A, e ≠ (a, b) → lv' e = lv e ∧ tr' e = tr e) :
    ∃ w' D', (Instr.mapUpdate 85 (.map (some mb)) (ev a b) (hv l t)).run Tryz.prog w = .ok () w' ∧ HMap w' mb D' A' lv' tr' ∧ w.mapTurned w' mb := by
  obtain ⟨m, hown⟩ := h.own
  obtain ⟨kl, hkey⟩ := key_some a b ha hb
  obtain ⟨w', hrun, hown', ht⟩ := (own_exact hown).store Tryz.lawEdge Tryz.underlying85 (by rw [h.size]; unfold maxLen; omega) hkey (ps := []) (held_mk l t)
  refine ⟨w', _, hrun, ⟨⟨_, hown'⟩, fun v k2 hk2 => ?_, ?_, fun e he k2 hk2 z => ?_⟩, ht⟩
  · by_cases e : k2 = kl
    · subst e
      rw [has_put_same hown.isMap (Tryz.lawEdge.key hkey)]
      obtain rfl := Tryz.lawEdge.inj hkey hk2
      simp only [true_iff]
      exact ⟨(a, b), (hA _).2 (Or.inl rfl), rfl⟩
    · rw [has_put_other e, h.has v k2 hk2]
      constructor
      · rintro ⟨x, hx, e1⟩; exact ⟨x, (hA x).2 (Or.inr hx), e1⟩
      · rintro ⟨x, hx, e1⟩
        rcases (hA x).1 hx with rfl | hx
        · rw [e1, hkey] at hk2; cases hk2; exact absurd rfl e
        · exact ⟨x, hx, e1⟩
  · rw [size_put (hown.tidy Tryz.lawEdge), hn, h.size]
    by_cases e : (a, b) ∈ A
    · rw [if_pos e, (h.has _ kl hkey).2 (ev_mem.2 e)]; simp
    · have hh : Maps.has D kl = false := by
        rw [Bool.eq_false_iff]
        exact fun q => e (ev_mem.1 ((h.has _ kl hkey).1 q))
      rw [if_neg e, hh]; simp
  · by_cases e1 : k2 = kl
    · subst e1
      obtain rfl := edge_key hkey hk2
      rw [h1.1, h1.2]
      exact atKey_put_same hown.isMap (Tryz.lawEdge.key hkey) _ _
    · have hne : e ≠ (a, b) := fun q => e1 (by subst q; rw [hkey] at hk2; cases hk2; rfl)
      have heA : e ∈ A := ((hA e).1 he).resolve_left hne
      rw [atKey_put_other e1, h.at_ e heA k2 hk2, (h2 e heA hne).1, (h2 e heA hne).2]

theorem HMap.drop (h : HMap w mb D A lv tr) (ha : a < 1000000) (hb : b < 1000000) (hn : (a, b) ∉ A') (hp : A.Perm ((a, b) :: A')) (ty : TypeId) :
    ∃ w' D', (Builtin.delete_ #[85, 44] ty #[.map (some mb), ev a b]).run Tryz.prog w = .ok (.tuple #[]) w' ∧ HMap w' mb D' A' lv tr ∧ w.mapTurned w' mb := by
  obtain ⟨m, hown⟩ := h.own
  obtain ⟨kl, hkey⟩ := key_some a b ha hb
  obtain ⟨w', hrun, hown', ht⟩ := hown.drop Tryz.lawEdge Tryz.underlying85 hkey ty
  refine ⟨w', _, hrun, ⟨⟨_, hown'⟩, fun v k2 hk2 => ?_, ?_, fun e he k2 hk2 z => ?_⟩, ht⟩
  · by_cases e : k2 = kl
    · subst e
      rw [has_del_same]
      obtain rfl := Tryz.lawEdge.inj hkey hk2
      simp only [false_iff, Bool.false_eq_true]
      rw [ev_mem]; exact hn
    · rw [has_del_other e, h.has v k2 hk2]
      constructor
      · rintro ⟨x, hx, e1⟩
        rcases List.mem_cons.1 (hp.mem_iff.1 hx) with rfl | hx
        · rw [e1, hkey] at hk2; cases hk2; exact absurd rfl e
        · exact ⟨x, hx, e1⟩
      · rintro ⟨x, hx, e1⟩; exact ⟨x, hp.mem_iff.2 (List.mem_cons_of_mem _ hx), e1⟩
  · have hh : Maps.has D kl = true := (h.has _ kl hkey).2 (ev_mem.2 (hp.mem_iff.2 (List.mem_cons_self ..)))
    have := size_del (k := kl) (hown.tidy Tryz.lawEdge)
    rw [hh, h.size, hp.length_eq] at this
    simp at this
    exact this
  · have e1 : k2 ≠ kl := fun q => hn (by subst q; obtain rfl := edge_key hkey hk2; exact he)
    rw [atKey_del_other e1]
    exact h.at_ e (hp.mem_iff.2 (List.mem_cons_of_mem _ he)) k2 hk2 z

structure Turns (F : Nat → Prop) (w w' : World) : Prop where
  os : w'.os = w.os
  tape : w'.tape = w.tape
  output : w'.output = w.output
  size : w.heap.size ≤ w'.heap.size
  block : ∀ k, k < w.heap.size → ¬ F k → w'.heap[k]? = w.heap[k]?

variable {F F' : Nat → Prop} {L : Pl} {p p' : Nat → Nat} {E E' : List (Nat × Nat)}

theorem Turns.of_below (h : Below w.heap.size w w') : Turns F w w' := ⟨h.os, h.tape, h.output, h.size, fun k hk _ => h.block k hk⟩
theorem Turns.refl (w : World) : Turns F w w := ⟨rfl, rfl, rfl, Nat.le_refl _, fun _ _ _ => rfl⟩
theorem Turns.trans (h : Turns F w w') (h' : Turns F w' w'') : Turns F w w'' :=
  ⟨h'.os.trans h.os, h'.tape.trans h.tape, h'.output.trans h.output, Nat.le_trans h.size h'.size, fun k hk hn => (h'.block k (Nat.lt_of_lt_of_le hk h.size) hn).trans (h.block k hk hn)⟩
theorem Turns.mono (h : Turns F w w') (hF : ∀ k, F k → F' k) : Turns F' w w' := ⟨h.os, h.tape, h.output, h.size, fun k hk hn => h.block k hk fun q => hn (hF k q)⟩
theorem Turns.of_turn (h : Turn L w w') : Turns (Foot L) w w' := ⟨h.os, h.tape, h.output, h.size, h.block⟩
theorem Turns.grown {row : Nat} (h : w.grownBy w' (some row)) (hf : F row) : Turns F w w' :=
  ⟨h.os, h.tape, h.output, h.size, fun k hk hn => h.block k hk (fun e => by cases e; exact hn hf)⟩
theorem Turns.below {base : Nat} {w0 : World} (h : Turns F w w') (hb : Below base w0 w) (hs : base ≤ w.heap.size) (hF : ∀ k, F k → base ≤ k) : Below base w0 w' :=
  hb.trans ⟨h.os, h.tape, h.output, h.size, fun k hk => h.block k (by omega) (fun e => by have := hF k e; omega)⟩

def Plain (w : World) (F : Nat → Prop) : Prop := ∀ b t, Tag w b t → t ≠ 3 → ¬ F b

def Rows (w : World) (F : Nat → Prop) : Prop := ∀ b t, Tag w b t → (t = 108 ∨ t = 252 ∨ t = 250) → ¬ F b

theorem Plain.rows (h : Plain w F) : Rows w F := fun b t ht ho => h b t ht (by rcases ho with rfl | rfl | rfl <;> decide)

theorem lies_turns (hF : Rows w F) (t : Turns F w w') : ∀ {T : BT Int}, Lies w T → Lies w' T
  | .nil, _ => trivial
  | .node b o a l r, ⟨⟨ht, hq⟩, h0, h1, h2, h3, h4, hl, hr⟩ => by
    have e := t.block b (tag_lt ht) (hF b _ ht (by decide))
    have c : ∀ i v, w.cell? ⟨b, i, none⟩ = some v → w'.cell? ⟨b, i, none⟩ = some v := fun i v hc => (World.cell?_of_block (w := w) (a := ⟨b, i, none⟩) e).trans hc
    obtain ⟨x, z, hx⟩ := ht
    exact ⟨⟨⟨x, z, e.trans hx⟩, hq⟩, c _ _ h0, c _ _ h1, c _ _ h2, c _ _ h3, c _ _ h4, lies_turns hF t hl, lies_turns hF t hr⟩

theorem row_turns {v : Option Addr} {T : BT Int} (h : RowAt w v T) (hF : Rows w F) (t : Turns F w w') : RowAt w' v T := by
  have hz : Zok w' := h.zok.turn t.size
  rcases h.or with h | ⟨b, u, rfl, hc, ha, ht, hq⟩
  · exact ⟨Or.inl h, hz⟩
  · have e := t.block b (tag_lt ht) (hF b _ ht (by decide))
    obtain ⟨x, z, hx⟩ := ht
    exact ⟨Or.inr ⟨b, u, rfl, (World.cell?_of_block (w := w) (a := ⟨b, 0, none⟩) e).trans hc, ⟨lies_turns hF t ha.lies, ha.at_, hz⟩, ⟨x, z, e.trans hx⟩, hq⟩, hz⟩

theorem fat_turns (f : FAt w L E p) (hF : Rows w F) (hL : ∀ b, Foot L b → ¬ F b) (t : Turns F w w') : FAt w' L E p := by
  obtain ⟨DW, DE, m, hw⟩ := f.mem
  refine ⟨f.grown, DW, DE, m.keep (t.block _ m.st.lt (hF _ _ (rowIs_tag m.st) (by decide))) (t.block _ m.home.lt (hL _ (Or.inl rfl))) (t.block _ (map_lt m.wm) (hL _ (Or.inr (Or.inl rfl)))) (t.block _ (map_lt m.em) (hL _ (Or.inr (Or.inr rfl)))), fun r hr hp => ?_⟩
  obtain ⟨b, T, l, h1⟩ := hw r hr hp
  exact ⟨b, T, l, h1.at_, row_turns h1.row hF t, h1.bal, h1.items, h1.way⟩

theorem fat_plain (f : FAt w L E p) : Plain w (Foot L) := by
  obtain ⟨DW, DE, m, -⟩ := f.mem
  exact fun b t ht hn => m.off ht hn

structure GPl where
  g : Nat
  mb : Nat
  fb : Nat
  K : Nat
  cap : Nat
  n : Nat
  L : Nat → Pl

def gcells (G : GPl) : Nat → Value := fun i => if i = 0 then .int .i64 (G.n : Nat) else if i = 1 then .map (some G.mb) else .slice (some ⟨G.fb, 0, none⟩) G.K G.cap

structure GMem (w : World) (G : GPl) (A : List (Nat × Nat)) (lv : Nat × Nat → Nat) (tr : Nat × Nat → Bool) (X : Nat → List (Nat × Nat)) : Prop where
  st : w.rowIs G.g 88 3 (gcells G)
  map : ∃ D, HMap w G.mb D A lv tr
  row : ∀ k, k < G.K → w.cell? ⟨G.fb, k, none⟩ = some (.pointer (some ⟨(G.L k).g, 0, none⟩))
  tag : Tag w G.fb 40
  fo : ∀ k, k < G.K → ∃ p, FAt w (G.L k) (X k) p
  ln : ∀ k, k < G.K → (G.L k).n = G.n
  apart : ∀ j k, j < G.K → k < G.K → j ≠ k → ∀ b, Foot (G.L j) b → ¬ Foot (G.L k) b
  off : ∀ k, k < G.K → ¬ Foot (G.L k) G.mb
  levels : ∀ k, k < G.K ↔ 0 < G.n / 2 ^ k
  n1 : 1 ≤ G.n
  n60 : G.n ≤ 60
  rises : Rises A
  among : Among G.n A
  less : ∀ e ∈ A, e.1 < e.2
  m200 : A.length ≤ 200

def GFoot (G : GPl) (b : Nat) : Prop := b = G.mb ∨ ∃ k, k < G.K ∧ Foot (G.L k) b

def GAt (w : World) (G : GPl) (A : List (Nat × Nat)) (lv : Nat × Nat → Nat) (tr : Nat × Nat → Bool) : Prop := GMem w G A lv tr (Fo A lv tr)

variable {G : GPl} {X X' : Nat → List (Nat × Nat)}

theorem GMem.c0 (h : GMem w G A lv tr X) : w.cell? ⟨G.g, 0, none⟩ = some (.int .i64 (G.n : Nat)) := h.st.cell (i := 0) (by omega)
theorem GMem.c1 (h : GMem w G A lv tr X) : w.cell? ⟨G.g, 1, none⟩ = some (.map (some G.mb)) := h.st.cell (i := 1) (by omega)
theorem GMem.c2 (h : GMem w G A lv tr X) : w.cell? ⟨G.g, 2, none⟩ = some (.slice (some ⟨G.fb, 0, none⟩) G.K G.cap) := h.st.cell (i := 2) (by omega)

theorem GMem.k0 (h : GMem w G A lv tr X) : 0 < G.K := (h.levels 0).2 (by have := h.n1; rw [Nat.pow_zero, Nat.div_one]; omega)

theorem GMem.k10 (h : GMem w G A lv tr X) : G.K ≤ 6 := by
  apply Nat.le_of_not_lt
  intro hk
  have := (h.levels 6).1 hk
  have := h.n60
  have e : G.n / 2 ^ 6 = 0 := Nat.div_eq_of_lt (by omega)
  omega

theorem GMem.plain (h : GMem w G A lv tr X) : Plain w (GFoot G) := fun b t ht hn hb => by
  rcases hb with rfl | ⟨k, hk, hb⟩
  · obtain ⟨D, hD⟩ := h.map
    exact tag_map ht hD.isMap
  · obtain ⟨p, f⟩ := h.fo k hk
    exact fat_plain f b t ht hn hb

theorem GMem.foot_lt (h : GMem w G A lv tr X) {b : Nat} (hb : GFoot G b) : b < w.heap.size := by
  rcases hb with rfl | ⟨k, hk, hb⟩
  · obtain ⟨D, hD⟩ := h.map
    exact map_lt hD.isMap
  · obtain ⟨p, f⟩ := h.fo k hk
    obtain ⟨DW, DE, m, -⟩ := f.mem
    exact m.foot_lt hb

theorem tag_of {b : Nat} {t : TypeId} (ht : Tag w b t) (e : w'.heap[b]? = w.heap[b]?) : Tag w' b t := by
  obtain ⟨x, z, hx⟩ := ht
  exact ⟨x, z, e.trans hx⟩

theorem GMem.turns (h : GMem w G A lv tr X) (hF : Plain w F) (hG : ∀ b, GFoot G b → ¬ F b) (t : Turns F w w') : GMem w' G A lv tr X := by
  obtain ⟨D, hD⟩ := h.map
  have e1 := t.block _ h.st.lt (hF _ _ (rowIs_tag h.st) (by decide))
  have e2 := t.block _ (map_lt hD.isMap) (hG _ (Or.inl rfl))
  have e3 := t.block _ (tag_lt h.tag) (hF _ _ h.tag (by decide))
  refine ⟨h.st.of_block e1, ⟨D, hD.of_block e2⟩, fun k hk => (World.cell?_of_block (w := w) (a := ⟨G.fb, k, none⟩) e3).trans (h.row k hk), tag_of h.tag e3, fun k hk => ?_, h.ln, h.apart, h.off, h.levels, h.n1, h.n60, h.rises, h.among, h.less, h.m200⟩
  obtain ⟨p, f⟩ := h.fo k hk
  exact ⟨p, fat_turns f hF.rows (fun b hb => hG b (Or.inr ⟨k, hk, hb⟩)) t⟩

theorem GMem.below (h : GMem w G A lv tr X) (hb : Below w.heap.size w w') : GMem w' G A lv tr X :=
  h.turns (F := fun _ => False) (fun _ _ _ _ q => q) (fun _ _ q => q) (Turns.of_below hb)

theorem GMem.drew (h : GMem w G A lv tr X) : GMem w.drew G A lv tr X := h.below (Below.refl _ _).drew

theorem GMem.forest (h : GMem w G A lv tr X) {k : Nat} (hk : k < G.K) (t : Turn (G.L k) w w') (f : FAt w' (G.L k) E p) : GMem w' G A lv tr (fun j => if j = k then E else X j) := by
  obtain ⟨D, hD⟩ := h.map
  obtain ⟨p0, f0⟩ := h.fo k hk
  have hF := fat_plain f0
  have t' := Turns.of_turn t
  have e1 := t.block _ h.st.lt (hF _ _ (rowIs_tag h.st) (by decide))
  have e2 := t.block _ (map_lt hD.isMap) (h.off k hk)
  have e3 := t.block _ (tag_lt h.tag) (hF _ _ h.tag (by decide))
  refine ⟨h.st.of_block e1, ⟨D, hD.of_block e2⟩, fun k hk => (World.cell?_of_block (w := w) (a := ⟨G.fb, k, none⟩) e3).trans (h.row k hk), tag_of h.tag e3, fun j hj => ?_, h.ln, h.apart, h.off, h.levels, h.n1, h.n60, h.rises, h.among, h.less, h.m200⟩
  by_cases e : j = k
  · subst e
    rw [if_pos rfl]
    exact ⟨p, f⟩
  · rw [if_neg e]
    obtain ⟨q, fq⟩ := h.fo j hj
    exact ⟨q, fat_turns fq hF.rows (h.apart j k hj hk e) t'⟩

theorem GMem.mapped (h : GMem w G A lv tr X) (hD : ∃ D, HMap w' G.mb D A' lv' tr') (t : w.mapTurned w' G.mb) (h1 : Rises A') (h2 : Among G.n A') (h3 : ∀ e ∈ A', e.1 < e.2) (h4 : A'.length ≤ 200) : GMem w' G A' lv' tr' X := by
  obtain ⟨D0, hD0⟩ := h.map
  have t' : Turns (fun b => b = G.mb) w w' := Turns.grown t.grown rfl
  have hF : Plain w (fun b => b = G.mb) := fun b t ht _ e => by subst e; exact tag_map ht hD0.isMap
  have e1 := t'.block _ h.st.lt (hF _ _ (rowIs_tag h.st) (by decide))
  have e3 := t'.block _ (tag_lt h.tag) (hF _ _ h.tag (by decide))
  refine ⟨h.st.of_block e1, hD, fun k hk => (World.cell?_of_block (w := w) (a := ⟨G.fb, k, none⟩) e3).trans (h.row k hk), tag_of h.tag e3, fun j hj => ?_, h.ln, h.apart, h.off, h.levels, h.n1, h.n60, h1, h2, h3, h4⟩
  obtain ⟨q, fq⟩ := h.fo j hj
  exact ⟨q, fat_turns fq hF.rows (fun b hb e => h.off j hj (e ▸ hb)) t'⟩

theorem GMem.congr (h : GMem w G A lv tr X) (e : ∀ k, k < G.K → X k = X' k) : GMem w G A lv tr X' :=
  ⟨h.st, h.map, h.row, h.tag, fun k hk => by rw [← e k hk]; exact h.fo k hk, h.ln, h.apart, h.off, h.levels, h.n1, h.n60, h.rises, h.among, h.less, h.m200⟩

theorem GMem.told (h : GMem w G A lv tr X) (e : ∀ x ∈ A, lv x = lv' x ∧ tr x = tr' x) : GMem w G A lv' tr' X := by
  obtain ⟨D, hD⟩ := h.map
  exact ⟨h.st, ⟨D, hD.own, hD.has, hD.size, fun x hx kl hk z => by rw [hD.at_ x hx kl hk z, (e x hx).1, (e x hx).2]⟩, h.row, h.tag, h.fo, h.ln, h.apart, h.off, h.levels, h.n1, h.n60, h.rises, h.among, h.less, h.m200⟩

theorem GMem.node (h : GMem w G A lv tr X) {e : Nat × Nat} (he : e ∈ A) : e.1 < G.n ∧ e.2 < G.n ∧ e.1 < e.2 := ⟨(h.among e he).1, (h.among e he).2, h.less e he⟩

end Go.Proofs.YtcfemppdeidjmacGreat.Gr
