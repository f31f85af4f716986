/-
  Ways around trees: each node once, each edge there and back, move by move, ending where it began; two of them joined by an edge are one; one that is cut at an edge is two.
-/
import Derived.Test.YtcebfloeikjjcabGreatRf
namespace Go.Proofs.YtcebfloeikjjcabGreat

/-- An edge between two nodes, whichever of them is told first. -/
def Edg (E : List (Nat × Nat)) (x y : Nat) : Prop := (x, y) ∈ E ∨ (y, x) ∈ E

theorem Edg.symm {E : List (Nat × Nat)} {x y : Nat} (h : Edg E x y) : Edg E y x := h.elim Or.inr Or.inl
theorem Edg.conn {E : List (Nat × Nat)} {x y : Nat} (h : Edg E x y) : Conn E x y := h.elim conn_edge fun h => (conn_eqv E).symm (conn_edge h)

/-- Move by move from a to b. -/
def Goes : Nat → List (Nat × Nat) → Nat → Prop
  | a, [], b => a = b
  | a, m :: ms, b => a = m.1 ∧ Goes m.2 ms b

theorem goes_append : ∀ {l r : List (Nat × Nat)} {a b : Nat}, Goes a (l ++ r) b ↔ ∃ c, Goes a l c ∧ Goes c r b
  | [], r, a, b => by
    simp only [List.nil_append, Goes]
    exact ⟨fun h => ⟨a, rfl, h⟩, fun ⟨c, e, h⟩ => e ▸ h⟩
  | m :: l, r, a, b => by
    simp only [List.cons_append, Goes, goes_append]
    exact ⟨fun ⟨h1, c, h2, h3⟩ => ⟨c, ⟨h1, h2⟩, h3⟩, fun ⟨c, ⟨h1, h2⟩, h3⟩ => ⟨h1, c, h2, h3⟩⟩

theorem goes_conn {E : List (Nat × Nat)} : ∀ {l : List (Nat × Nat)} {a b : Nat}, Goes a l b → (∀ x y, (x, y) ∈ l → Conn E x y) → Conn E a b ∧ ∀ x y, (x, y) ∈ l → Conn E a x
  | [], a, b, h, _ => by
    have e : a = b := h
    exact ⟨e ▸ (conn_eqv E).refl a, fun x y hm => absurd hm (by simp)⟩
  | (x, y) :: l, a, b, ⟨e, h⟩, hc => by
    have e' : a = x := e
    subst e'
    obtain ⟨h1, h2⟩ := goes_conn h (fun u v hm => hc u v (List.mem_cons_of_mem _ hm))
    have hxy := hc a y (List.mem_cons_self ..)
    refine ⟨(conn_eqv E).trans hxy h1, fun u v hm => ?_⟩
    rcases List.mem_cons.1 hm with e | hm
    · cases e; exact (conn_eqv E).refl _
    · exact (conn_eqv E).trans hxy (h2 u v hm)

/-- A move: to stay at a node, or along an edge. -/
def Mv (n : Nat) (E : List (Nat × Nat)) (x y : Nat) : Prop := (x = y ∧ x < n) ∨ (x ≠ y ∧ Edg E x y)

theorem Mv.conn {n : Nat} {E : List (Nat × Nat)} {x y : Nat} (h : Mv n E x y) : Conn E x y := by
  rcases h with ⟨rfl, _⟩ | ⟨_, h⟩
  · exact (conn_eqv E).refl _
  · exact h.conn

theorem Mv.lt {n : Nat} {E : List (Nat × Nat)} {x y : Nat} (h : Mv n E x y) (ha : Among n E) : x < n ∧ y < n := by
  rcases h with ⟨rfl, h⟩ | ⟨_, h | h⟩
  · exact ⟨h, h⟩
  · exact ha _ h
  · exact ⟨(ha _ h).2, (ha _ h).1⟩

/-- A way around the tree whose least node is r. -/
structure Way (n : Nat) (E : List (Nat × Nat)) (p : Nat → Nat) (r : Nat) (l : List (Nat × Nat)) : Prop where
  nodup : l.Nodup
  goes : ∃ a, Goes a l a
  mem : ∀ x y, (x, y) ∈ l ↔ Mv n E x y ∧ p x = r

theorem Way.turn {n : Nat} {E : List (Nat × Nat)} {p : Nat → Nat} {r : Nat} {l m : List (Nat × Nat)} (h : Way n E p r (l ++ m)) : Way n E p r (m ++ l) := by
  refine ⟨(List.perm_append_comm.nodup_iff).1 h.nodup, ?_, fun x y => ?_⟩
  · obtain ⟨a, ha⟩ := h.goes
    obtain ⟨c, h1, h2⟩ := goes_append.1 ha
    exact ⟨c, goes_append.2 ⟨a, h2, h1⟩⟩
  · rw [← h.mem x y]; simp [or_comm]

/-- Edges with one more, between what was apart. -/
structure More (E : List (Nat × Nat)) (a b : Nat) (E' : List (Nat × Nat)) : Prop where
  edg : ∀ x y, Edg E' x y ↔ Edg E x y ∨ (x = a ∧ y = b) ∨ (x = b ∧ y = a)
  conn : ∀ i j, Conn E' i j ↔ Conn E i j ∨ (Conn E i a ∧ Conn E b j) ∨ (Conn E i b ∧ Conn E a j)
  out : ¬ Conn E a b

theorem More.symm {E E' : List (Nat × Nat)} {a b : Nat} (h : More E a b E') : More E b a E' :=
  ⟨fun x y => (h.edg x y).trans (or_congr_right or_comm), fun i j => (h.conn i j).trans (or_congr_right or_comm), fun hc => h.out ((conn_eqv E).symm hc)⟩

theorem more_out {A B : List (Nat × Nat)} {a b : Nat} (hc : ¬ Conn (A ++ B) a b) : More (A ++ B) a b (A ++ (a, b) :: B) := by
  refine ⟨fun x y => ?_, fun i j => conn_out, hc⟩
  unfold Edg
  simp only [List.mem_append, List.mem_cons, Prod.mk.injEq]
  constructor
  · rintro ((h | h | h) | (h | h | h))
    · exact Or.inl (Or.inl (Or.inl h))
    · exact Or.inr (Or.inl h)
    · exact Or.inl (Or.inl (Or.inr h))
    · exact Or.inl (Or.inr (Or.inl h))
    · exact Or.inr (Or.inr ⟨h.2, h.1⟩)
    · exact Or.inl (Or.inr (Or.inr h))
  · rintro (((h | h) | (h | h)) | h | h)
    · exact Or.inl (Or.inl h)
    · exact Or.inl (Or.inr (Or.inr h))
    · exact Or.inr (Or.inl h)
    · exact Or.inr (Or.inr (Or.inr h))
    · exact Or.inl (Or.inr (Or.inl h))
    · exact Or.inr (Or.inr (Or.inl ⟨h.2, h.1⟩))

section
variable {E E' : List (Nat × Nat)} {a b : Nat} {p p' : Nat → Nat}

theorem More.ne (m : More E a b E') : a ≠ b := fun e => m.out (e ▸ (conn_eqv E).refl a)
theorem More.apart (m : More E a b E') (h : Rest E p) : p a ≠ p b := fun e => m.out ((h.same a b).1 e)

theorem More.same (m : More E a b E') (h : Rest E p) (h' : Rest E' p') (x y : Nat) : p' x = p' y ↔ p x = p y ∨ (p x = p a ∧ p b = p y) ∨ (p x = p b ∧ p a = p y) := by
  rw [h'.same, m.conn, ← h.same, ← h.same, ← h.same, ← h.same, ← h.same]

theorem More.joined (m : More E a b E') (h : Rest E p) (h' : Rest E' p') (x : Nat) : p' x = p' a ↔ p x = p a ∨ p x = p b := by
  rw [m.same h h']
  constructor
  · rintro (e | ⟨e, _⟩ | ⟨e, _⟩)
    · exact Or.inl e
    · exact Or.inl e
    · exact Or.inr e
  · rintro (e | e)
    · exact Or.inl e
    · exact Or.inr (Or.inr ⟨e, rfl⟩)

theorem More.rest (m : More E a b E') (h : Rest E p) (h' : Rest E' p') {x : Nat} (h1 : p x ≠ p a) (h2 : p x ≠ p b) : p' x = p x := by
  have e1 : p' (p x) = p' x := (m.same h h' _ _).2 (Or.inl (h.least x))
  have e2 : p (p' x) = p x := by
    rcases (m.same h h' (p' x) x).1 (h'.least x) with e | ⟨_, e⟩ | ⟨_, e⟩
    · exact e
    · exact absurd e.symm h2
    · exact absurd e.symm h1
  have := h'.le (p x)
  have := h.le (p' x)
  omega

theorem More.least (m : More E a b E') (h : Rest E p) (h' : Rest E' p') : p' a = min (p a) (p b) := by
  have e1 : p' (p a) = p' a := (m.joined h h' _).2 (Or.inl (h.least a))
  have e2 : p' (p b) = p' a := (m.joined h h' _).2 (Or.inr (h.least b))
  have l1 := h'.le (p a)
  have l2 := h'.le (p b)
  have e3 := (m.joined h h' (p' a)).1 (h'.least a)
  have l3 := h.le (p' a)
  omega

variable {n : Nat} {l1 l2 P Q M l : List (Nat × Nat)} {r : Nat}

theorem Way.link (m : More E a b E') (h : Rest E p) (h' : Rest E' p') (w1 : Way n E p (p a) l1) (g1 : Goes a l1 a) (w2 : Way n E p (p b) l2) (g2 : Goes b l2 b) :
    Way n E' p' (p' a) (l1 ++ (a, b) :: (l2 ++ [(b, a)])) := by
  have hne := m.ne
  have hap := m.apart h
  have n1 : ¬ Edg E a b := fun e => m.out e.conn
  have n2 : ¬ Edg E b a := fun e => n1 e.symm
  have i1 : (a, b) ∉ l1 := fun hm => by
    rcases ((w1.mem a b).1 hm).1 with ⟨e, _⟩ | ⟨_, e⟩
    · exact hne e
    · exact n1 e
  have i2 : (a, b) ∉ l2 := fun hm => by
    rcases ((w2.mem a b).1 hm).1 with ⟨e, _⟩ | ⟨_, e⟩
    · exact hne e
    · exact n1 e
  have i3 : (b, a) ∉ l1 := fun hm => by
    rcases ((w1.mem b a).1 hm).1 with ⟨e, _⟩ | ⟨_, e⟩
    · exact hne e.symm
    · exact n2 e
  have i4 : (b, a) ∉ l2 := fun hm => by
    rcases ((w2.mem b a).1 hm).1 with ⟨e, _⟩ | ⟨_, e⟩
    · exact hne e.symm
    · exact n2 e
  refine ⟨?_, ⟨a, ?_⟩, fun x y => ?_⟩
  · rw [List.nodup_append]
    refine ⟨w1.nodup, List.nodup_cons.2 ⟨?_, ?_⟩, ?_⟩
    · simp only [List.mem_append, List.mem_singleton, Prod.mk.injEq, not_or]
      exact ⟨i2, fun e => hne e.1⟩
    · rw [List.nodup_append]
      refine ⟨w2.nodup, by simp, ?_⟩
      rintro ⟨x, y⟩ hx z hz e
      rw [List.mem_singleton] at hz
      rw [hz] at e
      rw [e] at hx
      exact i4 hx
    · rintro ⟨x, y⟩ hx z hz e
      subst e
      simp only [List.mem_cons, List.mem_append, List.not_mem_nil, or_false] at hz
      rcases hz with e | hz | e
      · rw [e] at hx; exact i1 hx
      · exact hap (((w1.mem x y).1 hx).2.symm.trans ((w2.mem x y).1 hz).2)
      · rw [e] at hx; exact i3 hx
  · exact goes_append.2 ⟨a, g1, rfl, goes_append.2 ⟨b, g2, rfl, rfl⟩⟩
  · simp only [List.mem_append, List.mem_cons, List.not_mem_nil, or_false, w1.mem, w2.mem, Prod.mk.injEq, m.joined h h']
    constructor
    · rintro (⟨h1, h2⟩ | ⟨rfl, rfl⟩ | ⟨h1, h2⟩ | ⟨rfl, rfl⟩)
      · exact ⟨h1.elim Or.inl fun e => Or.inr ⟨e.1, (m.edg x y).2 (Or.inl e.2)⟩, Or.inl h2⟩
      · exact ⟨Or.inr ⟨hne, (m.edg _ _).2 (Or.inr (Or.inl ⟨rfl, rfl⟩))⟩, Or.inl rfl⟩
      · exact ⟨h1.elim Or.inl fun e => Or.inr ⟨e.1, (m.edg x y).2 (Or.inl e.2)⟩, Or.inr h2⟩
      · exact ⟨Or.inr ⟨hne.symm, (m.edg _ _).2 (Or.inr (Or.inr ⟨rfl, rfl⟩))⟩, Or.inr rfl⟩
    · rintro ⟨h1 | ⟨h1, h3⟩, h2⟩
      · rcases h2 with h2 | h2
        · exact Or.inl ⟨Or.inl h1, h2⟩
        · exact Or.inr (Or.inr (Or.inl ⟨Or.inl h1, h2⟩))
      · rcases (m.edg x y).1 h3 with h3 | h3 | h3
        · rcases h2 with h2 | h2
          · exact Or.inl ⟨Or.inr ⟨h1, h3⟩, h2⟩
          · exact Or.inr (Or.inr (Or.inl ⟨Or.inr ⟨h1, h3⟩, h2⟩))
        · exact Or.inr (Or.inl h3)
        · exact Or.inr (Or.inr (Or.inr h3))

/-- The ways around the other trees are what they were. -/
theorem Way.other (m : More E a b E') (h : Rest E p) (h' : Rest E' p') (hr : p r = r) (h1 : r ≠ p a) (h2 : r ≠ p b) : Way n E p r l ↔ Way n E' p' r l := by
  have hk : ∀ x, p x = r ↔ p' x = r := fun x => by
    constructor
    · intro e
      rw [m.rest h h' (by rw [e]; exact h1) (by rw [e]; exact h2), e]
    · intro e
      have er : p' r = r := by rw [m.rest h h' (by rw [hr]; exact h1) (by rw [hr]; exact h2), hr]
      rcases (m.same h h' x r).1 (by rw [e, er]) with e | ⟨_, e⟩ | ⟨_, e⟩
      · rw [e, hr]
      · rw [hr] at e; exact absurd e.symm h2
      · rw [hr] at e; exact absurd e.symm h1
  have hm : ∀ x y, (Mv n E x y ∧ p x = r) ↔ (Mv n E' x y ∧ p' x = r) := fun x y => by
    constructor
    · rintro ⟨h3, h4⟩
      exact ⟨h3.elim Or.inl fun e => Or.inr ⟨e.1, (m.edg x y).2 (Or.inl e.2)⟩, (hk x).1 h4⟩
    · rintro ⟨h3, h4⟩
      have h5 := (hk x).2 h4
      refine ⟨h3.elim Or.inl fun e => Or.inr ⟨e.1, ?_⟩, h5⟩
      rcases (m.edg x y).1 e.2 with e | ⟨rfl, _⟩ | ⟨rfl, _⟩
      · exact e
      · exact absurd h5.symm h1
      · exact absurd h5.symm h2
  exact ⟨fun w => ⟨w.nodup, w.goes, fun x y => (w.mem x y).trans (hm x y)⟩, fun w => ⟨w.nodup, w.goes, fun x y => (w.mem x y).trans (hm x y).symm⟩⟩

/-- Cut at an edge there and back: what lies between is a way around what hangs on it, the rest a way around the rest. -/
theorem Way.cut (m : More E a b E') (h : Rest E p) (h' : Rest E' p') (w : Way n E' p' (p' a) (P ++ (a, b) :: (M ++ (b, a) :: Q))) :
    Way n E p (p b) M ∧ Way n E p (p a) (P ++ Q) := by
  have hne := m.ne
  have nd := w.nodup
  rw [List.nodup_append, List.nodup_cons, List.nodup_append, List.nodup_cons] at nd
  obtain ⟨nP, ⟨nab, nM, ⟨nba, nQ⟩, dM⟩, dP⟩ := nd
  have aM : (a, b) ∉ M := fun e => nab (List.mem_append_left _ e)
  have aQ : (a, b) ∉ Q := fun e => nab (List.mem_append_right _ (List.mem_cons_of_mem _ e))
  have aP : (a, b) ∉ P := fun e => dP _ e _ (List.mem_cons_self ..) rfl
  have bM : (b, a) ∉ M := fun e => dM _ e _ (List.mem_cons_self ..) rfl
  have bP : (b, a) ∉ P := fun e => dP _ e _ (List.mem_cons_of_mem _ (List.mem_append_right _ (List.mem_cons_self ..))) rfl
  obtain ⟨c, hg⟩ := w.goes
  obtain ⟨c1, gP, e1, hg⟩ := goes_append.1 hg
  have e1' : a = c1 := Eq.symm e1
  subst e1'
  obtain ⟨c2, gM, e2, gQ⟩ := goes_append.1 hg
  have e2' : b = c2 := Eq.symm e2
  subst e2'
  have gM : Goes b M b := gM
  have gQ : Goes a Q c := gQ
  -- what the moves of each piece are
  have mv : ∀ x y, Mv n E' x y → (x, y) ≠ (a, b) → (x, y) ≠ (b, a) → Mv n E x y := fun x y hv n1 n2 => by
    rcases hv with hv | ⟨hv, he⟩
    · exact Or.inl hv
    · rcases (m.edg x y).1 he with he | ⟨rfl, rfl⟩ | ⟨rfl, rfl⟩
      · exact Or.inr ⟨hv, he⟩
      · exact absurd rfl n1
      · exact absurd rfl n2
  have inM : ∀ x y, (x, y) ∈ M → Mv n E x y := fun x y hm => mv x y ((w.mem x y).1 (by simp [hm])).1 (fun e => aM (e ▸ hm)) (fun e => bM (e ▸ hm))
  have inP : ∀ x y, (x, y) ∈ P → Mv n E x y := fun x y hm => mv x y ((w.mem x y).1 (by simp [hm])).1 (fun e => aP (e ▸ hm)) (fun e => bP (e ▸ hm))
  have inQ : ∀ x y, (x, y) ∈ Q → Mv n E x y := fun x y hm => mv x y ((w.mem x y).1 (by simp [hm])).1 (fun e => aQ (e ▸ hm)) (fun e => nba (e ▸ hm))
  have cM := goes_conn gM (fun x y hm => (inM x y hm).conn)
  have cP := goes_conn gP (fun x y hm => (inP x y hm).conn)
  have cQ := goes_conn gQ (fun x y hm => (inQ x y hm).conn)
  have q := conn_eqv E
  have pM : ∀ x y, (x, y) ∈ M → p x = p b := fun x y hm => (h.same x b).2 (q.symm (cM.2 x y hm))
  have pP : ∀ x y, (x, y) ∈ P → p x = p a := fun x y hm => (h.same x a).2 (q.trans (q.symm (cP.2 x y hm)) cP.1)
  have pQ : ∀ x y, (x, y) ∈ Q → p x = p a := fun x y hm => (h.same x a).2 (q.symm (cQ.2 x y hm))
  have hap := m.apart h
  have all : ∀ x y, Mv n E x y → (p x = p a ∨ p x = p b) → (x, y) ∈ P ∨ (x, y) ∈ M ∨ (x, y) ∈ Q := fun x y hv hx => by
    have hm : (x, y) ∈ P ++ (a, b) :: (M ++ (b, a) :: Q) := (w.mem x y).2 ⟨hv.elim Or.inl fun e => Or.inr ⟨e.1, (m.edg x y).2 (Or.inl e.2)⟩, (m.joined h h' x).2 hx⟩
    simp only [List.mem_append, List.mem_cons, Prod.mk.injEq] at hm
    rcases hm with hm | ⟨rfl, rfl⟩ | hm | ⟨rfl, rfl⟩ | hm
    · exact Or.inl hm
    · exact absurd hv.conn m.out
    · exact Or.inr (Or.inl hm)
    · exact absurd (q.symm hv.conn) m.out
    · exact Or.inr (Or.inr hm)
  refine ⟨⟨nM, ⟨b, gM⟩, fun x y => ⟨fun hm => ⟨inM x y hm, pM x y hm⟩, fun ⟨hv, hx⟩ => ?_⟩⟩, ⟨?_, ⟨c, goes_append.2 ⟨a, gP, gQ⟩⟩, fun x y => ⟨fun hm => ?_, fun ⟨hv, hx⟩ => ?_⟩⟩⟩
  · rcases all x y hv (Or.inr hx) with hm | hm | hm
    · exact absurd ((pP x y hm).symm.trans hx) hap
    · exact hm
    · exact absurd ((pQ x y hm).symm.trans hx) hap
  · rw [List.nodup_append]
    exact ⟨nP, nQ, fun x hx y hy => dP x hx y (List.mem_cons_of_mem _ (List.mem_append_right _ (List.mem_cons_of_mem _ hy)))⟩
  · rcases List.mem_append.1 hm with hm | hm
    · exact ⟨inP x y hm, pP x y hm⟩
    · exact ⟨inQ x y hm, pQ x y hm⟩
  · rcases all x y hv (Or.inl hx) with hm | hm | hm
    · exact List.mem_append_left _ hm
    · exact absurd (hx.symm.trans (pM x y hm)) hap
    · exact List.mem_append_right _ hm

end

end Go.Proofs.YtcebfloeikjjcabGreat
