/-
  Edges that came in, plain: which of them is wrong first, and how; the list that they are; its bridges and joints; one edge more.
-/
import Derived.Test.YtgmadfiibaeleacDoorBa
namespace Go.Proofs.YtgmadfiibaeleacDoor.Br
set_option linter.unusedVariables false

variable {f : Nat → Int × Int} {m n k k' i j : Nat} {x x' : Int} {E E' A B : List (Nat × Nat)} {e : Nat × Nat}

/-- Both are nodes, the lesser one first. -/
def Sane (n : Nat) (f : Nat → Int × Int) (k : Nat) : Prop := 0 ≤ (f k).1 ∧ (f k).1 < (f k).2 ∧ (f k).2 < n
/-- It rises. -/
def Climbs (f : Nat → Int × Int) (k : Nat) : Prop := 0 < k → (f (k - 1)).1 < (f k).1 ∨ (f (k - 1)).1 = (f k).1 ∧ (f (k - 1)).2 < (f k).2
def May (n : Nat) (f : Nat → Int × Int) (k : Nat) : Prop := Sane n f k ∧ Climbs f k
def Bad (n : Nat) (f : Nat → Int × Int) (k : Nat) (x : Int) : Prop := (¬ Sane n f k ∧ x = 1) ∨ (Sane n f k ∧ ¬ Climbs f k ∧ x = 2)

theorem Bad.not (h : Bad n f k x) : ¬ May n f k := by
  rintro ⟨h1, h2⟩
  rcases h with ⟨h, _⟩ | ⟨_, h, _⟩
  · exact h h1
  · exact h h2
theorem Bad.one (h : Bad n f k x) (h' : Bad n f k x') : x = x' := by
  rcases h with ⟨a1, a2⟩ | ⟨a1, _, a2⟩ <;> rcases h' with ⟨b1, b2⟩ | ⟨b1, _, b2⟩
  · omega
  · exact absurd b1 a1
  · exact absurd a1 b1
  · omega
theorem Bad.pos (h : Bad n f k x) : x ≠ 0 := by rcases h with ⟨_, h⟩ | ⟨_, _, h⟩ <;> omega
theorem bad_or (n : Nat) (f : Nat → Int × Int) (k : Nat) : May n f k ∨ ∃ x, Bad n f k x := by
  by_cases h1 : Sane n f k
  · by_cases h2 : Climbs f k
    · exact Or.inl ⟨h1, h2⟩
    · exact Or.inr ⟨2, Or.inr ⟨h1, h2, rfl⟩⟩
  · exact Or.inr ⟨1, Or.inl ⟨h1, rfl⟩⟩

/-- Of m edges at n nodes: the place of the first one that is wrong, and how. -/
def EFault (n : Int) (m : Nat) (f : Nat → Int × Int) (k : Nat) (x : Int) : Prop :=
  ((n < 1 ∨ 60 < n) ∧ k = 0 ∧ x = 1) ∨ ((1 ≤ n ∧ n ≤ 60) ∧ 200 < m ∧ k = 0 ∧ x = 3) ∨
  ((1 ≤ n ∧ n ≤ 60) ∧ m ≤ 200 ∧ k < m ∧ (∀ j, j < k → May n.toNat f j) ∧ Bad n.toNat f k x) ∨ ((1 ≤ n ∧ n ≤ 60) ∧ m ≤ 200 ∧ (∀ j, j < m → May n.toNat f j) ∧ k = 0 ∧ x = 0)

theorem EFault.one {n : Int} (h : EFault n m f k x) (h' : EFault n m f k' x') : k = k' ∧ x = x' := by
  rcases h with ⟨a1, a2, a3⟩ | ⟨a1, a2, a3, a4⟩ | ⟨a1, a2, a3, a4, a5⟩ | ⟨a1, a2, a3, a4, a5⟩ <;> rcases h' with ⟨b1, b2, b3⟩ | ⟨b1, b2, b3, b4⟩ | ⟨b1, b2, b3, b4, b5⟩ | ⟨b1, b2, b3, b4, b5⟩
  case inr.inr.inl.inr.inr.inl =>
    rcases Nat.lt_trichotomy k k' with q | q | q
    · exact absurd (b4 k q) a5.not
    · subst q
      exact ⟨rfl, a5.one b5⟩
    · exact absurd (a4 k' q) b5.not
  case inr.inr.inl.inr.inr.inr => exact absurd (b3 k a3) a5.not
  case inr.inr.inr.inr.inr.inl => exact absurd (a3 k' b3) b5.not
  all_goals omega

/-- All that is handed in may be. -/
def Valid (n : Int) (m : Nat) (f : Nat → Int × Int) : Prop := (1 ≤ n ∧ n ≤ 60) ∧ m ≤ 200 ∧ ∀ j, j < m → May n.toNat f j

theorem fault_or (n : Int) (m : Nat) (f : Nat → Int × Int) : Valid n m f ∨ ∃ k x, EFault n m f k x ∧ x ≠ 0 := by
  by_cases h1 : n < 1 ∨ 60 < n
  · exact Or.inr ⟨0, 1, Or.inl ⟨h1, rfl, rfl⟩, by decide⟩
  by_cases h2 : 200 < m
  · exact Or.inr ⟨0, 3, Or.inr (Or.inl ⟨by omega, h2, rfl, rfl⟩), by decide⟩
  have key : ∀ t, t ≤ m → (∃ k x, k < t ∧ (∀ j, j < k → May n.toNat f j) ∧ Bad n.toNat f k x) ∨ ∀ j, j < t → May n.toNat f j := by
    intro t
    induction t with
    | zero => exact fun _ => Or.inr fun j hj => absurd hj (Nat.not_lt_zero _)
    | succ t ih =>
      intro ht
      rcases ih (by omega) with ⟨k, x, q1, q2, q3⟩ | hall
      · exact Or.inl ⟨k, x, by omega, q2, q3⟩
      · rcases bad_or n.toNat f t with hm | ⟨x, hb⟩
        · refine Or.inr fun j hj => ?_
          rcases Nat.lt_or_ge j t with q | q
          · exact hall j q
          · obtain rfl : j = t := by omega
            exact hm
        · exact Or.inl ⟨t, x, by omega, hall, hb⟩
  rcases key m (Nat.le_refl _) with ⟨k, x, q1, q2, q3⟩ | hall
  · exact Or.inr ⟨k, x, Or.inr (Or.inr (Or.inl ⟨by omega, by omega, q1, q2, q3⟩)), q3.pos⟩
  · exact Or.inl ⟨by omega, by omega, hall⟩

theorem Valid.fault {n : Int} (h : Valid n m f) : EFault n m f 0 0 := Or.inr (Or.inr (Or.inr ⟨h.1, h.2.1, h.2.2, rfl, rfl⟩))

/-- The list that they are. -/
def edges (f : Nat → Int × Int) (m : Nat) : List (Nat × Nat) := (List.range m).map fun i => ((f i).1.toNat, (f i).2.toNat)

theorem edges_len (f : Nat → Int × Int) (m : Nat) : (edges f m).length = m := by simp [edges]
theorem edges_get (h : i < m) : (edges f m)[i]? = some ((f i).1.toNat, (f i).2.toNat) := by simp [edges, h]
theorem edges_getD (h : i < m) : (edges f m).getD i (0, 0) = ((f i).1.toNat, (f i).2.toNat) := by rw [List.getD_eq_getElem?_getD, edges_get h]; rfl

/-- A list that rises. -/
def Up (E : List (Nat × Nat)) : Prop := E.Pairwise fun x y => x.1 < y.1 ∨ x.1 = y.1 ∧ x.2 < y.2

theorem Up.nodup (h : Up E) : E.Nodup := h.imp fun {x y} q e => by subst e; omega

theorem climb (h : ∀ j, j < m → May n f j) : ∀ {j i : Nat}, i < j → j < m → (f i).1 < (f j).1 ∨ (f i).1 = (f j).1 ∧ (f i).2 < (f j).2 := by
  intro j
  induction j with
  | zero => intro i hi; exact absurd hi (Nat.not_lt_zero _)
  | succ j ih =>
    intro i hi hj
    have h1 := (h (j + 1) hj).2 (by omega)
    rw [Nat.add_sub_cancel] at h1
    rcases Nat.lt_or_ge i j with q | q
    · have h2 := ih q (by omega)
      omega
    · obtain rfl : i = j := by omega
      exact h1

theorem edges_up (h : ∀ j, j < m → May n f j) : Up (edges f m) := by
  unfold Up edges
  rw [List.pairwise_map]
  refine List.Pairwise.imp_of_mem ?_ (List.pairwise_lt_range (n := m))
  intro i j hi hj hij
  rw [List.mem_range] at hi hj
  have h1 := climb h hij hj
  have h2 := (h i hi).1
  have h3 := (h j hj).1
  unfold Sane at h2 h3
  show (f i).1.toNat < (f j).1.toNat ∨ _ = _ ∧ (f i).2.toNat < (f j).2.toNat
  omega

theorem edges_among (h : ∀ j, j < m → May n f j) : Among n (edges f m) := fun e he => by
  obtain ⟨i, hi, rfl⟩ := List.mem_map.1 he
  have h2 := (h i (List.mem_range.1 hi)).1
  unfold Sane at h2
  show (f i).1.toNat < n ∧ (f i).2.toNat < n
  omega

/-- A bridge: without it there is no way between its nodes. -/
def Bridge (E : List (Nat × Nat)) (e : Nat × Nat) : Prop := ¬ Conn (E.erase e) e.1 e.2

/-- Such are the bridges. -/
def Brs (E L : List (Nat × Nat)) : Prop := ∃ t : Nat × Nat → Bool, (∀ e ∈ E, t e = true ↔ Bridge E e) ∧ L = E.filter t

theorem Brs.one {L L' : List (Nat × Nat)} (h : Brs E L) (h' : Brs E L') : L = L' := by
  obtain ⟨t, h1, rfl⟩ := h
  obtain ⟨t', h2, rfl⟩ := h'
  exact List.filter_congr fun e he => by rw [Bool.eq_iff_iff, h1 e he, h2 e he]

theorem brs_some (E : List (Nat × Nat)) : ∃ t : Nat × Nat → Bool, ∀ e, t e = true ↔ Bridge E e := ⟨fun e => @decide (Bridge E e) (Classical.propDecidable _), fun e => by simp⟩

/-- Such are the joints. -/
def Jts (n : Nat) (E : List (Nat × Nat)) (L : List Nat) : Prop := ∃ t : Nat → Bool, (∀ a, a < n → (t a = true ↔ Joint E a)) ∧ L = (List.range n).filter t

theorem Jts.one {L L' : List Nat} (h : Jts n E L) (h' : Jts n E L') : L = L' := by
  obtain ⟨t, h1, rfl⟩ := h
  obtain ⟨t', h2, rfl⟩ := h'
  exact List.filter_congr fun a ha => by rw [Bool.eq_iff_iff, h1 a (List.mem_range.1 ha), h2 a (List.mem_range.1 ha)]

theorem jts_some (E : List (Nat × Nat)) : ∃ t : Nat → Bool, ∀ a, t a = true ↔ Joint E a := ⟨fun a => @decide (Joint E a) (Classical.propDecidable _), fun a => by simp⟩

theorem erase_mid (h : Up (A ++ e :: B)) : (A ++ e :: B).erase e = A ++ B := by
  have h1 : e ∉ A := fun q => (List.nodup_append.1 h.nodup).2.2 e q e List.mem_cons_self rfl
  rw [List.erase_append_right _ h1, List.erase_cons_head]

/-- One edge more: each other bridge was one. -/
theorem bridge_less (hs : ∀ x ∈ E, x ∈ E') (hn : E.Nodup) (hn' : E'.Nodup) (h : Bridge E' e) : Bridge E e := fun hc => h (conn_mono (fun x hx => by
  rw [hn.mem_erase_iff] at hx
  exact (hn'.mem_erase_iff).2 ⟨hx.1, hs x hx.2⟩) hc)

/-- The edge that is more is a bridge just if its nodes were not joined. -/
theorem bridge_new (h : Up (A ++ e :: B)) : Bridge (A ++ e :: B) e ↔ ¬ Conn (A ++ B) e.1 e.2 := by unfold Bridge; rw [erase_mid h]

theorem rest_less {p q : Nat → Nat} (hs : ∀ x ∈ E, x ∈ E') (hp : Rest E p) (hq : Rest E' q) (i : Nat) : q i ≤ p i ∧ q i = q (p i) := by
  have h1 := (hq.same i (p i)).2 (conn_mono hs (hp.conn i))
  have h2 := hq.le (p i)
  omega

end Go.Proofs.YtgmadfiibaeleacDoor.Br
