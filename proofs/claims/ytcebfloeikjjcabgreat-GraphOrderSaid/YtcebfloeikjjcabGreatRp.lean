/-
  Parts told on along edges, as the statements' own answer reckons them: who has the same number is joined by edges, and the other way round; each number is the least of its part; each change makes the sum of all less.
-/
import Derived.Test.YtcebfloeikjjcabGreatUf
namespace Go.Proofs.YtcebfloeikjjcabGreat

/-- The edges between nodes below n. -/
def Among (n : Nat) (E : List (Nat × Nat)) : Prop := ∀ e ∈ E, e.1 < n ∧ e.2 < n

/-- An equivalence that has these edges. -/
def Over (E : List (Nat × Nat)) (Q : Nat → Nat → Prop) : Prop := Eqv Q ∧ ∀ e ∈ E, Q e.1 e.2

/-- Joined by edges: in every equivalence that has them. -/
def Conn (E : List (Nat × Nat)) (i j : Nat) : Prop := ∀ Q, Over E Q → Q i j

theorem conn_eqv (E : List (Nat × Nat)) : Eqv (Conn E) :=
  ⟨fun i _Q h => h.1.refl i, fun hc Q h => h.1.symm (hc Q h), fun hc hd Q h => h.1.trans (hc Q h) (hd Q h)⟩
theorem conn_over (E : List (Nat × Nat)) : Over E (Conn E) := ⟨conn_eqv E, fun e he _Q h => h.2 e he⟩
theorem conn_edge {E : List (Nat × Nat)} {a b : Nat} (h : (a, b) ∈ E) : Conn E a b := (conn_over E).2 (a, b) h
theorem conn_mono {E E' : List (Nat × Nat)} (h : ∀ e ∈ E, e ∈ E') {i j : Nat} (hc : Conn E i j) : Conn E' i j := hc _ ⟨conn_eqv E', fun e he => (conn_over E').2 e (h e he)⟩

/-- With one edge more two are joined if they were, or by that edge. -/
theorem conn_cons {E : List (Nat × Nat)} {a b i j : Nat} : Conn ((a, b) :: E) i j ↔ Conn E i j ∨ (Conn E i a ∧ Conn E b j) ∨ (Conn E i b ∧ Conn E a j) := by
  constructor
  · intro h
    refine h (fun i j => Conn E i j ∨ (Conn E i a ∧ Conn E b j) ∨ (Conn E i b ∧ Conn E a j)) ⟨⟨fun i => Or.inl ((conn_eqv E).refl i), ?_, ?_⟩, ?_⟩
    · rintro i j (h | ⟨h1, h2⟩ | ⟨h1, h2⟩)
      · exact Or.inl ((conn_eqv E).symm h)
      · exact Or.inr (Or.inr ⟨(conn_eqv E).symm h2, (conn_eqv E).symm h1⟩)
      · exact Or.inr (Or.inl ⟨(conn_eqv E).symm h2, (conn_eqv E).symm h1⟩)
    · intro i j k h1 h2
      have t := @Eqv.trans _ (conn_eqv E)
      have s := @Eqv.symm _ (conn_eqv E)
      rcases h1 with h1 | ⟨h1, h1'⟩ | ⟨h1, h1'⟩ <;> rcases h2 with h2 | ⟨h2, h2'⟩ | ⟨h2, h2'⟩
      · exact Or.inl (t h1 h2)
      · exact Or.inr (Or.inl ⟨t h1 h2, h2'⟩)
      · exact Or.inr (Or.inr ⟨t h1 h2, h2'⟩)
      · exact Or.inr (Or.inl ⟨h1, t h1' h2⟩)
      · exact Or.inl (t h1 (t (s (t h1' h2)) h2'))
      · exact Or.inl (t h1 h2')
      · exact Or.inr (Or.inr ⟨h1, t h1' h2⟩)
      · exact Or.inl (t h1 h2')
      · exact Or.inl (t h1 (t (s (t h1' h2)) h2'))
    · intro e he
      rcases List.mem_cons.1 he with rfl | he
      · exact Or.inr (Or.inl ⟨(conn_eqv E).refl _, (conn_eqv E).refl _⟩)
      · exact Or.inl ((conn_over E).2 e he)
  · have m : ∀ {i j}, Conn E i j → Conn ((a, b) :: E) i j := fun h => conn_mono (fun e he => List.mem_cons_of_mem _ he) h
    have e : Conn ((a, b) :: E) a b := conn_edge (List.mem_cons_self ..)
    have q := conn_eqv ((a, b) :: E)
    rintro (h | ⟨h1, h2⟩ | ⟨h1, h2⟩)
    · exact m h
    · exact q.trans (m h1) (q.trans e (m h2))
    · exact q.trans (m h1) (q.trans (q.symm e) (m h2))

/-- Numbers on their way: none above its node, each of its node's part. -/
structure Low (E : List (Nat × Nat)) (p : Nat → Nat) : Prop where
  le : ∀ i, p i ≤ i
  conn : ∀ i, Conn E i (p i)

theorem Low.start (E : List (Nat × Nat)) : Low E fun i => i := ⟨fun _ => Nat.le_refl _, fun i => (conn_eqv E).refl i⟩

/-- A node is told a lesser number. -/
def tell (p : Nat → Nat) (b x : Nat) : Nat → Nat := fun i => if i = b then x else p i

theorem Low.tell {E : List (Nat × Nat)} {p : Nat → Nat} (h : Low E p) {a b : Nat} (he : Conn E a b) (hlt : p a < p b) : Low E (tell p b (p a)) := by
  refine ⟨fun i => ?_, fun i => ?_⟩
  · unfold Go.Proofs.YtcebfloeikjjcabGreat.tell
    by_cases e : i = b
    · subst e; rw [if_pos rfl]; have := h.le i; omega
    · rw [if_neg e]; exact h.le i
  · unfold Go.Proofs.YtcebfloeikjjcabGreat.tell
    by_cases e : i = b
    · subst e; rw [if_pos rfl]; exact (conn_eqv E).trans ((conn_eqv E).symm he) (h.conn a)
    · rw [if_neg e]; exact h.conn i

/-- All numbers together. -/
def total (p : Nat → Nat) : Nat → Nat
  | 0 => 0
  | n + 1 => total p n + p n

theorem total_congr {p q : Nat → Nat} : ∀ n, (∀ i, i < n → p i = q i) → total p n = total q n
  | 0, _ => rfl
  | n + 1, h => by simp only [total]; rw [total_congr n (fun i hi => h i (by omega)), h n (by omega)]

theorem total_tell {p : Nat → Nat} {b x : Nat} (hlt : x < p b) : ∀ n, b < n → total (tell p b x) n < total p n
  | 0, h => absurd h (Nat.not_lt_zero _)
  | n + 1, h => by
    simp only [total]
    by_cases e : b = n
    · subst e
      have : total (tell p b x) b = total p b := total_congr b fun i hi => by unfold tell; rw [if_neg (by omega)]
      rw [this]
      have : tell p b x b = x := by unfold tell; rw [if_pos rfl]
      omega
    · have ih := total_tell hlt n (by omega)
      have : tell p b x n = p n := by unfold tell; rw [if_neg (by omega)]
      omega

/-- Numbers that have come to rest: the same along each edge. -/
structure Rest (E : List (Nat × Nat)) (p : Nat → Nat) : Prop extends Low E p where
  edge : ∀ e ∈ E, p e.1 = p e.2

theorem Rest.same {E : List (Nat × Nat)} {p : Nat → Nat} (h : Rest E p) (i j : Nat) : p i = p j ↔ Conn E i j := by
  constructor
  · intro e
    have h1 := h.conn i
    rw [e] at h1
    exact (conn_eqv E).trans h1 ((conn_eqv E).symm (h.conn j))
  · intro hc
    exact hc (fun i j => p i = p j) ⟨⟨fun _ => rfl, fun h => h.symm, fun h k => h.trans k⟩, h.edge⟩

theorem Rest.least {E : List (Nat × Nat)} {p : Nat → Nat} (h : Rest E p) (i : Nat) : p (p i) = p i := ((h.same i (p i)).2 (h.conn i)).symm

/-- Numbers at rest are told by the edges alone. -/
theorem Rest.one {E E' : List (Nat × Nat)} {p q : Nat → Nat} (h : Rest E p) (k : Rest E' q) (hE : ∀ i j, Conn E i j ↔ Conn E' i j) (i : Nat) : p i = q i := by
  have h1 : p (q i) = p i := ((h.same (q i) i).2 ((hE _ _).2 ((conn_eqv E').symm (k.conn i))))
  have h2 : q (p i) = q i := ((k.same (p i) i).2 ((hE _ _).1 ((conn_eqv E).symm (h.conn i))))
  have h3 := h.le (q i)
  have h4 := k.le (p i)
  omega

/-- Who stands for a part by its links is the same as who is joined. -/
theorem Gen.conn {n : Nat} {E : List (Int × Int)} {L : List (Nat × Nat)} (h : Gen n E L) {D : List (Nat × Nat)} (hD : ∀ a b : Nat, (a < n ∧ b < n ∧ (((a : Int), (b : Int)) ∈ E ∨ ((b : Int), (a : Int)) ∈ E)) ↔ ((a, b) ∈ D ∨ (b, a) ∈ D)) (i j : Nat) : rt L i = rt L j ↔ Conn D i j := by
  constructor
  · refine h.least _ (conn_eqv D) (fun e he hn => ?_) i j
    obtain ⟨x, hx⟩ := Int.eq_ofNat_of_zero_le hn.1
    obtain ⟨y, hy⟩ := Int.eq_ofNat_of_zero_le hn.2.2.1
    obtain ⟨e1, e2⟩ := e
    simp only at hx hy
    subst hx hy
    obtain ⟨_, n2, _, n4⟩ := hn
    simp only at n2 n4
    have hm := (hD x y).1 ⟨by omega, by omega, Or.inl he⟩
    simp only [Int.toNat_natCast]
    rcases hm with hm | hm
    · exact conn_edge hm
    · exact (conn_eqv D).symm (conn_edge hm)
  · intro hc
    refine hc (fun i j => rt L i = rt L j) ⟨eqv_rt L, fun e he => ?_⟩
    obtain ⟨a, b⟩ := e
    obtain ⟨h1, h2, h3⟩ := (hD a b).2 (Or.inl he)
    rcases h3 with h3 | h3
    · have := h.has _ h3 ⟨by simp only; omega, by simp only; omega, by simp only; omega, by simp only; omega⟩
      simpa using this
    · have := h.has _ h3 ⟨by simp only; omega, by simp only; omega, by simp only; omega, by simp only; omega⟩
      simpa using this.symm

/-- How many parts there are: those that are the least of theirs. -/
def partsOf (n : Nat) (p : Nat → Nat) : Nat := cnt n fun i => decide (p i = i)

/-- An edge between two parts makes one of two. -/
theorem parts_less {E : List (Nat × Nat)} {p q : Nat → Nat} {a b n : Nat} (h : Rest E p) (k : Rest ((a, b) :: E) q) (ha : a < n) (hb : b < n) (hne : ¬ Conn E a b) : partsOf n q + 1 = partsOf n p := by
  -- the greater of both least ones is no longer one
  have hpa : p a ≠ p b := fun e => hne ((h.same a b).1 e)
  have key : ∀ i, q i = i ↔ p i = i ∧ i ≠ max (p a) (p b) := by
    intro i
    have hq : ∀ j, q i ≤ j ∨ ¬ Conn ((a, b) :: E) i j := fun j => by
      rcases Classical.em (Conn ((a, b) :: E) i j) with hc | hc
      · left
        have := (k.same i j).2 hc
        rw [this]
        exact k.le j
      · exact Or.inr hc
    have pq : Conn ((a, b) :: E) i (p i) := conn_cons.2 (Or.inl (h.conn i))
    constructor
    · intro e
      have h1 : p i = i := by
        rcases hq (p i) with h2 | h2
        · have := h.le i; omega
        · exact absurd pq h2
      refine ⟨h1, fun em => ?_⟩
      rcases Nat.lt_or_ge (p a) (p b) with hl | hl
      · rw [Nat.max_eq_right (by omega)] at em
        have hc : Conn ((a, b) :: E) i (p a) := by
          rw [em]
          refine conn_cons.2 (Or.inr (Or.inr ⟨(conn_eqv E).symm (h.conn b), h.conn a⟩))
        rcases hq (p a) with h2 | h2
        · omega
        · exact h2 hc
      · rw [Nat.max_eq_left hl] at em
        have hc : Conn ((a, b) :: E) i (p b) := by
          rw [em]
          refine conn_cons.2 (Or.inr (Or.inl ⟨(conn_eqv E).symm (h.conn a), h.conn b⟩))
        rcases hq (p b) with h2 | h2
        · omega
        · exact h2 hc
    · rintro ⟨h1, h2⟩
      have hc : Conn ((a, b) :: E) i (q i) := k.conn i
      have hle := k.le i
      rcases conn_cons.1 hc with hc | ⟨c1, c2⟩ | ⟨c1, c2⟩
      · have := (h.same i (q i)).2 hc
        have := h.le (q i)
        omega
      · have e1 : p i = p a := (h.same i a).2 c1
        have e2 : p b = p (q i) := (h.same b (q i)).2 c2
        have e3 := h.le (q i)
        have : Conn ((a, b) :: E) i (p b) := conn_cons.2 (Or.inr (Or.inl ⟨c1, h.conn b⟩))
        rw [Nat.max_def] at h2
        split at h2 <;> omega
      · have e1 : p i = p b := (h.same i b).2 c1
        have e2 : p a = p (q i) := (h.same a (q i)).2 c2
        have e3 := h.le (q i)
        rw [Nat.max_def] at h2
        split at h2 <;> omega
  unfold partsOf
  have hm : max (p a) (p b) < n := by
    have := h.le a
    have := h.le b
    omega
  have hroot : p (max (p a) (p b)) = max (p a) (p b) := by
    rcases Nat.lt_or_ge (p a) (p b) with hl | hl
    · rw [Nat.max_eq_right (by omega)]; exact h.least b
    · rw [Nat.max_eq_left hl]; exact h.least a
  have hc := cnt_or (p := fun i => decide (q i = i)) (q := fun i => decide (i = max (p a) (p b))) (r := fun i => decide (p i = i)) n (fun i _ => by
    by_cases e : i = max (p a) (p b)
    · subst e; simp [hroot]
    · by_cases e2 : p i = i
      · simp [e2, e, (key i).2 ⟨e2, e⟩]
      · have : ¬ q i = i := fun e3 => e2 ((key i).1 e3).1
        simp [e2, e, this]) (fun i _ => by
    by_cases e : i = max (p a) (p b)
    · have : ¬ q i = i := fun e3 => ((key i).1 e3).2 e
      simp [this]
    · simp [e])
  rw [cnt_one, if_pos hm] at hc
  omega

end Go.Proofs.YtcebfloeikjjcabGreat
