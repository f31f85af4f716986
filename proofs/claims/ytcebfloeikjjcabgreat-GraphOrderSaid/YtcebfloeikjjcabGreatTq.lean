/-
  Ways as rows of numbers: a node stands for itself, a move for a number that is no node; the nodes on a way, rising, are those of its tree; a way has three times as many items as nodes, less two.
-/
import Derived.Test.YtcebfloeikjjcabGreatTp
namespace Go.Proofs.YtcebfloeikjjcabGreat

/-- The number that stands for a move. -/
def code (n : Nat) (m : Nat × Nat) : Int := if m.1 = m.2 then (m.1 : Int) else (((m.1 + 1) * n + m.2 : Nat) : Int)

theorem code_self (n a : Nat) : code n (a, a) = a := by simp [code]
theorem code_step {n a b : Nat} (h : a ≠ b) : code n (a, b) = (((a + 1) * n + b : Nat) : Int) := by simp [code, h]

theorem code_ge {n a b : Nat} (h : a ≠ b) : (n : Int) ≤ code n (a, b) := by
  rw [code_step h]
  have : n ≤ (a + 1) * n := Nat.le_mul_of_pos_left n (by omega)
  omega

theorem code_lt {n a b : Nat} (ha : a < n) : code n (a, b) < n ↔ a = b := by
  constructor
  · intro h
    rcases Nat.decEq a b with h1 | h1
    · have := code_ge (n := n) h1; omega
    · exact h1
  · intro h; subst h; rw [code_self]; omega

theorem code_inj {n a b c d : Nat} (ha : a < n) (hb : b < n) (hc : c < n) (hd : d < n) (h : code n (a, b) = code n (c, d)) : (a, b) = (c, d) := by
  rcases Nat.decEq a b with h1 | h1
  · rcases Nat.decEq c d with h2 | h2
    · rw [code_step h1, code_step h2] at h
      have h : (a + 1) * n + b = (c + 1) * n + d := by omega
      have e1 : ((a + 1) * n + b) / n = a + 1 := by rw [Nat.mul_comm, Nat.mul_add_div (by omega), Nat.div_eq_of_lt hb]
      have e2 : ((c + 1) * n + d) / n = c + 1 := by rw [Nat.mul_comm, Nat.mul_add_div (by omega), Nat.div_eq_of_lt hd]
      rw [h, e2] at e1
      have e3 : a = c := by omega
      subst e3
      have : b = d := by omega
      rw [this]
    · subst h2
      have := code_ge (n := n) h1
      rw [h, code_self] at this
      omega
  · subst h1
    rcases Nat.decEq c d with h2 | h2
    · have := code_ge (n := n) h2
      rw [← h, code_self] at this
      omega
    · subst h2
      rw [code_self, code_self] at h
      have : a = c := by omega
      rw [this]

theorem nodup_map_on {α β : Type} {f : α → β} : ∀ {l : List α}, (∀ x ∈ l, ∀ y ∈ l, f x = f y → x = y) → l.Nodup → (l.map f).Nodup
  | [], _, _ => by simp
  | a :: l, h, hn => by
    rw [List.nodup_cons] at hn
    rw [List.map_cons, List.nodup_cons]
    refine ⟨fun hm => ?_, nodup_map_on (fun x hx y hy => h x (List.mem_cons_of_mem _ hx) y (List.mem_cons_of_mem _ hy)) hn.2⟩
    obtain ⟨y, hy, e⟩ := List.mem_map.1 hm
    exact hn.1 (h y (List.mem_cons_of_mem _ hy) a (List.mem_cons_self ..) e ▸ hy)

theorem nodup_filter {α : Type} (f : α → Bool) {l : List α} (h : l.Nodup) : (l.filter f).Nodup := List.Pairwise.filter f h

/-- The nodes of a tree, rising. -/
def nodesOf (n : Nat) (p : Nat → Nat) (r : Nat) : List Nat := (List.range n).filter fun x => decide (p x = r)

theorem mem_nodesOf {n : Nat} {p : Nat → Nat} {r x : Nat} : x ∈ nodesOf n p r ↔ x < n ∧ p x = r := by simp [nodesOf]
theorem nodesOf_nodup (n : Nat) (p : Nat → Nat) (r : Nat) : (nodesOf n p r).Nodup := nodup_filter _ List.nodup_range
theorem nodesOf_rising (n : Nat) (p : Nat → Nat) (r : Nat) : (nodesOf n p r).Pairwise (· < ·) := List.Pairwise.filter _ List.pairwise_lt_range
theorem nodesOf_len (n : Nat) (p : Nat → Nat) (r : Nat) : (nodesOf n p r).length = cnt n fun x => decide (p x = r) := List.countP_eq_length_filter.symm

variable {n : Nat} {E : List (Nat × Nat)} {p : Nat → Nat} {r : Nat} {l : List (Nat × Nat)}

theorem Way.lt (w : Way n E p r l) (ha : Among n E) {x y : Nat} (h : (x, y) ∈ l) : x < n ∧ y < n := ((w.mem x y).1 h).1.lt ha

theorem Way.codes (w : Way n E p r l) (ha : Among n E) : (l.map (code n)).Nodup :=
  nodup_map_on (fun ⟨_, _⟩ hx ⟨_, _⟩ hy e => code_inj (w.lt ha hx).1 (w.lt ha hx).2 (w.lt ha hy).1 (w.lt ha hy).2 e) w.nodup

theorem Way.nodes (w : Way n E p r l) (ha : Among n E) : ((l.map (code n)).filter fun z : Int => decide (z < n)).Perm ((nodesOf n p r).map Int.ofNat) := by
  rw [List.perm_ext_iff_of_nodup (nodup_filter _ (w.codes ha)) (nodup_map_on (fun x _ y _ e => by have : (x : Int) = (y : Int) := e; omega) (nodesOf_nodup n p r))]
  intro z
  simp only [List.mem_filter, List.mem_map, decide_eq_true_eq, mem_nodesOf]
  constructor
  · rintro ⟨⟨⟨x, y⟩, hm, rfl⟩, hz⟩
    have hx := w.lt ha hm
    obtain rfl := (code_lt hx.1).1 hz
    exact ⟨x, ⟨hx.1, ((w.mem x x).1 hm).2⟩, by rw [code_self]; rfl⟩
  · rintro ⟨x, ⟨h1, h2⟩, rfl⟩
    exact ⟨⟨(x, x), (w.mem x x).2 ⟨Or.inl ⟨rfl, h1⟩, h2⟩, by rw [code_self]; rfl⟩, by simp; omega⟩

/-- Sorted they are the nodes of the tree. -/
theorem Way.sorted (w : Way n E p r l) (ha : Among n E) : ((l.map (code n)).filter fun z : Int => decide (z < n)).mergeSort (fun x y => decide (x ≤ y)) = (nodesOf n p r).map Int.ofNat := by
  have h1 := List.pairwise_mergeSort (le := fun x y : Int => decide (x ≤ y)) (fun a b c h1 h2 => by simp at *; omega) (fun a b => by simp; omega) ((l.map (code n)).filter fun z : Int => decide (z < n))
  refine List.Perm.eq_of_pairwise (le := fun a b : Int => decide (a ≤ b) = true) (fun a b _ _ h1 h2 => by simp at *; omega) h1 ?_ ((List.mergeSort_perm _ _).trans (w.nodes ha))
  rw [List.pairwise_map]
  exact (nodesOf_rising n p r).imp fun h => by simp; omega

theorem forest_nodup : ∀ {E : List (Nat × Nat)}, Forest E → E.Nodup
  | [], _ => by simp
  | (a, b) :: E, ⟨h1, h2⟩ => List.nodup_cons.2 ⟨fun h => h1 (conn_edge h), forest_nodup h2⟩

theorem forest_filter (f : Nat × Nat → Bool) : ∀ {E : List (Nat × Nat)}, Forest E → Forest (E.filter f)
  | [], _ => trivial
  | (a, b) :: E, ⟨h1, h2⟩ => by
    rw [List.filter_cons]
    split
    · exact ⟨fun hc => h1 (conn_mono (fun e he => (List.mem_filter.1 he).1) hc), forest_filter f h2⟩
    · exact forest_filter f h2

/-- A tree has one edge less than nodes. -/
theorem tree_edges (ha : Among n E) (hf : Forest E) (h : Rest E p) (hr : r < n) (hrr : p r = r) : (E.filter fun e => decide (p e.1 = r)).length + 1 = (nodesOf n p r).length := by
  have hcn : ∀ x y, Conn E x y → p x = p y ∧ (p x = r → Conn (E.filter fun e => decide (p e.1 = r)) x y) := fun x y hc => by
    have q := conn_eqv (E.filter fun e => decide (p e.1 = r))
    refine hc (fun x y => p x = p y ∧ (p x = r → Conn (E.filter fun e => decide (p e.1 = r)) x y)) ⟨⟨fun i => ⟨rfl, fun _ => q.refl i⟩, fun h => ⟨h.1.symm, fun e => q.symm (h.2 (h.1.trans e))⟩, fun h1 h2 => ⟨h1.1.trans h2.1, fun e => q.trans (h1.2 e) (h2.2 (h1.1.symm.trans e))⟩⟩, fun e he => ⟨h.edge e he, fun e1 => ?_⟩⟩
    exact (conn_over _).2 e (List.mem_filter.2 ⟨he, by simpa using e1⟩)
  have hq : Rest (E.filter fun e => decide (p e.1 = r)) fun x => if p x = r then r else x := by
    refine ⟨⟨fun i => ?_, fun i => ?_⟩, fun e he => ?_⟩
    · by_cases c : p i = r
      · rw [if_pos c]; have := h.le i; omega
      · rw [if_neg c]; exact Nat.le_refl _
    · by_cases c : p i = r
      · rw [if_pos c]; exact (hcn i r (by have := h.conn i; rwa [c] at this)).2 c
      · rw [if_neg c]; exact (conn_eqv _).refl i
    · obtain ⟨h1, h2⟩ := List.mem_filter.1 he
      have h2 : p e.1 = r := by simpa using h2
      have h3 : p e.2 = r := (h.edge e h1).symm.trans h2
      rw [if_pos h2, if_pos h3]
  have hp := (forest_parts (n := n) (fun e he => ha e (List.mem_filter.1 he).1) hq).2.1 (forest_filter _ hf)
  have c1 : partsOf n (fun x => if p x = r then r else x) = cnt n (fun x => decide (p x ≠ r)) + cnt n (fun x => decide (x = r)) := by
    unfold partsOf
    refine cnt_or n (fun i _ => ?_) (fun i _ => ?_)
    · by_cases c : p i = r
      · simp [c, eq_comm]
      · simp [c]
    · by_cases c : i = r
      · simp [c, hrr]
      · simp [c]
  have c2 : cnt n (fun x => decide (x = x)) = cnt n (fun x => decide (p x ≠ r)) + cnt n (fun x => decide (p x = r)) := by
    refine cnt_or n (fun i _ => ?_) (fun i _ => ?_)
    · by_cases c : p i = r <;> simp [c]
    · by_cases c : p i = r <;> simp [c]
  rw [cnt_id] at c2
  rw [cnt_one, if_pos hr] at c1
  rw [nodesOf_len]
  omega

/-- How long a way is. -/
theorem Way.len (w : Way n E p r l) (ha : Among n E) (hf : Forest E) (h : Rest E p) (hr : r < n) (hrr : p r = r) : l.length + 2 = 3 * (nodesOf n p r).length := by
  have hne : ∀ x y, (x, y) ∈ E → x ≠ y := fun x y he e => by
    obtain ⟨A, B, rfl⟩ := List.append_of_mem he
    exact (hf.out ha).2 (e ▸ (conn_eqv _).refl x)
  have two : ∀ x y, (x, y) ∈ E → (y, x) ∉ E := fun x y he hi => by
    obtain ⟨A, B, rfl⟩ := List.append_of_mem he
    refine (hf.out ha).2 ((conn_eqv _).symm (conn_edge ?_))
    simp only [List.mem_append, List.mem_cons, Prod.mk.injEq] at hi ⊢
    rcases hi with hi | ⟨e, _⟩ | hi
    · exact Or.inl hi
    · exact absurd e.symm (hne x y he)
    · exact Or.inr hi
  have hp : l.Perm ((nodesOf n p r).map (fun x => (x, x)) ++ ((E.filter fun e => decide (p e.1 = r)) ++ (E.filter fun e => decide (p e.1 = r)).map fun e => (e.2, e.1))) := by
    have n1 : ((nodesOf n p r).map (fun x => (x, x))).Nodup := nodup_map_on (fun x _ y _ e => by simpa using e) (nodesOf_nodup n p r)
    have n2 : (E.filter fun e => decide (p e.1 = r)).Nodup := nodup_filter _ (forest_nodup hf)
    have n3 : ((E.filter fun e => decide (p e.1 = r)).map fun e => (e.2, e.1)).Nodup := nodup_map_on (fun ⟨_, _⟩ _ ⟨_, _⟩ _ e => by simp at e ⊢; exact ⟨e.2, e.1⟩) n2
    have nn : ((nodesOf n p r).map (fun x => (x, x)) ++ ((E.filter fun e => decide (p e.1 = r)) ++ (E.filter fun e => decide (p e.1 = r)).map fun e => (e.2, e.1))).Nodup := by
      rw [List.nodup_append]
      refine ⟨n1, ?_, ?_⟩
      · rw [List.nodup_append]
        refine ⟨n2, n3, ?_⟩
        rintro ⟨x, y⟩ hx z hz rfl
        obtain ⟨⟨u, v⟩, hu, e⟩ := List.mem_map.1 hz
        simp only [Prod.mk.injEq] at e
        obtain ⟨rfl, rfl⟩ := e
        exact two _ _ (List.mem_filter.1 hx).1 (List.mem_filter.1 hu).1
      · rintro ⟨x, y⟩ hx z hz rfl
        obtain ⟨u, _, e⟩ := List.mem_map.1 hx
        simp only [Prod.mk.injEq] at e
        obtain ⟨rfl, rfl⟩ := e
        rcases List.mem_append.1 hz with hz | hz
        · exact hne _ _ (List.mem_filter.1 hz).1 rfl
        · obtain ⟨⟨a, b⟩, hu, e⟩ := List.mem_map.1 hz
          simp only [Prod.mk.injEq] at e
          obtain ⟨rfl, rfl⟩ := e
          exact hne _ _ (List.mem_filter.1 hu).1 rfl
    rw [List.perm_ext_iff_of_nodup w.nodup nn]
    rintro ⟨x, y⟩
    rw [w.mem]
    simp only [List.mem_append, List.mem_map, List.mem_filter, mem_nodesOf, decide_eq_true_eq, Prod.mk.injEq]
    constructor
    · rintro ⟨⟨rfl, h1⟩ | ⟨h1, h2 | h2⟩, h3⟩
      · exact Or.inl ⟨x, ⟨h1, h3⟩, rfl, rfl⟩
      · exact Or.inr (Or.inl ⟨h2, h3⟩)
      · exact Or.inr (Or.inr ⟨(y, x), ⟨h2, by rw [h.edge _ h2]; exact h3⟩, rfl, rfl⟩)
    · rintro (⟨u, ⟨h1, h2⟩, rfl, rfl⟩ | ⟨h1, h2⟩ | ⟨⟨u, v⟩, ⟨h1, h2⟩, rfl, rfl⟩)
      · exact ⟨Or.inl ⟨rfl, h1⟩, h2⟩
      · exact ⟨Or.inr ⟨hne _ _ h1, Or.inl h1⟩, h2⟩
      · exact ⟨Or.inr ⟨(hne _ _ h1).symm, Or.inr h1⟩, (h.edge _ h1).symm.trans h2⟩
  have hl := hp.length_eq
  simp only [List.length_append, List.length_map] at hl
  have := tree_edges ha hf h hr hrr
  omega

end Go.Proofs.YtcebfloeikjjcabGreat
