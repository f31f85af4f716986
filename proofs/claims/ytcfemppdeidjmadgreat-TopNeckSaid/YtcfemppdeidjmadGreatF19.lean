/-
  Events, plain: edges that come and go; which of them are there at a time; from when till when each is there.
  Events, plain: which of them is wrong first, and how; what is answered; from when till when each edge is there.
  The statements' own answer, for events (no text of another layer is wanted): is there such a node, how many there may be; an edge of two nodes, where it stands in a list, a list without one; of each node the least one of its part.
  Are two lists of answers, or of pairs, the same? Events as they lie in memory.
-/
import Derived.Test.YtcfemppdeidjmadGreatMa
import Derived.Test.YtcfemppdeidjmadGreatChecked
import Derived.WalkKit
import Derived.WalkSpells
import Derived.WalkLawsBesides
import Derived.Deep.RegionHeld3
import Derived.Deep.OwnRows
import Derived.OneCell
import Derived.BigQuiet
import Derived.BigRegion
import Derived.Below
import Derived.Maps.AppendAt
import Derived.Deep.AppendLies
namespace Go.Proofs.YtcfemppdeidjmadGreat.As
set_option linter.unusedVariables false

variable {f : Nat → Int × Int × Int} {n m t i j k : Nat} {e : Nat × Nat}

/-- The edge of an event, the lesser node first. -/
def eOf (f : Nat → Int × Int × Int) (i : Nat) : Nat × Nat := ((min (f i).2.1 (f i).2.2).toNat, (max (f i).2.1 (f i).2.2).toNat)

/-- The edges that are there ahead of an event. -/
def here (f : Nat → Int × Int × Int) : Nat → List (Nat × Nat)
  | 0 => []
  | k + 1 => if (f k).1 = 1 then here f k ++ [eOf f k] else if (f k).1 = 2 then (here f k).erase (eOf f k) else here f k

/-- An event that may be. -/
structure May (n : Nat) (f : Nat → Int × Int × Int) (k : Nat) : Prop where
  what : 1 ≤ (f k).1 ∧ (f k).1 ≤ 3
  a : 0 ≤ (f k).2.1 ∧ (f k).2.1 < n
  b : 0 ≤ (f k).2.2 ∧ (f k).2.2 < n
  ne : (f k).1 ≠ 3 → (f k).2.1 ≠ (f k).2.2
  add : (f k).1 = 1 → eOf f k ∉ here f k
  drop : (f k).1 = 2 → eOf f k ∈ here f k

theorem here_succ (f : Nat → Int × Int × Int) (k : Nat) : here f (k + 1) = if (f k).1 = 1 then here f k ++ [eOf f k] else if (f k).1 = 2 then (here f k).erase (eOf f k) else here f k := rfl

theorem here_add (h : (f k).1 = 1) : here f (k + 1) = here f k ++ [eOf f k] := by rw [here_succ, if_pos h]
theorem here_drop (h : (f k).1 = 2) : here f (k + 1) = (here f k).erase (eOf f k) := by rw [here_succ, if_neg (by omega), if_pos h]
theorem here_ask (h : (f k).1 ≠ 1) (h2 : (f k).1 ≠ 2) : here f (k + 1) = here f k := by rw [here_succ, if_neg h, if_neg h2]

/-- None is there twice. -/
theorem here_nodup : ∀ {t : Nat}, (∀ k, k < t → May n f k) → (here f t).Nodup
  | 0, _ => List.nodup_nil
  | t + 1, h => by
    have ih := here_nodup (t := t) fun k hk => h k (by omega)
    by_cases h1 : (f t).1 = 1
    · rw [here_add h1]
      have := (h t (by omega)).add h1
      refine List.nodup_append.2 ⟨ih, by simp, fun x hx y hy => ?_⟩
      rw [List.mem_singleton] at hy
      subst hy
      exact fun q => this (q ▸ hx)
    · by_cases h2 : (f t).1 = 2
      · rw [here_drop h2]; exact ih.erase _
      · rw [here_ask h1 h2]; exact ih

/-- An edge is there just if it was added, and not dropped since. -/
theorem mem_here : ∀ {t : Nat}, (∀ k, k < t → May n f k) → (e ∈ here f t ↔ ∃ i, i < t ∧ (f i).1 = 1 ∧ eOf f i = e ∧ ∀ j, i < j → j < t → ¬ ((f j).1 = 2 ∧ eOf f j = e))
  | 0, _ => ⟨fun h => by simp [here] at h, fun ⟨i, hi, _⟩ => absurd hi (Nat.not_lt_zero _)⟩
  | t + 1, h => by
    have ih := mem_here (t := t) fun k hk => h k (by omega)
    have hn := here_nodup (t := t) fun k hk => h k (by omega)
    by_cases h1 : (f t).1 = 1
    · rw [here_add h1, List.mem_append, List.mem_singleton, ih]
      constructor
      · rintro (⟨i, hi, q1, q2, q3⟩ | rfl)
        · refine ⟨i, by omega, q1, q2, fun j hj hj2 => ?_⟩
          rcases Nat.lt_or_ge j t with q | q
          · exact q3 j hj q
          · obtain rfl : j = t := by omega
            exact fun q => by omega
        · exact ⟨t, by omega, h1, rfl, fun j hj hj2 => by omega⟩
      · rintro ⟨i, hi, q1, q2, q3⟩
        rcases Nat.lt_or_ge i t with q | q
        · exact Or.inl ⟨i, q, q1, q2, fun j hj hj2 => q3 j hj (by omega)⟩
        · obtain rfl : i = t := by omega
          exact Or.inr q2.symm
    · by_cases h2 : (f t).1 = 2
      · rw [here_drop h2, hn.mem_erase_iff, ih]
        constructor
        · rintro ⟨hne, i, hi, q1, q2, q3⟩
          refine ⟨i, by omega, q1, q2, fun j hj hj2 => ?_⟩
          rcases Nat.lt_or_ge j t with q | q
          · exact q3 j hj q
          · obtain rfl : j = t := by omega
            exact fun q => hne q.2.symm
        · rintro ⟨i, hi, q1, q2, q3⟩
          have hit : i < t := by
            rcases Nat.lt_or_ge i t with q | q
            · exact q
            · obtain rfl : i = t := by omega
              omega
          exact ⟨fun q => q3 t hit (by omega) ⟨h2, q.symm⟩, i, hit, q1, q2, fun j hj hj2 => q3 j hj (by omega)⟩
      · rw [here_ask h1 h2, ih]
        constructor
        · rintro ⟨i, hi, q1, q2, q3⟩
          refine ⟨i, by omega, q1, q2, fun j hj hj2 => ?_⟩
          rcases Nat.lt_or_ge j t with q | q
          · exact q3 j hj q
          · obtain rfl : j = t := by omega
            exact fun q => h2 q.1
        · rintro ⟨i, hi, q1, q2, q3⟩
          have hit : i < t := by
            rcases Nat.lt_or_ge i t with q | q
            · exact q
            · obtain rfl : i = t := by omega
              exact absurd q1 h1
          exact ⟨i, hit, q1, q2, fun j hj hj2 => q3 j hj (by omega)⟩

/-- The first Drop of an edge from a place on, among so many events. -/
def findDrop (f : Nat → Int × Int × Int) (e : Nat × Nat) : Nat → Nat → Nat
  | 0, k => k
  | r + 1, k => if (f k).1 = 2 ∧ eOf f k = e then k else findDrop f e r (k + 1)

theorem findDrop_spec (f : Nat → Int × Int × Int) (e : Nat × Nat) : ∀ r k, k ≤ findDrop f e r k ∧ findDrop f e r k ≤ k + r ∧ (∀ j, k ≤ j → j < findDrop f e r k → ¬ ((f j).1 = 2 ∧ eOf f j = e)) ∧ (findDrop f e r k < k + r → (f (findDrop f e r k)).1 = 2 ∧ eOf f (findDrop f e r k) = e)
  | 0, k => ⟨Nat.le_refl _, Nat.le_refl _, fun j h1 h2 => by simp [findDrop] at h2; omega, fun h => by simp [findDrop] at h⟩
  | r + 1, k => by
    by_cases h : (f k).1 = 2 ∧ eOf f k = e
    · have e1 : findDrop f e (r + 1) k = k := by show (if _ then _ else _) = _; rw [if_pos h]
      rw [e1]
      exact ⟨Nat.le_refl _, by omega, fun j h1 h2 => by omega, fun _ => h⟩
    · have e1 : findDrop f e (r + 1) k = findDrop f e r (k + 1) := by show (if _ then _ else _) = _; rw [if_neg h]
      rw [e1]
      obtain ⟨q1, q2, q3, q4⟩ := findDrop_spec f e r (k + 1)
      refine ⟨by omega, by omega, fun j h1 h2 => ?_, fun hlt => q4 (by omega)⟩
      rcases Nat.lt_or_ge k j with q | q
      · exact q3 j (by omega) h2
      · obtain rfl : j = k := by omega
        exact h

/-- Till when the edge that an event adds is there, of m events. -/
def til (f : Nat → Int × Int × Int) (m i : Nat) : Nat := findDrop f (eOf f i) (m - (i + 1)) (i + 1)

theorem til_gt (h : i < m) : i < til f m i ∧ til f m i ≤ m := by
  obtain ⟨q1, q2, _⟩ := findDrop_spec f (eOf f i) (m - (i + 1)) (i + 1)
  unfold til
  omega

theorem til_no (h1 : i < j) (h2 : j < til f m i) : ¬ ((f j).1 = 2 ∧ eOf f j = eOf f i) := (findDrop_spec f (eOf f i) (m - (i + 1)) (i + 1)).2.2.1 j (by omega) h2

theorem til_drop (h : i < m) (h2 : til f m i < m) : (f (til f m i)).1 = 2 ∧ eOf f (til f m i) = eOf f i := (findDrop_spec f (eOf f i) (m - (i + 1)) (i + 1)).2.2.2 (by unfold til at h2; omega)

theorem til_is (h : i < m) (h1 : i < k) (h2 : k ≤ m) (h3 : ∀ j, i < j → j < k → ¬ ((f j).1 = 2 ∧ eOf f j = eOf f i)) (h4 : k < m → (f k).1 = 2 ∧ eOf f k = eOf f i) : til f m i = k := by
  have hg := til_gt (f := f) h
  rcases Nat.lt_trichotomy (til f m i) k with q | q | q
  · exact absurd (til_drop h (by omega)) (h3 _ hg.1 q)
  · exact q
  · exact absurd (h4 (by omega)) (til_no h1 q)

/-- An edge is there just if it was added, and that span is not at its end. -/
theorem mem_til (h : ∀ k, k < m → May n f k) (ht : t ≤ m) : e ∈ here f t ↔ ∃ i, i < t ∧ (f i).1 = 1 ∧ eOf f i = e ∧ t ≤ til f m i := by
  rw [mem_here (n := n) fun k hk => h k (by omega)]
  constructor
  · rintro ⟨i, hi, q1, q2, q3⟩
    refine ⟨i, hi, q1, q2, ?_⟩
    apply Nat.le_of_not_lt
    intro hlt
    have hd := til_drop (f := f) (m := m) (i := i) (by omega) (by omega)
    rw [q2] at hd
    exact q3 _ (til_gt (by omega)).1 hlt hd
  · rintro ⟨i, hi, q1, q2, q3⟩
    exact ⟨i, hi, q1, q2, fun j h1 h2 => by rw [← q2]; exact til_no (m := m) h1 (by omega)⟩

theorem eOf_among (h : May n f k) : (eOf f k).1 < n ∧ (eOf f k).2 < n := by
  have h1 := h.a
  have h2 := h.b
  unfold eOf
  constructor
  · show Int.toNat (min _ _) < n
    omega
  · show Int.toNat (max _ _) < n
    omega

theorem eOf_less (h : May n f k) (hw : (f k).1 ≠ 3) : (eOf f k).1 < (eOf f k).2 := by
  have h1 := h.a
  have h2 := h.b
  have h3 := h.ne hw
  unfold eOf
  show Int.toNat (min _ _) < Int.toNat (max _ _)
  omega

theorem here_among (h : ∀ k, k < t → May n f k) : Among n (here f t) := fun e he => by
  obtain ⟨i, hi, _, rfl, _⟩ := (mem_here h).1 he
  exact eOf_among (h i hi)

theorem here_less (h : ∀ k, k < t → May n f k) : ∀ e ∈ here f t, e.1 < e.2 := fun e he => by
  obtain ⟨i, hi, hw, rfl, _⟩ := (mem_here h).1 he
  exact eOf_less (h i hi) (by omega)

/-- At most as many edges as events. -/
theorem here_len (f : Nat → Int × Int × Int) : ∀ t, (here f t).length ≤ t
  | 0 => Nat.le_refl _
  | t + 1 => by
    have ih := here_len f t
    by_cases h1 : (f t).1 = 1
    · rw [here_add h1]; simp; omega
    · by_cases h2 : (f t).1 = 2
      · rw [here_drop h2]
        have := List.length_erase_le (a := eOf f t) (l := here f t)
        omega
      · rw [here_ask h1 h2]; omega

/-- The places of the events of a kind, ahead of a place. -/
def places (f : Nat → Int × Int × Int) (w : Int) (t : Nat) : List Nat := (List.range t).filter fun i => decide ((f i).1 = w)

theorem places_succ (f : Nat → Int × Int × Int) (w : Int) (t : Nat) : places f w (t + 1) = places f w t ++ if (f t).1 = w then [t] else [] := by
  unfold places
  rw [List.range_succ, List.filter_append]
  congr 1
  by_cases h : (f t).1 = w
  · simp [h]
  · simp [h]

theorem mem_places {w : Int} : i ∈ places f w t ↔ i < t ∧ (f i).1 = w := by simp [places]

theorem places_len (f : Nat → Int × Int × Int) (w : Int) (t : Nat) : (places f w t).length ≤ t := by
  have := List.length_filter_le (fun i => decide ((f i).1 = w)) (List.range t)
  simpa [places] using this

end Go.Proofs.YtcfemppdeidjmadGreat.As

namespace Go.Proofs.YtcfemppdeidjmadGreat.As
set_option linter.unusedVariables false

variable {f : Nat → Int × Int × Int} {m t i j k k' : Nat} {e : Nat × Nat} {x x' : Int}

/-- What is done is something, and both are nodes. -/
def Sane (n : Nat) (f : Nat → Int × Int × Int) (k : Nat) : Prop := (1 ≤ (f k).1 ∧ (f k).1 ≤ 3) ∧ (0 ≤ (f k).2.1 ∧ (f k).2.1 < n) ∧ 0 ≤ (f k).2.2 ∧ (f k).2.2 < n

/-- What is wrong of an event. -/
def Bad (n : Nat) (f : Nat → Int × Int × Int) (k : Nat) (x : Int) : Prop :=
  (¬ Sane n f k ∧ x = 1) ∨ (Sane n f k ∧ (f k).1 ≠ 3 ∧ (f k).2.1 = (f k).2.2 ∧ x = 2) ∨ (Sane n f k ∧ (f k).1 = 1 ∧ (f k).2.1 ≠ (f k).2.2 ∧ eOf f k ∈ here f k ∧ x = 6) ∨ (Sane n f k ∧ (f k).1 = 2 ∧ (f k).2.1 ≠ (f k).2.2 ∧ eOf f k ∉ here f k ∧ x = 4)

theorem May.sane {n : Nat} (h : May n f k) : Sane n f k := ⟨h.what, h.a, h.b⟩

theorem may_ask {n : Nat} (h : Sane n f k) (h3 : (f k).1 = 3) : May n f k := ⟨h.1, h.2.1, h.2.2, fun q => absurd h3 q, fun q => by omega, fun q => by omega⟩
theorem may_add {n : Nat} (h : Sane n f k) (h1 : (f k).1 = 1) (hne : (f k).2.1 ≠ (f k).2.2) (hn : eOf f k ∉ here f k) : May n f k := ⟨h.1, h.2.1, h.2.2, fun _ => hne, fun _ => hn, fun q => by omega⟩
theorem may_drop {n : Nat} (h : Sane n f k) (h2 : (f k).1 = 2) (hne : (f k).2.1 ≠ (f k).2.2) (hn : eOf f k ∈ here f k) : May n f k := ⟨h.1, h.2.1, h.2.2, fun _ => hne, fun q => by omega, fun _ => hn⟩

theorem Bad.not {n : Nat} (h : Bad n f k x) : ¬ May n f k := by
  intro q
  rcases h with ⟨h, _⟩ | ⟨_, h1, h2, _⟩ | ⟨_, h1, _, h2, _⟩ | ⟨_, h1, _, h2, _⟩
  · exact h q.sane
  · exact q.ne h1 h2
  · exact q.add h1 h2
  · exact h2 (q.drop h1)

theorem Bad.one {n : Nat} (h : Bad n f k x) (h' : Bad n f k x') : x = x' := by
  rcases h with ⟨a1, a2⟩ | ⟨a1, a2, a3, a4⟩ | ⟨a1, a2, a3, a4, a5⟩ | ⟨a1, a2, a3, a4, a5⟩ <;> rcases h' with ⟨b1, b2⟩ | ⟨b1, b2, b3, b4⟩ | ⟨b1, b2, b3, b4, b5⟩ | ⟨b1, b2, b3, b4, b5⟩
  all_goals first
    | omega
    | exact absurd b1 a1
    | exact absurd a1 b1
    | exact absurd a4 b4
    | exact absurd b4 a4

theorem Bad.pos {n : Nat} (h : Bad n f k x) : x ≠ 0 := by
  rcases h with ⟨_, h⟩ | ⟨_, _, _, h⟩ | ⟨_, _, _, _, h⟩ | ⟨_, _, _, _, h⟩ <;> omega

/-- Of m events at n nodes: the place of the first one that is wrong, and how. -/
def EFault (n : Int) (m : Nat) (f : Nat → Int × Int × Int) (k : Nat) (x : Int) : Prop :=
  ((n < 1 ∨ 60 < n) ∧ k = 0 ∧ x = 1) ∨ ((1 ≤ n ∧ n ≤ 60) ∧ 120 < m ∧ k = 0 ∧ x = 3) ∨
  ((1 ≤ n ∧ n ≤ 60) ∧ m ≤ 120 ∧ k < m ∧ (∀ j, j < k → May n.toNat f j) ∧ Bad n.toNat f k x) ∨ ((1 ≤ n ∧ n ≤ 60) ∧ m ≤ 120 ∧ (∀ j, j < m → May n.toNat f j) ∧ k = 0 ∧ x = 0)

theorem EFault.one {n : Int} (h : EFault n m f k x) (h' : EFault n m f k' x') : k = k' ∧ x = x' := by
  rcases h with ⟨a1, a2, a3⟩ | ⟨a1, a2, a3, a4⟩ | ⟨a1, a2, a3, a4, a5⟩ | ⟨a1, a2, a3, a4, a5⟩ <;> rcases h' with ⟨b1, b2, b3⟩ | ⟨b1, b2, b3, b4⟩ | ⟨b1, b2, b3, b4, b5⟩ | ⟨b1, b2, b3, b4, b5⟩
  case inr.inr.inl.inr.inr.inl =>
    rcases Nat.lt_trichotomy k k' with q | q | q
    · exact absurd (b4 k q) a5.not
    · subst q
      exact ⟨rfl, a5.one b5⟩
    · exact absurd (a4 k' q) b5.not
  case inr.inr.inl.inr.inr.inr => exact absurd (b3 k a3) a5.not
  case inr.inr.inr.inr.inr.inl => exact absurd (a3 k' b3) b5.not
  all_goals omega

theorem EFault.ok {n : Int} (h : EFault n m f k 0) : (1 ≤ n ∧ n ≤ 60) ∧ m ≤ 120 ∧ (∀ j, j < m → May n.toNat f j) ∧ k = 0 := by
  rcases h with ⟨_, _, h⟩ | ⟨_, _, _, h⟩ | ⟨_, _, _, _, h⟩ | ⟨h1, h2, h3, h4, _⟩
  · omega
  · omega
  · exact absurd rfl h.pos
  · exact ⟨h1, h2, h3, h4⟩

theorem EFault.none {n : Int} (h : EFault n m f k x) (hx : x ≠ 0) : ¬ ((1 ≤ n ∧ n ≤ 60) ∧ m ≤ 120 ∧ ∀ j, j < m → May n.toNat f j) := by
  rintro ⟨h1, h2, h3⟩
  have h4 : EFault n m f 0 0 := Or.inr (Or.inr (Or.inr ⟨h1, h2, h3, rfl, rfl⟩))
  exact hx (h.one h4).2

/-- The answers to the first t events: of each Ask, in order, whether its nodes are joined by what is there then. -/
structure Ans (f : Nat → Int × Int × Int) (t : Nat) (l : List Bool) : Prop where
  len : l.length = (places f 3 t).length
  at_ : ∀ (j i : Nat), (places f 3 t)[j]? = some i → (l[j]? = some true ↔ Conn (here f i) (f i).2.1.toNat (f i).2.2.toNat)

theorem Ans.one {l l' : List Bool} (h : Ans f t l) (h' : Ans f t l') : l = l' := by
  refine List.ext_getElem? fun j => ?_
  rcases Nat.lt_or_ge j (places f 3 t).length with q | q
  · have e := List.getElem?_eq_getElem q
    have q1 := h.at_ j _ e
    have q2 := h'.at_ j _ e
    have r1 : j < l.length := by rw [h.len]; exact q
    have r2 : j < l'.length := by rw [h'.len]; exact q
    rw [List.getElem?_eq_getElem r1] at q1 ⊢
    rw [List.getElem?_eq_getElem r2] at q2 ⊢
    have q3 := q1.trans q2.symm
    simp only [Option.some.injEq] at q3 ⊢
    rw [Bool.eq_iff_iff]
    exact q3
  · rw [List.getElem?_eq_none (by rw [h.len]; exact q), List.getElem?_eq_none (by rw [h'.len]; exact q)]

theorem Ans.nil (f : Nat → Int × Int × Int) : Ans f 0 [] := ⟨rfl, fun j i h => by simp [places] at h⟩

theorem Ans.other {l : List Bool} (h : Ans f t l) (hw : (f t).1 ≠ 3) : Ans f (t + 1) l := by
  have e : places f 3 (t + 1) = places f 3 t := by rw [places_succ, if_neg hw, List.append_nil]
  exact ⟨by rw [e]; exact h.len, by rw [e]; exact h.at_⟩

theorem Ans.ask {l : List Bool} {b : Bool} (h : Ans f t l) (hw : (f t).1 = 3) (hb : b = true ↔ Conn (here f t) (f t).2.1.toNat (f t).2.2.toNat) : Ans f (t + 1) (l ++ [b]) := by
  have e : places f 3 (t + 1) = places f 3 t ++ [t] := by rw [places_succ, if_pos hw]
  refine ⟨by rw [e]; simp [h.len], fun j i hj => ?_⟩
  rw [e] at hj
  rcases Nat.lt_or_ge j (places f 3 t).length with q | q
  · rw [List.getElem?_append_left q] at hj
    rw [List.getElem?_append_left (by rw [h.len]; exact q)]
    exact h.at_ j i hj
  · rw [List.getElem?_append_right q] at hj
    rw [List.getElem?_append_right (by rw [h.len]; exact q), h.len]
    obtain ⟨r, hr⟩ : ∃ r, j - (places f 3 t).length = r := ⟨_, rfl⟩
    rw [hr] at hj ⊢
    cases r with
    | zero =>
      simp only [List.getElem?_cons_zero, Option.some.injEq] at hj ⊢
      subst hj
      exact hb
    | succ r => simp at hj

/-- Of each Add ahead of t, in order, its place, and till when its edge is there, of m events. -/
def spans (f : Nat → Int × Int × Int) (m t : Nat) : List (Nat × Nat) := (places f 1 t).map fun i => (i, til f m i)

theorem spans_add (hw : (f t).1 = 1) : spans f m (t + 1) = spans f m t ++ [(t, til f m t)] := by unfold spans; rw [places_succ, if_pos hw, List.map_append]; rfl
theorem spans_other (hw : (f t).1 ≠ 1) : spans f m (t + 1) = spans f m t := by unfold spans; rw [places_succ, if_neg hw, List.append_nil]

theorem erase_mid {A B : List (Nat × Nat)} (h : (A ++ e :: B).Nodup) : (A ++ e :: B).erase e = A ++ B := by
  have h1 : e ∉ A := fun q => (List.nodup_append.1 h).2.2 e q e List.mem_cons_self rfl
  rw [List.erase_append_right _ h1, List.erase_cons_head]

end Go.Proofs.YtcfemppdeidjmadGreat.As

namespace Go.Proofs.YtcfemppdeidjmadGreat.As
open Go.RowKit Go.Deep
open Go.RowKit (Below)
set_option linter.unusedVariables false

theorem Tryz.infoInt : (Tryz.prog.info? 3).map (fun i => (i.zero, i.size, i.bytes)) = some (some (.int .i64 0), 1, 8) := by kernel_rfl

theorem cell_keep {W w' : World} {p : Addr} {v : Value} (hb : Below W.heap.size W w') (h : W.cell? p = some v) : w'.cell? p = some v :=
  (hb.cell (World.block_lt_of_cell? _ _ h)).trans h
theorem below_step {w a b : World} (h1 : Below w.heap.size w a) (h2 : Below a.heap.size a b) : Below w.heap.size w b := h1.trans (h2.mono h1.size)
theorem below_drewN {w a : World} {n : Nat} (h : a = w.drewN n) : Below w.heap.size w a := by
  subst h
  induction n with
  | zero => exact Below.refl _ _
  | succ n ih => exact ih.drew

def ev (a b : Int) : Value := .agg #[.int .i64 a, .int .i64 b]

theorem cell_one_new (w : World) (v : Value) (t : TypeId) : ∀ k u, [v][k]? = some u → (w.alloc (.cells #[v] t)).cell? (Addr.add ⟨w.heap.size, 0, none⟩ k) = some u
  | 0, u, h => by simp at h; subst h; simp [Addr.add]
  | k + 1, u, h => by simp at h

variable {w w' : World} {p p' : Nat → Nat} {E E' : List (Nat × Nat)}

/-- An edge's two cells. -/
def two (e : Nat × Nat) : List Value := [.int .i64 (e.1 : Int), .int .i64 (e.2 : Int)]
def twos (l : List (Nat × Nat)) : List Value := l.flatMap two

theorem twos_len (l : List (Nat × Nat)) : (twos l).length = l.length * 2 := by
  induction l with
  | nil => rfl
  | cons e l ih => simp only [twos, List.flatMap_cons, List.length_append] at ih ⊢; rw [ih]; simp [two]; omega

theorem twos_snoc (l : List (Nat × Nat)) (e : Nat × Nat) : twos (l ++ [e]) = twos l ++ two e := by simp [twos]

set_option maxRecDepth 1000000 in
theorem Tryz.infoEdge : (Tryz.prog.info? 32).map (fun i => (i.zero, i.size, i.bytes)) = some (some (.agg #[.int .i64 0, .int .i64 0]), 2, 16) := by kernel_rfl

theorem twos_get : ∀ (ss : List (Nat × Nat)) (j : Nat), j < ss.length * 2 → (twos ss)[j]? = some ((two (ss.getD (j / 2) (0, 0))).getD (j % 2) undef)
  | [], j, h => by simp at h
  | e :: l, 0, _ => rfl
  | e :: l, 1, _ => rfl
  | e :: l, j + 2, h => by
    have ih := twos_get l j (by simp at h; omega)
    rw [show twos (e :: l) = two e ++ twos l by simp [twos], List.getElem?_append_right (by simp [two]), show j + 2 - (two e).length = j by simp [two], ih]
    rw [show (j + 2) / 2 = j / 2 + 1 by omega, show (j + 2) % 2 = j % 2 by omega]
    rfl

/-- A list of edges lies in memory. -/
structure EdgesAt (w : World) (a : Option Addr) (E : List (Nat × Nat)) : Prop where
  cell : ∀ i, i < E.length → ∃ b, a = some ⟨b, 0, none⟩ ∧ w.cell? ⟨b, i * 2, none⟩ = some (.int .i64 ((E.getD i (0, 0)).1 : Nat)) ∧ w.cell? ⟨b, i * 2 + 1, none⟩ = some (.int .i64 ((E.getD i (0, 0)).2 : Nat))

theorem own_edges {base n : Nat} {ty : TypeId} {v : Value} {F : List (Nat × Nat)} (h : w.ownsRow base ty 2 v n (twos F)) (hn : F.length = n) : ∃ a c, v = .slice a n c ∧ EdgesAt w a F ∧ n ≤ c ∧ c ≤ maxLen := by
  rcases h.2 with ⟨hv, h0⟩ | ⟨g', cap', cur, hv, hb, hg, h1, h2, h3, h4⟩
  · subst h0
    exact ⟨none, 0, hv, ⟨fun i hi => by omega⟩, Nat.le_refl _, Nat.zero_le _⟩
  · subst hv
    refine ⟨_, _, rfl, ⟨fun i hi => ⟨g', rfl, ?_, ?_⟩⟩, h1, h2⟩
    · have e := twos_get F (i * 2) (by omega)
      rw [← h4, List.getElem?_take, if_pos (by omega), show i * 2 / 2 = i by omega, show i * 2 % 2 = 0 by omega] at e
      simp only [World.cell?, hg]
      simpa [two] using e
    · have e := twos_get F (i * 2 + 1) (by omega)
      rw [← h4, List.getElem?_take, if_pos (by omega), show (i * 2 + 1) / 2 = i by omega, show (i * 2 + 1) % 2 = 1 by omega] at e
      simp only [World.cell?, hg]
      simpa [two] using e

theorem own_mono {base base' n s : Nat} {ty : TypeId} {v : Value} {xs : List Value} (h : w.ownsRow base ty s v n xs) (hb : base' ≤ base) : w.ownsRow base' ty s v n xs := by
  refine ⟨h.1, ?_⟩
  rcases h.2 with h0 | ⟨g, cap, cur, hv, h1, h2⟩
  · exact Or.inl h0
  · exact Or.inr ⟨g, cap, cur, hv, Nat.le_trans hb h1, h2⟩

theorem own_keep {base n s : Nat} {ty : TypeId} {v : Value} {xs : List Value} (h : w.ownsRow base ty s v n xs) (hb : Below w.heap.size w w') : w'.ownsRow base ty s v n xs := by
  refine ⟨h.1, ?_⟩
  rcases h.2 with h0 | ⟨g, cap, cur, hv, h1, h2, h3⟩
  · exact Or.inl h0
  · exact Or.inr ⟨g, cap, cur, hv, h1, (hb.block g (Array.getElem?_eq_some_iff.1 h2).1).trans h2, h3⟩

theorem EdgesAt.below {a : Option Addr} (h : EdgesAt w a E) (hb : Below w.heap.size w w') : EdgesAt w' a E := ⟨fun i hi => by
  obtain ⟨b, e, h1, h2⟩ := h.cell i hi
  exact ⟨b, e, cell_keep hb h1, cell_keep hb h2⟩⟩

theorem two_new (w : World) (x y : Nat) : ∀ j u, (two (x, y))[j]? = some u → (w.alloc (.cells #[.int .i64 (x : Int), .int .i64 (y : Int)] 32)).cell? (Addr.add ⟨w.heap.size, 0, none⟩ j) = some u := fun j u hj => by
  match j, hj with
  | 0, hj => cases hj; simp [Addr.add]
  | 1, hj => cases hj; simp [Addr.add]

/-- A list of numbers that may be written to. -/
structure Wr (w : World) (k n : Nat) (q : Nat → Nat) : Prop where
  cell : ∀ i, i < n → w.cell? ⟨k, i, none⟩ = some (.int .i64 (q i : Nat))
  free : ∀ i, i < n → w.frozen? ⟨k, i, none⟩ = false

theorem Wr.set {k n : Nat} {q : Nat → Nat} (h : Wr w k n q) (b x : Nat) (hb : b < n) : Wr (w.setCell ⟨k, b, none⟩ (.int .i64 (x : Nat))) k n (tell q b x) := by
  refine ⟨fun i hi => ?_, fun i hi => by rw [World.frozen?_setCell]; exact h.free i hi⟩
  unfold tell
  by_cases e : i = b
  · subst e
    rw [if_pos rfl]
    exact World.cell?_setCell_same (h := h.cell i hi) ..
  · rw [if_neg e]
    exact (World.cell?_setCell_other (h := by simp only [ne_eq, Addr.mk.injEq, not_and]; intro _ h1; exact absurd h1.symm e) ..).trans (h.cell i hi)

/-- The sum of such a list, read off the world. -/
def sumAt (w : World) (k n : Nat) : Nat := total (fun i => match w.cell? ⟨k, i, none⟩ with | some (.int _ x) => x.toNat | _ => 0) n

theorem Wr.sum {k n : Nat} {q : Nat → Nat} (h : Wr w k n q) : sumAt w k n = total q n := by
  unfold sumAt
  refine total_congr n fun i hi => ?_
  rw [h.cell i hi]
  exact Int.toNat_natCast _

theorem own_wr {base e cap k n : Nat} {q : Nat → Nat} (h : w.ownsRow base 3 1 (.slice (some ⟨k, 0, none⟩) n cap) n ((List.range n).map fun i => Value.int .i64 ((q i : Nat) : Int))) (hn : 0 < n) : Wr w k n q ∧ base ≤ k ∧ k < w.heap.size := by
  rcases h.2 with ⟨_, h0⟩ | ⟨g', cap', cur, hv, hb, hg, h1, h2, h3, h4⟩
  · omega
  · simp only [Value.slice.injEq, Option.some.injEq, Addr.mk.injEq, and_true, true_and] at hv
    obtain ⟨rfl, rfl⟩ := hv
    refine ⟨⟨fun i hi => ?_, fun i hi => by simp [World.frozen?, hg]⟩, hb, (Array.getElem?_eq_some_iff.1 hg).1⟩
    have e1 : (cur.toList.take (n * 1))[i]? = some (Value.int .i64 ((q i : Nat) : Int)) := by rw [h4]; simp [hi]
    rw [List.getElem?_take, if_pos (by omega)] at e1
    simp only [World.cell?, hg]
    simpa using e1

/-- Is this the edge of x and y? -/
def IsOf (e : Nat × Nat) (x y : Int) : Prop := (e.1 : Int) = min x y ∧ (e.2 : Int) = max x y

theorem edges_cells {b : Nat} (h : EdgesAt w (some ⟨b, 0, none⟩) E) (j : Nat) (u : Value) (hu : (twos E)[j]? = some u) : w.cell? ⟨b, j, none⟩ = some u := by
  have hj : j < E.length * 2 := by rw [← twos_len]; exact (List.getElem?_eq_some_iff.1 hu).1
  rw [twos_get E j hj] at hu
  obtain ⟨b', e, h1, h2⟩ := h.cell (j / 2) (by omega)
  simp only [Option.some.injEq, Addr.mk.injEq, and_true] at e
  subst e
  generalize E.getD (j / 2) (0, 0) = x at *
  rcases Nat.mod_two_eq_zero_or_one j with c | c
  · rw [c] at hu
    rw [show j / 2 * 2 = j by omega] at h1
    rw [h1, ← hu]; rfl
  · rw [c] at hu
    rw [show j / 2 * 2 + 1 = j by omega] at h2
    rw [h2, ← hu]; rfl

theorem two_one (l : List (Nat × Nat)) : ∀ u ∈ twos l, u.oneCell' = true := fun u hu => by
  simp only [twos, List.mem_flatMap, two, List.mem_cons, List.not_mem_nil, or_false] at hu
  obtain ⟨e, _, rfl | rfl⟩ := hu <;> rfl

theorem add_at (b i j : Nat) : (⟨b, i, none⟩ : Addr).add j = ⟨b, i + j, none⟩ := by unfold Addr.add; split <;> simp_all

theorem twos_app (A B : List (Nat × Nat)) : twos (A ++ B) = twos A ++ twos B := by simp [twos]

end Go.Proofs.YtcfemppdeidjmadGreat.As

namespace Go.Proofs.YtcfemppdeidjmadGreat.As
open Go.RowKit Go.Deep
open Go.RowKit (Below)
set_option linter.unusedVariables false

variable {w w' : World} {l : List Bool} {E : List (Nat × Nat)}

/-- A list of answers, as it lies in memory. -/
structure BoolsAt (w : World) (a : Option Addr) (n : Nat) (l : List Bool) : Prop where
  len : l.length = n
  cell : ∀ i, i < n → ∃ b o, a = some ⟨b, o, none⟩ ∧ w.cell? ⟨b, o + i, none⟩ = some (.bool (l.getD i false))

theorem BoolsAt.below {a : Option Addr} {n : Nat} (h : BoolsAt w a n l) (hb : Below w.heap.size w w') : BoolsAt w' a n l := ⟨h.len, fun i hi => by
  obtain ⟨b, o, e, q⟩ := h.cell i hi
  exact ⟨b, o, e, cell_keep hb q⟩⟩

/-- Two rows of different kinds: the one stays where the other grows. -/
theorem own_grown {base base' n n' s s' : Nat} {ty ty' : TypeId} {v v' : Value} {xs xs' : List Value} (h : w.ownsRow base ty s v n xs) (h' : w.ownsRow base' ty' s' v' n' xs') (hne : ty ≠ ty') (hg : w.grownBy w' v'.ownBlock) : w'.ownsRow base ty s v n xs := by
  refine ⟨h.1, ?_⟩
  rcases h.2 with h0 | ⟨g, cap, cur, hv, h1, h2, h3⟩
  · exact Or.inl h0
  · refine Or.inr ⟨g, cap, cur, hv, h1, ?_, h3⟩
    rw [hg.block g (Array.getElem?_eq_some_iff.1 h2).1 (fun e => ?_)]
    · exact h2
    · rcases h'.2 with ⟨q, _⟩ | ⟨g', cap', cur', hv', q1, q2, _⟩
      · rw [q] at e
        cases e
      · rw [hv'] at e
        cases e
        rw [h2] at q2
        cases q2
        exact hne rfl

/-- Answers as cells. -/
def bools (l : List Bool) : List Value := l.map Value.bool

theorem bools_snoc (l : List Bool) (b : Bool) : bools (l ++ [b]) = bools l ++ [.bool b] := by simp [bools]

theorem own_bools {base n : Nat} {v : Value} {l : List Bool} (h : w.ownsRow base 4 1 v n (bools l)) (hn : l.length = n) : ∃ a c, v = .slice a n c ∧ BoolsAt w a n l ∧ n ≤ c ∧ c ≤ maxLen := by
  rcases h.2 with ⟨hv, h0⟩ | ⟨g', cap', cur, hv, hb, hg, h1, h2, h3, h4⟩
  · subst h0
    exact ⟨none, 0, hv, ⟨hn, fun i hi => by omega⟩, Nat.le_refl _, Nat.zero_le _⟩
  · subst hv
    refine ⟨_, _, rfl, ⟨hn, fun i hi => ⟨g', 0, rfl, ?_⟩⟩, h1, h2⟩
    have hi2 : i < l.length := by omega
    have e1 : (cur.toList.take (n * 1))[i]? = some (Value.bool (l.getD i false)) := by
      rw [h4, bools, List.getElem?_map, List.getElem?_eq_getElem hi2, List.getD_eq_getElem?_getD, List.getElem?_eq_getElem hi2]; rfl
    rw [List.getElem?_take, if_pos (by omega)] at e1
    simp only [World.cell?, hg, Nat.zero_add]
    simpa using e1

/-- The same, of a slice that is told. -/
theorem own_at {base n c : Nat} {a : Option Addr} {l : List Bool} (h : w.ownsRow base 4 1 (.slice a n c) n (bools l)) (hn : l.length = n) : BoolsAt w a n l := by
  obtain ⟨a', c', e, q, _⟩ := own_bools h hn
  cases e
  exact q

set_option maxRecDepth 100000 in
theorem Tryz.infoBool : (Tryz.prog.info? 4).map (fun i => (i.zero, i.size, i.bytes)) = some (some (.bool false), 1, 1) := by kernel_rfl

/-- Events, as they lie in memory. -/
def EvAt (w : World) (a : Option Addr) (m : Nat) (f : Nat → Int × Int × Int) : Prop :=
  ∀ i, i < m → ∃ b o, a = some ⟨b, o, none⟩ ∧ w.cell? ⟨b, o + i * 3, none⟩ = some (.int .i64 (f i).1) ∧ w.cell? ⟨b, o + i * 3 + 1, none⟩ = some (.int .i64 (f i).2.1) ∧ w.cell? ⟨b, o + i * 3 + 2, none⟩ = some (.int .i64 (f i).2.2)

theorem EvAt.below {a : Option Addr} {m : Nat} {f : Nat → Int × Int × Int} (h : EvAt w a m f) (hb : Below w.heap.size w w') : EvAt w' a m f := fun i hi => by
  obtain ⟨b, o, e, h1, h2, h3⟩ := h i hi
  exact ⟨b, o, e, cell_keep hb h1, cell_keep hb h2, cell_keep hb h3⟩

/-- The nodes that are told are numbers of the machine. -/
def Fits (f : Nat → Int × Int × Int) (m : Nat) : Prop := ∀ i, i < m → (Lit.int .i64 (f i).2.1).wf = true ∧ (Lit.int .i64 (f i).2.2).wf = true

theorem Fits.of_may {f : Nat → Int × Int × Int} {n m : Nat} (hn : n ≤ 60) (h : ∀ j, j < m → May n f j) : Fits f m := fun i hi => by
  have h1 := (h i hi).a
  have h2 := (h i hi).b
  exact ⟨WalkArith.wf_i64 (by omega), WalkArith.wf_i64 (by omega)⟩

theorem Fits.less {f : Nat → Int × Int × Int} {m k : Nat} (h : Fits f m) (hk : k ≤ m) : Fits f k := fun i hi => h i (by omega)

end Go.Proofs.YtcfemppdeidjmadGreat.As
