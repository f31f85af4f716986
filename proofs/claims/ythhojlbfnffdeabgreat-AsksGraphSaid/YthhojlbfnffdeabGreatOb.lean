/-
  Events, plain: which of them is wrong first, and how; what is answered; from when till when each edge is there.
-/
import Derived.Test.YthhojlbfnffdeabGreatOa
namespace Go.Proofs.YthhojlbfnffdeabGreat.As
set_option linter.unusedVariables false

variable {f : Nat → Int × Int × Int} {m t i j k k' : Nat} {e : Nat × Nat} {x x' : Int}

/-- What is done is something, and both are nodes. -/
def Sane (n : Nat) (f : Nat → Int × Int × Int) (k : Nat) : Prop := (1 ≤ (f k).1 ∧ (f k).1 ≤ 3) ∧ (0 ≤ (f k).2.1 ∧ (f k).2.1 < n) ∧ 0 ≤ (f k).2.2 ∧ (f k).2.2 < n

/-- What is wrong of an event. -/
def Bad (n : Nat) (f : Nat → Int × Int × Int) (k : Nat) (x : Int) : Prop :=
  (¬ Sane n f k ∧ x = 1) ∨ (Sane n f k ∧ (f k).1 ≠ 3 ∧ (f k).2.1 = (f k).2.2 ∧ x = 2) ∨ (Sane n f k ∧ (f k).1 = 1 ∧ (f k).2.1 ≠ (f k).2.2 ∧ eOf f k ∈ here f k ∧ x = 6) ∨ (Sane n f k ∧ (f k).1 = 2 ∧ (f k).2.1 ≠ (f k).2.2 ∧ eOf f k ∉ here f k ∧ x = 4)

theorem May.sane {n : Nat} (h : May n f k) : Sane n f k := ⟨h.what, h.a, h.b⟩

theorem may_ask {n : Nat} (h : Sane n f k) (h3 : (f k).1 = 3) : May n f k := ⟨h.1, h.2.1, h.2.2, fun q => absurd h3 q, fun q => by omega, fun q => by omega⟩
theorem may_add {n : Nat} (h : Sane n f k) (h1 : (f k).1 = 1) (hne : (f k).2.1 ≠ (f k).2.2) (hn : eOf f k ∉ here f k) : May n f k := ⟨h.1, h.2.1, h.2.2, fun _ => hne, fun _ => hn, fun q => by omega⟩
theorem may_drop {n : Nat} (h : Sane n f k) (h2 : (f k).1 = 2) (hne : (f k).2.1 ≠ (f k).2.2) (hn : eOf f k ∈ here f k) : May n f k := ⟨h.1, h.2.1, h.2.2, fun _ => hne, fun q => by omega, fun _ => hn⟩

theorem Bad.not {n : Nat} (h : Bad n f k x) : ¬ May n f k := by
  intro q
  rcases h with ⟨h, _⟩ | ⟨_, h1, h2, _⟩ | ⟨_, h1, _, h2, _⟩ | ⟨_, h1, _, h2, _⟩
  · exact h q.sane
  · exact q.ne h1 h2
  · exact q.add h1 h2
  · exact h2 (q.drop h1)

theorem Bad.one {n : Nat} (h : Bad n f k x) (h' : Bad n f k x') : x = x' := by
  rcases h with ⟨a1, a2⟩ | ⟨a1, a2, a3, a4⟩ | ⟨a1, a2, a3, a4, a5⟩ | ⟨a1, a2, a3, a4, a5⟩ <;> rcases h' with ⟨b1, b2⟩ | ⟨b1, b2, b3, b4⟩ | ⟨b1, b2, b3, b4, b5⟩ | ⟨b1, b2, b3, b4, b5⟩
  all_goals first
    | omega
    | exact absurd b1 a1
    | exact absurd a1 b1
    | exact absurd a4 b4
    | exact absurd b4 a4

theorem Bad.pos {n : Nat} (h : Bad n f k x) : x ≠ 0 := by
  rcases h with ⟨_, h⟩ | ⟨_, _, _, h⟩ | ⟨_, _, _, _, h⟩ | ⟨_, _, _, _, h⟩ <;> omega

/-- Of m events at n nodes: the place of the first one that is wrong, and how. -/
def EFault (n : Int) (m : Nat) (f : Nat → Int × Int × Int) (k : Nat) (x : Int) : Prop :=
  ((n < 1 ∨ 60 < n) ∧ k = 0 ∧ x = 1) ∨ ((1 ≤ n ∧ n ≤ 60) ∧ 120 < m ∧ k = 0 ∧ x = 3) ∨
  ((1 ≤ n ∧ n ≤ 60) ∧ m ≤ 120 ∧ k < m ∧ (∀ j, j < k → May n.toNat f j) ∧ Bad n.toNat f k x) ∨ ((1 ≤ n ∧ n ≤ 60) ∧ m ≤ 120 ∧ (∀ j, j < m → May n.toNat f j) ∧ k = 0 ∧ x = 0)

theorem EFault.one {n : Int} (h : EFault n m f k x) (h' : EFault n m f k' x') : k = k' ∧ x = x' := by
  rcases h with ⟨a1, a2, a3⟩ | ⟨a1, a2, a3, a4⟩ | ⟨a1, a2, a3, a4, a5⟩ | ⟨a1, a2, a3, a4, a5⟩ <;> rcases h' with ⟨b1, b2, b3⟩ | ⟨b1, b2, b3, b4⟩ | ⟨b1, b2, b3, b4, b5⟩ | ⟨b1, b2, b3, b4, b5⟩
  case inr.inr.inl.inr.inr.inl =>
    rcases Nat.lt_trichotomy k k' with q | q | q
    · exact absurd (b4 k q) a5.not
    · subst q
      exact ⟨rfl, a5.one b5⟩
    · exact absurd (a4 k' q) b5.not
  case inr.inr.inl.inr.inr.inr => exact absurd (b3 k a3) a5.not
  case inr.inr.inr.inr.inr.inl => exact absurd (a3 k' b3) b5.not
  all_goals omega

theorem EFault.ok {n : Int} (h : EFault n m f k 0) : (1 ≤ n ∧ n ≤ 60) ∧ m ≤ 120 ∧ (∀ j, j < m → May n.toNat f j) ∧ k = 0 := by
  rcases h with ⟨_, _, h⟩ | ⟨_, _, _, h⟩ | ⟨_, _, _, _, h⟩ | ⟨h1, h2, h3, h4, _⟩
  · omega
  · omega
  · exact absurd rfl h.pos
  · exact ⟨h1, h2, h3, h4⟩

theorem EFault.none {n : Int} (h : EFault n m f k x) (hx : x ≠ 0) : ¬ ((1 ≤ n ∧ n ≤ 60) ∧ m ≤ 120 ∧ ∀ j, j < m → May n.toNat f j) := by
  rintro ⟨h1, h2, h3⟩
  have h4 : EFault n m f 0 0 := Or.inr (Or.inr (Or.inr ⟨h1, h2, h3, rfl, rfl⟩))
  exact hx (h.one h4).2

/-- The answers to the first t events: of each Ask, in order, whether its nodes are joined by what is there then. -/
structure Ans (f : Nat → Int × Int × Int) (t : Nat) (l : List Bool) : Prop where
  len : l.length = (places f 3 t).length
  at_ : ∀ (j i : Nat), (places f 3 t)[j]? = some i → (l[j]? = some true ↔ Conn (here f i) (f i).2.1.toNat (f i).2.2.toNat)

theorem Ans.one {l l' : List Bool} (h : Ans f t l) (h' : Ans f t l') : l = l' := by
  refine List.ext_getElem? fun j => ?_
  rcases Nat.lt_or_ge j (places f 3 t).length with q | q
  · have e := List.getElem?_eq_getElem q
    have q1 := h.at_ j _ e
    have q2 := h'.at_ j _ e
    have r1 : j < l.length := by rw [h.len]; exact q
    have r2 : j < l'.length := by rw [h'.len]; exact q
    rw [List.getElem?_eq_getElem r1] at q1 ⊢
    rw [List.getElem?_eq_getElem r2] at q2 ⊢
    have q3 := q1.trans q2.symm
    simp only [Option.some.injEq] at q3 ⊢
    rw [Bool.eq_iff_iff]
    exact q3
  · rw [List.getElem?_eq_none (by rw [h.len]; exact q), List.getElem?_eq_none (by rw [h'.len]; exact q)]

theorem Ans.nil (f : Nat → Int × Int × Int) : Ans f 0 [] := ⟨rfl, fun j i h => by simp [places] at h⟩

theorem Ans.other {l : List Bool} (h : Ans f t l) (hw : (f t).1 ≠ 3) : Ans f (t + 1) l := by
  have e : places f 3 (t + 1) = places f 3 t := by rw [places_succ, if_neg hw, List.append_nil]
  exact ⟨by rw [e]; exact h.len, by rw [e]; exact h.at_⟩

theorem Ans.ask {l : List Bool} {b : Bool} (h : Ans f t l) (hw : (f t).1 = 3) (hb : b = true ↔ Conn (here f t) (f t).2.1.toNat (f t).2.2.toNat) : Ans f (t + 1) (l ++ [b]) := by
  have e : places f 3 (t + 1) = places f 3 t ++ [t] := by rw [places_succ, if_pos hw]
  refine ⟨by rw [e]; simp [h.len], fun j i hj => ?_⟩
  rw [e] at hj
  rcases Nat.lt_or_ge j (places f 3 t).length with q | q
  · rw [List.getElem?_append_left q] at hj
    rw [List.getElem?_append_left (by rw [h.len]; exact q)]
    exact h.at_ j i hj
  · rw [List.getElem?_append_right q] at hj
    rw [List.getElem?_append_right (by rw [h.len]; exact q), h.len]
    obtain ⟨r, hr⟩ : ∃ r, j - (places f 3 t).length = r := ⟨_, rfl⟩
    rw [hr] at hj ⊢
    cases r with
    | zero =>
      simp only [List.getElem?_cons_zero, Option.some.injEq] at hj ⊢
      subst hj
      exact hb
    | succ r => simp at hj

/-- Of each Add ahead of t, in order, its place, and till when its edge is there, of m events. -/
def spans (f : Nat → Int × Int × Int) (m t : Nat) : List (Nat × Nat) := (places f 1 t).map fun i => (i, til f m i)

theorem spans_add (hw : (f t).1 = 1) : spans f m (t + 1) = spans f m t ++ [(t, til f m t)] := by unfold spans; rw [places_succ, if_pos hw, List.map_append]; rfl
theorem spans_other (hw : (f t).1 ≠ 1) : spans f m (t + 1) = spans f m t := by unfold spans; rw [places_succ, if_neg hw, List.append_nil]

theorem erase_mid {A B : List (Nat × Nat)} (h : (A ++ e :: B).Nodup) : (A ++ e :: B).erase e = A ++ B := by
  have h1 : e ∉ A := fun q => (List.nodup_append.1 h).2.2 e q e List.mem_cons_self rfl
  rw [List.erase_append_right _ h1, List.erase_cons_head]

end Go.Proofs.YthhojlbfnffdeabGreat.As
