/-
  Events, plain: the answers to the first events are the first answers; one Ask more between them changes no other answer.
-/
import Derived.Test.YtcfemppdeidjmacGreatF19
namespace Go.Proofs.YtcfemppdeidjmacGreat.As
set_option linter.unusedVariables false

variable {f g : Nat → Int × Int × Int} {x : Int × Int × Int} {n m t i j k : Nat}

/-- One event more, at a place. -/
def ins (f : Nat → Int × Int × Int) (k : Nat) (x : Int × Int × Int) : Nat → Int × Int × Int := fun i => if i < k then f i else if i = k then x else f (i - 1)

theorem ins_lt (h : i < k) : ins f k x i = f i := if_pos h
theorem ins_at : ins f k x k = x := by unfold ins; rw [if_neg (Nat.lt_irrefl _), if_pos rfl]
theorem ins_gt (h : k ≤ i) : ins f k x (i + 1) = f i := by unfold ins; rw [if_neg (by omega), if_neg (by omega), Nat.add_sub_cancel]

theorem eOf_congr (h : g j = f i) : eOf g j = eOf f i := by unfold eOf; rw [h]

theorem here_ins_le (f : Nat → Int × Int × Int) (x : Int × Int × Int) (k : Nat) : ∀ i, i ≤ k → here (ins f k x) i = here f i
  | 0, _ => rfl
  | i + 1, h => by
    have e : ins f k x i = f i := ins_lt (by omega)
    rw [here_succ, here_succ, here_ins_le f x k i (by omega), eOf_congr e, e]

theorem here_ins_gt (hx : x.1 = 3) : ∀ {i : Nat}, k ≤ i → here (ins f k x) (i + 1) = here f i := by
  intro i hi
  induction i with
  | zero =>
    obtain rfl : k = 0 := by omega
    rw [here_ask (by rw [ins_at, hx]; decide) (by rw [ins_at, hx]; decide)]
    exact here_ins_le f x 0 0 (Nat.le_refl _)
  | succ i ih =>
    rcases Nat.lt_or_ge i k with q | q
    · obtain rfl : k = i + 1 := by omega
      rw [here_ask (by rw [ins_at, hx]; decide) (by rw [ins_at, hx]; decide)]
      exact here_ins_le f x (i + 1) (i + 1) (Nat.le_refl _)
    · have e : ins f k x (i + 1) = f i := ins_gt q
      rw [here_succ (ins f k x) (i + 1), here_succ f i, ih q, eOf_congr e, e]

theorem may_congr (h : May n f i) (e : g j = f i) (eh : here g j = here f i) : May n g j := by
  have e2 := eOf_congr e
  exact ⟨by rw [e]; exact h.what, by rw [e]; exact h.a, by rw [e]; exact h.b, by rw [e]; exact h.ne, by rw [e, e2, eh]; exact h.add, by rw [e, e2, eh]; exact h.drop⟩

/-- With one Ask of two nodes more, all may still be. -/
theorem may_ins (h : ∀ j, j < m → May n f j) (hk : k ≤ m) (hx : x.1 = 3) (ha : 0 ≤ x.2.1 ∧ x.2.1 < n) (hb : 0 ≤ x.2.2 ∧ x.2.2 < n) : ∀ j, j < m + 1 → May n (ins f k x) j := fun j hj => by
  rcases Nat.lt_trichotomy j k with q | q | q
  · exact may_congr (h j (by omega)) (ins_lt q) (here_ins_le f x k j (by omega))
  · subst q
    exact may_ask (by unfold Sane; rw [ins_at]; exact ⟨by omega, ha, hb⟩) (by rw [ins_at]; exact hx)
  · obtain ⟨i, rfl⟩ : ∃ i, j = i + 1 := ⟨j - 1, by omega⟩
    exact may_congr (h i (by omega)) (ins_gt (by omega)) (here_ins_gt hx (by omega))

theorem places_more (f : Nat → Int × Int × Int) (w : Int) (k : Nat) : ∀ m, k ≤ m → ∃ r, places f w m = places f w k ++ r := by
  intro m hm
  induction m with
  | zero =>
    obtain rfl : k = 0 := by omega
    exact ⟨[], by simp⟩
  | succ m ih =>
    rcases Nat.lt_or_ge m k with q | q
    · obtain rfl : k = m + 1 := by omega
      exact ⟨[], by simp⟩
    · obtain ⟨r, hr⟩ := ih q
      exact ⟨r ++ if (f m).1 = w then [m] else [], by rw [places_succ, hr, List.append_assoc]⟩

theorem places_congr (h : ∀ i, i < t → g i = f i) (w : Int) : places g w t = places f w t := by
  unfold places
  refine List.filter_congr fun i hi => ?_
  rw [h i (List.mem_range.1 hi)]

theorem places_ins (hx : x.1 = 3) : ∀ {m : Nat}, k ≤ m → ∃ r, places f 3 m = places f 3 k ++ r ∧ places (ins f k x) 3 (m + 1) = places f 3 k ++ k :: r.map (· + 1) := by
  intro m hm
  have base : places (ins f k x) 3 (k + 1) = places f 3 k ++ [k] := by
    rw [places_succ, if_pos (by rw [ins_at]; exact hx), places_congr (fun i hi => ins_lt hi)]
  induction m with
  | zero =>
    obtain rfl : k = 0 := by omega
    exact ⟨[], by simp, by simpa using base⟩
  | succ m ih =>
    rcases Nat.lt_or_ge m k with q | q
    · obtain rfl : k = m + 1 := by omega
      exact ⟨[], by simp, by simpa using base⟩
    · obtain ⟨r, h1, h2⟩ := ih q
      refine ⟨r ++ if (f m).1 = 3 then [m] else [], by rw [places_succ, h1, List.append_assoc], ?_⟩
      rw [places_succ, h2, ins_gt q]
      by_cases h3 : (f m).1 = 3
      · rw [if_pos h3, if_pos h3]; simp
      · rw [if_neg h3, if_neg h3]; simp

/-- The answers to the first events are the first answers. -/
theorem Ans.first {l l1 : List Bool} (h : Ans f m l) (h1 : Ans f k l1) (hk : k ≤ m) : ∃ l2, l = l1 ++ l2 := by
  obtain ⟨r, hr⟩ := places_more f 3 k m hk
  refine ⟨l.drop l1.length, ?_⟩
  have hle : l1.length ≤ l.length := by rw [h.len, h1.len, hr, List.length_append]; omega
  have ht : Ans f k (l.take l1.length) := by
    refine ⟨by rw [List.length_take, h1.len]; rw [h1.len] at hle; omega, fun j i hj => ?_⟩
    have hj2 : j < (places f 3 k).length := (List.getElem?_eq_some_iff.1 hj).1
    rw [List.getElem?_take, if_pos (by rw [h1.len]; exact hj2)]
    exact h.at_ j i (by rw [hr, List.getElem?_append_left hj2]; exact hj)
  have e := ht.one h1
  have e2 := List.take_append_drop l1.length l
  rw [e] at e2
  exact e2.symm

/-- With one Ask more the others' answers stay. -/
theorem Ans.more {l1 l2 l' : List Bool} (h : Ans f m (l1 ++ l2)) (h1 : Ans f k l1) (hk : k ≤ m) (hx : x.1 = 3) (h' : Ans (ins f k x) (m + 1) l') : ∃ b, l' = l1 ++ b :: l2 := by
  obtain ⟨r, hr, hr'⟩ := places_ins (f := f) (x := x) hx hk
  obtain ⟨b, hb⟩ : ∃ b : Bool, b = true ↔ Conn (here f k) x.2.1.toNat x.2.2.toNat := by
    rcases Classical.em (Conn (here f k) x.2.1.toNat x.2.2.toNat) with q | q
    · exact ⟨true, by simp [q]⟩
    · exact ⟨false, by simp [q]⟩
  refine ⟨b, h'.one ?_⟩
  have hl2 : l2.length = r.length := by
    have := h.len
    rw [hr, List.length_append, List.length_append, h1.len] at this
    omega
  refine ⟨by rw [hr']; simp [h1.len, hl2], fun j i hj => ?_⟩
  rw [hr'] at hj
  rcases Nat.lt_trichotomy j (places f 3 k).length with q | q | q
  · rw [List.getElem?_append_left q] at hj
    rw [List.getElem?_append_left (by rw [h1.len]; exact q)]
    have hik : i < k := (mem_places.1 (List.mem_of_getElem? hj)).1
    rw [here_ins_le f x k i (by omega), ins_lt hik]
    exact h1.at_ j i hj
  · rw [List.getElem?_append_right (by omega)] at hj
    rw [List.getElem?_append_right (by rw [h1.len]; omega), h1.len, q, Nat.sub_self]
    rw [q, Nat.sub_self] at hj
    simp only [List.getElem?_cons_zero, Option.some.injEq] at hj ⊢
    subst hj
    rw [here_ins_le f x k k (Nat.le_refl _), ins_at]
    exact hb
  · rw [List.getElem?_append_right (by omega)] at hj
    rw [List.getElem?_append_right (by rw [h1.len]; omega), h1.len]
    obtain ⟨s, hs⟩ : ∃ s, j - (places f 3 k).length = s + 1 := ⟨j - (places f 3 k).length - 1, by omega⟩
    rw [hs] at hj ⊢
    rw [List.getElem?_cons_succ] at hj ⊢
    rw [List.getElem?_map] at hj
    obtain ⟨i', hi', rfl⟩ := Option.map_eq_some_iff.1 hj
    have hki : k ≤ i' := by
      have hm : i' ∈ places f 3 m := by rw [hr]; exact List.mem_append_right _ (List.mem_of_getElem? hi')
      rcases Nat.lt_or_ge i' k with q2 | q2
      · exfalso
        have hnd : (places f 3 m).Nodup := List.Pairwise.filter _ List.nodup_range
        rw [hr] at hnd
        exact (List.nodup_append.1 hnd).2.2 i' (mem_places.2 ⟨q2, (mem_places.1 hm).2⟩) i' (List.mem_of_getElem? hi') rfl
      · exact q2
    rw [here_ins_gt hx hki, ins_gt hki]
    have := h.at_ ((places f 3 k).length + s) i' (by rw [hr, List.getElem?_append_right (by omega), Nat.add_sub_cancel_left]; exact hi')
    rw [List.getElem?_append_right (by rw [h1.len]; omega), h1.len, Nat.add_sub_cancel_left] at this
    exact this

end Go.Proofs.YtcfemppdeidjmacGreat.As
