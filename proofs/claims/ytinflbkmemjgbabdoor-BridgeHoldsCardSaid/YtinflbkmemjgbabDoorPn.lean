/-
  Ways, plain: what is known while one node behind the other is reached; the lists of what is near rise; a ring out of a short way; where there is none each edge is a bridge.
-/
import Derived.Test.YtinflbkmemjgbabDoorBs
import Derived.Test.YtinflbkmemjgbabDoorPg
import Derived.Test.YtinflbkmemjgbabDoorPj
namespace Go.Proofs.YtinflbkmemjgbabDoor.Pt
open Go.Proofs.YtinflbkmemjgbabDoor.Br
set_option linter.unusedVariables false

variable {E : List (Nat × Nat)} {a b u v i j k n m : Nat} {Q : List Nat} {d : Nat → Int}

/-- What is known behind the first i of the reached nodes Q; d tells of each node how far it is, as far as it is known. -/
structure Reach (E : List (Nat × Nat)) (a : Nat) (Q : List Nat) (d : Nat → Int) (i : Nat) : Prop where
  head : Q[0]? = some a
  nd : Q.Nodup
  dist : ∀ x ∈ Q, ∃ k, Dist E a x k ∧ d x = (k : Nat)
  out : ∀ x, x ∉ Q → d x = -1
  done : ∀ p x y : Nat, p < i → Q[p]? = some x → Next E x y → y ∈ Q
  up : ∀ p q x y k j : Nat, p ≤ q → Q[p]? = some x → Q[q]? = some y → Dist E a x k → Dist E a y j → k ≤ j
  near : ∀ x k : Nat, Q[i]? = some x → Dist E a x k → ∀ y ∈ Q, ∀ j, Dist E a y j → j ≤ k + 1
  less : ∀ x k : Nat, Q[i]? = some x → Dist E a x k → ∀ y j : Nat, Dist E a y j → j < k → ∃ p, p < i ∧ Q[p]? = some y

theorem reach_start (E : List (Nat × Nat)) (a : Nat) : Reach E a [a] (fun x => if x = a then 0 else -1) 0 := by
  have one : ∀ (p x : Nat), [a][p]? = some x → p = 0 ∧ x = a := fun p x h => by
    cases p with
    | zero => simp at h; exact ⟨rfl, h.symm⟩
    | succ p => simp at h
  refine ⟨rfl, by simp, fun x hx => ?_, fun x hx => ?_, fun p x y hp => absurd hp (Nat.not_lt_zero _), fun p q x y k j _ h1 h2 h3 h4 => ?_, fun x k h1 h2 y hy j h3 => ?_, fun x k h1 h2 y j h3 h4 => ?_⟩
  · obtain rfl : x = a := by simpa using hx
    exact ⟨0, dist_self E x, by simp⟩
  · have : x ≠ a := by simpa using hx
    simp [this]
  · obtain ⟨_, rfl⟩ := one _ _ h1
    obtain ⟨_, rfl⟩ := one _ _ h2
    rw [h3.one h4]; exact Nat.le_refl _
  · obtain rfl : y = a := by simpa using hy
    rw [h3.one (dist_self E y)]; omega
  · obtain ⟨_, rfl⟩ := one _ _ h1
    rw [h2.one (dist_self E x)] at h4
    omega

theorem Reach.lt (h : Reach E a Q d i) (hi : i < Q.length) : ∃ u, Q[i]? = some u ∧ u ∈ Q := ⟨_, List.getElem?_eq_getElem hi, List.getElem_mem hi⟩

/-- A node is reached. -/
theorem Reach.push (h : Reach E a Q d i) (hu : Q[i]? = some u) (hn : Next E u v) (hv : v ∉ Q) (hk : d u = (k : Nat)) : Reach E a (Q ++ [v]) (put d v ((k + 1 : Nat) : Int)) i := by
  have huQ : u ∈ Q := List.mem_of_getElem? hu
  obtain ⟨k', hd, hk'⟩ := h.dist u huQ
  obtain rfl : k' = k := by omega
  have hdv : Dist E a v (k' + 1) := by
    obtain ⟨j, hj, hjk⟩ := hd.near (c := v) hn.symm
    rcases Nat.lt_or_ge j (k' + 1) with q | q
    · exfalso
      cases j with
      | zero =>
        obtain rfl := dist_zero hj
        exact hv (List.mem_of_getElem? h.head)
      | succ j =>
        obtain ⟨c, h1, h2⟩ := hj.next
        obtain ⟨p, hp, hc⟩ := h.less u k' hu hd c j h2 (by omega)
        exact hv (h.done p c v hp hc h1.symm)
    · obtain rfl : j = k' + 1 := by omega
      exact hj
  have hi : i < Q.length := (List.getElem?_eq_some_iff.1 hu).1
  have old : ∀ p, p < Q.length → (Q ++ [v])[p]? = Q[p]? := fun p hp => List.getElem?_append_left hp
  have oldi : (Q ++ [v])[i]? = Q[i]? := old i hi
  have part : ∀ p x, (Q ++ [v])[p]? = some x → (p < Q.length ∧ Q[p]? = some x) ∨ (p = Q.length ∧ x = v) := fun p x hx => by
    rcases Nat.lt_or_ge p Q.length with q | q
    · exact Or.inl ⟨q, by rw [← old p q]; exact hx⟩
    · have hl := (List.getElem?_eq_some_iff.1 hx).1
      rw [List.length_append, List.length_singleton] at hl
      obtain rfl : p = Q.length := by omega
      rw [List.getElem?_append_right (Nat.le_refl _), Nat.sub_self] at hx
      simp at hx
      exact Or.inr ⟨rfl, hx.symm⟩
  refine ⟨by rw [old 0 (by omega)]; exact h.head, ?_, fun x hx => ?_, fun x hx => ?_, fun p x y hp hx hxy => ?_, fun p q x y k1 k2 hpq h1 h2 h3 h4 => ?_, fun x k1 h1 h2 y hy j hj => ?_, fun x k1 h1 h2 y j hj hlt => ?_⟩
  · rw [List.nodup_append]
    refine ⟨h.nd, by simp, fun x hx y hy e => ?_⟩
    obtain rfl : y = v := by simpa using hy
    exact hv (e ▸ hx)
  · rcases List.mem_append.1 hx with q | q
    · obtain ⟨j, h1, h2⟩ := h.dist x q
      exact ⟨j, h1, (put_other (fun e : x = v => hv (e ▸ q))).trans h2⟩
    · obtain rfl : x = v := by simpa using q
      exact ⟨k' + 1, hdv, put_same⟩
  · rw [List.mem_append, not_or] at hx
    rw [put_other (by simpa using hx.2)]
    exact h.out x hx.1
  · rw [old p (by omega)] at hx
    exact List.mem_append_left _ (h.done p x y hp hx hxy)
  · rcases part p x h1 with ⟨p1, p2⟩ | ⟨rfl, rfl⟩
    · rcases part q y h2 with ⟨q1, q2⟩ | ⟨rfl, rfl⟩
      · exact h.up p q x y k1 k2 hpq p2 q2 h3 h4
      · rw [h4.one hdv]
        exact h.near u k' hu hd x (List.mem_of_getElem? p2) k1 h3
    · rcases part q y h2 with ⟨q1, q2⟩ | ⟨rfl, rfl⟩
      · omega
      · rw [h3.one h4]; exact Nat.le_refl _
  · rw [oldi, hu] at h1
    cases h1
    rw [h2.one hd]
    rcases List.mem_append.1 hy with q | q
    · exact h.near u k' hu hd y q j hj
    · obtain rfl : y = v := by simpa using q
      rw [hj.one hdv]; exact Nat.le_refl _
  · rw [oldi] at h1
    obtain ⟨p, hp, hq⟩ := h.less x k1 h1 h2 y j hj hlt
    exact ⟨p, hp, by rw [old p (by omega)]; exact hq⟩

/-- All that is near this node is reached: the next one is to be looked at. -/
theorem Reach.step (h : Reach E a Q d i) (hu : Q[i]? = some u) (hn : ∀ y, Next E u y → y ∈ Q) : Reach E a Q d (i + 1) := by
  have huQ : u ∈ Q := List.mem_of_getElem? hu
  obtain ⟨k, hd, hk⟩ := h.dist u huQ
  have hdone : ∀ p x y, p < i + 1 → Q[p]? = some x → Next E x y → y ∈ Q := fun p x y hp hx hxy => by
    rcases Nat.lt_or_ge p i with q | q
    · exact h.done p x y q hx hxy
    · obtain rfl : p = i := by omega
      rw [hu] at hx
      cases hx
      exact hn y hxy
  refine ⟨h.head, h.nd, h.dist, h.out, hdone, h.up, fun x k1 h1 h2 y hy j hj => ?_, fun x k1 h1 h2 y j hj hlt => ?_⟩
  · have hkk := h.up i (i + 1) u x k k1 (by omega) hu h1 hd h2
    have := h.near u k hu hd y hy j hj
    omega
  · have hkk := h.up i (i + 1) u x k k1 (by omega) hu h1 hd h2
    have hk1 := h.near u k hu hd x (List.mem_of_getElem? h1) k1 h2
    rcases Nat.lt_or_ge j k with q | q
    · obtain ⟨p, hp, hq⟩ := h.less u k hu hd y j hj q
      exact ⟨p, by omega, hq⟩
    · obtain rfl : j = k := by omega
      cases j with
      | zero =>
        obtain rfl := dist_zero hj
        exact ⟨0, by omega, h.head⟩
      | succ j =>
        obtain ⟨c, c1, c2⟩ := hj.next
        obtain ⟨p, hp, hc⟩ := h.less u (j + 1) hu hd c j c2 (by omega)
        have hyQ := h.done p c y hp hc c1.symm
        obtain ⟨r, hr, he⟩ := List.mem_iff_getElem.1 hyQ
        have hr' : Q[r]? = some y := by rw [List.getElem?_eq_getElem hr, he]
        rcases Nat.lt_or_ge r (i + 1) with z | z
        · exact ⟨r, z, hr'⟩
        · have := h.up (i + 1) r x y k1 (j + 1) z h1 hr' h2 hj
          omega

/-- All that was reached was looked at: all is known. -/
theorem Reach.far (h : Reach E a Q d Q.length) (x : Nat) : Far E a x (d x) := by
  by_cases hx : x ∈ Q
  · obtain ⟨k, h1, h2⟩ := h.dist x hx
    exact Or.inl ⟨k, h1, h2⟩
  · refine Or.inr ⟨fun k hk => ?_, h.out x hx⟩
    have key : ∀ (k x : Nat), Walk E a x k → x ∈ Q := by
      intro k
      induction k with
      | zero =>
        intro x hw
        rw [hw.zero]
        exact List.mem_of_getElem? h.head
      | succ k ih =>
        intro x hw
        obtain ⟨c, h1, h2⟩ := hw.parts
        obtain ⟨p, hp, he⟩ := List.mem_iff_getElem.1 (ih c h2)
        exact h.done p c x hp (by rw [List.getElem?_eq_getElem hp, he]) h1.symm
    exact hx (key k x hk)

theorem Reach.few (h : Reach E a Q d i) (hE : Among n E) (ha : a < n) : Q.length ≤ n := by
  have := pigeon (f := id) Q (List.range n) h.nd (fun x _ y _ e => e) (fun x hx => by
    obtain ⟨k, h1, _⟩ := h.dist x hx
    exact List.mem_range.2 (walk_lt hE h1.1 ha))
  simpa using this

theorem Reach.among (h : Reach E a Q d i) (hE : Among n E) (ha : a < n) {x : Nat} (hx : x ∈ Q) : x < n := by
  obtain ⟨k, h1, _⟩ := h.dist x hx
  exact walk_lt hE h1.1 ha

theorem Reach.known (h : Reach E a Q d i) (x : Nat) : d x = -1 ↔ x ∉ Q := by
  constructor
  · intro e hx
    obtain ⟨k, _, h2⟩ := h.dist x hx
    omega
  · exact h.out x

/-- The list of what is near rises. -/
theorem nbl_up (hu : Up E) (hlt : ∀ e ∈ E, e.1 < e.2) (i : Nat) : (nbl E i).Pairwise (· < ·) := by
  unfold nbl
  rw [List.pairwise_flatMap]
  refine ⟨fun e _ => ?_, ?_⟩
  · split
    · simp
    · split <;> simp
  · refine List.Pairwise.imp_of_mem (fun {x y} hx hy hxy => ?_) hu
    have h1 := hlt x hx
    have h2 := hlt y hy
    intro p hp q hq
    split at hp
    · split at hq
      · simp at hp hq; omega
      · split at hq
        · simp at hp hq; omega
        · cases hq
    · split at hp
      · split at hq
        · simp at hp hq; omega
        · split at hq
          · simp at hp hq; omega
          · cases hq
      · cases hp

/-- The first node in the list that is nearer by one is the right one. -/
theorem first_near (hp : (nbl E u).Pairwise (· < ·)) (hN : ∀ y, Next E u y ↔ y ∈ nbl E u) {g : Nat} (hj : (nbl E u)[j]? = some v) (hv : Dist E b v g) (hno : ∀ y ∈ (nbl E u).take j, ¬ Dist E b y g) : ∀ c, Next E u c → Dist E b c g → v ≤ c := by
  intro c h1 h2
  obtain ⟨p, hpl, he⟩ := List.mem_iff_getElem.1 ((hN c).1 h1)
  obtain ⟨hjl, hje⟩ := List.getElem?_eq_some_iff.1 hj
  rcases Nat.lt_trichotomy p j with q | q | q
  · exact absurd h2 (hno c (by rw [List.mem_take_iff_getElem]; exact ⟨p, by omega, he⟩))
  · subst q
    rw [← hje, ← he]; exact Nat.le_refl _
  · have := List.pairwise_iff_getElem.1 hp j p hjl hpl q
    omega

/-- A ring out of a short way beside an edge. -/
theorem ring_way {F : List (Nat × Nat)} {L : List Nat} (hs : ∀ e ∈ F, e ∈ E) (hlt : ∀ e ∈ E, e.1 < e.2) (he : (u, v) ∈ E) (hno : (u, v) ∉ F) (hw : Way F v u k L) (hd : Dist F v u k) : Ring E (k + 1) (fun i => L.getD i 0) := by
  have huv := hlt _ he
  simp only at huv
  have h2 : 2 ≤ k := by
    match k, hd with
    | 0, hd => have := dist_zero hd; omega
    | 1, hd =>
      obtain ⟨c, h1, h2⟩ := hd.1.parts
      obtain rfl := h2.zero
      rcases h1 with h1 | h1
      · exact absurd h1 hno
      · have := hlt _ (hs _ h1)
        simp only at this
        omega
    | k + 2, _ => omega
  refine ⟨by omega, fun x y hx hy e => ?_, fun x hx => ?_⟩
  · rcases Nat.lt_trichotomy x y with q | q | q
    · exact absurd e (hw.once hd q (by omega))
    · exact q
    · exact absurd e.symm (hw.once hd q (by omega))
  · rcases Nat.lt_or_ge x k with q | q
    · rw [Nat.mod_eq_of_lt (by omega)]
      exact (hw.next x q).imp (hs _) (hs _)
    · obtain rfl : x = k := by omega
      rw [Nat.mod_self]
      show Next E (L.getD x 0) (L.getD 0 0)
      rw [hw.last hd, hw.first]
      exact Or.inr he

/-- Each edge joins what was not joined by those ahead of it: each is a bridge. -/
theorem fresh_bridges (hu : Up E) (hf : ∀ j x y, E[j]? = some (x, y) → ¬ Conn (E.take j) x y) : ∀ e ∈ E, Bridge E e := by
  have key : ∀ j, j ≤ E.length → ∀ e ∈ E.take j, Bridge (E.take j) e := by
    intro j
    induction j with
    | zero => intro _ e he; simp at he
    | succ j ih =>
      intro hj e he
      obtain ⟨⟨x, y⟩, hxy⟩ : ∃ g, E[j]? = some g := ⟨_, List.getElem?_eq_getElem (by omega)⟩
      have ht : E.take (j + 1) = E.take j ++ [(x, y)] := by rw [List.take_add_one, hxy]; rfl
      have hup : Up (E.take (j + 1)) := List.Pairwise.sublist (List.take_sublist _ _) hu
      rw [ht] at he hup ⊢
      have hn := hf j x y hxy
      generalize E.take j = T at *
      have hnot : (x, y) ∉ T := fun q => hn (conn_edge q)
      rcases List.mem_append.1 he with q | q
      · have hb := ih (by omega) e q
        intro hc
        rw [List.erase_append_left _ q] at hc
        rcases (conn_out (B := [])).1 hc with z | ⟨z1, z2⟩ | ⟨z1, z2⟩
        · rw [List.append_nil] at z; exact hb z
        · rw [List.append_nil] at z1 z2
          have m1 := conn_mono (E' := T) (fun z hz => List.mem_of_mem_erase hz) z1
          have m2 := conn_mono (E' := T) (fun z hz => List.mem_of_mem_erase hz) z2
          have m3 : Conn T e.1 e.2 := conn_edge q
          exact hn ((conn_eqv T).trans ((conn_eqv T).symm m1) ((conn_eqv T).trans m3 ((conn_eqv T).symm m2)))
        · rw [List.append_nil] at z1 z2
          have m1 := conn_mono (E' := T) (fun z hz => List.mem_of_mem_erase hz) z1
          have m2 := conn_mono (E' := T) (fun z hz => List.mem_of_mem_erase hz) z2
          have m3 : Conn T e.1 e.2 := conn_edge q
          exact hn ((conn_eqv T).trans m2 ((conn_eqv T).trans ((conn_eqv T).symm m3) m1))
      · obtain rfl : e = (x, y) := by simpa using q
        intro hc
        rw [List.erase_append_right _ hnot] at hc
        simp at hc
        exact hn hc
  have := key E.length (Nat.le_refl _)
  rwa [List.take_length] at this

end Go.Proofs.YtinflbkmemjgbabDoor.Pt
