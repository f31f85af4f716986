/-
  Ways, plain: how far is told on along one edge; the first of the shortest ways.
-/
import Derived.Test.YtinflbkmemjgbabDoorPa
namespace Go.Proofs.YtinflbkmemjgbabDoor.Pt
open Go.Proofs.YtinflbkmemjgbabDoor.Br
set_option linter.unusedVariables false

variable {E : List (Nat × Nat)} {a b c i j k n m t u v : Nat} {d : Nat → Int} {x : Int}

/-- One number is another. -/
def put (d : Nat → Int) (i : Nat) (x : Int) : Nat → Int := fun j => if j = i then x else d j

theorem put_same : put d i x i = x := if_pos rfl
theorem put_other (h : j ≠ i) : put d i x j = d j := if_neg h

theorem Known.at_k (h : Known E b k t i x) : x = (k : Nat) ↔ Dist E b i k := by
  constructor
  · intro e
    rcases h with ⟨j, h1, h2, h3⟩ | ⟨_, _, h3⟩ | ⟨_, _, h3⟩
    · obtain rfl : j = k := by omega
      exact h1
    · omega
    · omega
  · intro hd
    rcases h with ⟨j, h1, h2, h3⟩ | ⟨h1, _, h3⟩ | ⟨h1, _, h3⟩
    · rw [h3, h1.one hd]
    · have := h1.one hd; omega
    · exact absurd hd (h1 k (Nat.le_refl _))

theorem Known.neg (h : Known E b k t i x) (hx : x < 0) : (∀ j, j ≤ k → ¬ Dist E b i j) ∧ x = -1 := by
  rcases h with ⟨j, h1, h2, h3⟩ | ⟨_, _, h3⟩ | ⟨h1, _, h3⟩
  · omega
  · omega
  · exact ⟨h1, h3⟩

/-- Nothing is told on along this edge to that node. -/
theorem Known.keep (h : Known E b k t i x) (he : E[t]? = some (u, v)) (h1 : i = u → Dist E b v k → ¬ x < 0) (h2 : i = v → Dist E b u k → ¬ x < 0) : Known E b k (t + 1) i x := by
  rcases h with h | ⟨a1, ⟨s, e, a2, a3⟩, a4⟩ | ⟨a1, a2, a3⟩
  · exact Or.inl h
  · exact Or.inr (Or.inl ⟨a1, ⟨s, e, by omega, a3⟩, a4⟩)
  · refine Or.inr (Or.inr ⟨a1, fun hd s e hs hse => ?_, a3⟩)
    rcases Nat.lt_or_ge s t with q | q
    · exact a2 hd s e q hse
    · obtain rfl : s = t := by omega
      rw [he] at hse
      cases hse
      rintro (⟨r1, r2⟩ | ⟨r1, r2⟩)
      · exact h1 r1.symm r2 (by omega)
      · exact h2 r1.symm r2 (by omega)

theorem known_v (h : ∀ i, Known E b k t i (d i)) (he : E[t]? = some (u, v)) (hne : u ≠ v) (hu : d u = (k : Nat)) (hv : d v < 0) : ∀ i, Known E b k (t + 1) i (put d v ((k + 1 : Nat) : Int) i) := fun i => by
  have hdu := (h u).at_k.1 hu
  have hn := ((h v).neg hv).1
  have hmem : (u, v) ∈ E := List.mem_of_getElem? he
  by_cases hi : i = v
  · subst hi
    rw [put_same]
    obtain ⟨j, hj, hjk⟩ := hdu.near (c := i) (Or.inr hmem)
    have : j = k + 1 := by
      rcases Nat.lt_or_ge j (k + 1) with q | q
      · exact absurd hj (hn j (by omega))
      · omega
    subst this
    exact Or.inr (Or.inl ⟨hj, ⟨t, (u, i), by omega, he, Or.inr ⟨rfl, hdu⟩⟩, rfl⟩)
  · rw [put_other hi]
    refine (h i).keep he (fun e hd => ?_) (fun e _ => absurd e hi)
    exact absurd hd (hn k (Nat.le_refl _))

theorem known_u (h : ∀ i, Known E b k t i (d i)) (he : E[t]? = some (u, v)) (hne : u ≠ v) (hv : d v = (k : Nat)) (hu : d u < 0) : ∀ i, Known E b k (t + 1) i (put d u ((k + 1 : Nat) : Int) i) := fun i => by
  have hdv := (h v).at_k.1 hv
  have hn := ((h u).neg hu).1
  have hmem : (u, v) ∈ E := List.mem_of_getElem? he
  by_cases hi : i = u
  · subst hi
    rw [put_same]
    obtain ⟨j, hj, hjk⟩ := hdv.near (c := i) (Or.inl hmem)
    have : j = k + 1 := by
      rcases Nat.lt_or_ge j (k + 1) with q | q
      · exact absurd hj (hn j (by omega))
      · omega
    subst this
    exact Or.inr (Or.inl ⟨hj, ⟨t, (i, v), by omega, he, Or.inl ⟨rfl, hdv⟩⟩, rfl⟩)
  · rw [put_other hi]
    refine (h i).keep he (fun e _ => absurd e hi) (fun e hd => ?_)
    exact absurd hd (hn k (Nat.le_refl _))

theorem known_none (h : ∀ i, Known E b k t i (d i)) (he : E[t]? = some (u, v)) (h1 : ¬ (d u = (k : Nat) ∧ d v < 0)) (h2 : ¬ (d v = (k : Nat) ∧ d u < 0)) : ∀ i, Known E b k (t + 1) i (d i) := fun i => by
  refine (h i).keep he (fun e hd hx => ?_) (fun e hd hx => ?_)
  · subst e
    exact h2 ⟨(h v).at_k.2 hd, hx⟩
  · subst e
    exact h1 ⟨(h u).at_k.2 hd, hx⟩

/-- The first of the shortest ways: of the next nodes that are nearer by one, the least. -/
def wayN (E : List (Nat × Nat)) (b : Nat) : Nat → Nat → List Nat → Prop
  | 0, a, L => a = b ∧ L = [b]
  | k + 1, a, L => ∃ c l, Next E a c ∧ Dist E b c k ∧ (∀ c', Next E a c' → Dist E b c' k → c ≤ c') ∧ wayN E b k c l ∧ L = a :: l

def Way (E : List (Nat × Nat)) (b a k : Nat) (L : List Nat) : Prop := wayN E b k a L

theorem Way.here : Way E b b 0 [b] := ⟨rfl, rfl⟩
theorem Way.step {l : List Nat} (h1 : Next E a c) (h2 : Dist E b c k) (h3 : ∀ c', Next E a c' → Dist E b c' k → c ≤ c') (h4 : Way E b c k l) : Way E b a (k + 1) (a :: l) := ⟨c, l, h1, h2, h3, h4, rfl⟩
theorem Way.zero {L : List Nat} (h : Way E b a 0 L) : a = b ∧ L = [b] := h
theorem Way.parts {L : List Nat} (h : Way E b a (k + 1) L) : ∃ c l, Next E a c ∧ Dist E b c k ∧ (∀ c', Next E a c' → Dist E b c' k → c ≤ c') ∧ Way E b c k l ∧ L = a :: l := h

theorem Way.one : ∀ {k a : Nat} {l l' : List Nat}, Way E b a k l → Way E b a k l' → l = l'
  | 0, a, l, l', h, h' => by rw [h.zero.2, h'.zero.2]
  | k + 1, a, l, l', h, h' => by
    obtain ⟨c, r, h1, h2, h3, h4, rfl⟩ := h.parts
    obtain ⟨c', r', g1, g2, g3, g4, rfl⟩ := h'.parts
    obtain rfl := Nat.le_antisymm (h3 _ g1 g2) (g3 _ h1 h2)
    rw [h4.one g4]

theorem Way.len : ∀ {k a : Nat} {l : List Nat}, Way E b a k l → l.length = k + 1
  | 0, a, l, h => by rw [h.zero.2]; rfl
  | k + 1, a, l, h => by
    obtain ⟨c, r, _, _, _, h4, rfl⟩ := h.parts
    simp [h4.len]

theorem Way.head : ∀ {k a : Nat} {l : List Nat}, Way E b a k l → ∃ r, l = a :: r
  | 0, a, l, h => by obtain ⟨rfl, rfl⟩ := h.zero; exact ⟨_, rfl⟩
  | k + 1, a, l, h => by
    obtain ⟨c, r, _, _, _, _, rfl⟩ := h.parts
    exact ⟨_, rfl⟩

theorem least_one {P : Nat → Prop} : ∀ {m : Nat}, P m → ∃ c, P c ∧ ∀ c', P c' → c ≤ c' := by
  intro m
  induction m using Nat.strongRecOn with
  | _ m ih =>
    intro h
    by_cases hx : ∃ j, j < m ∧ P j
    · obtain ⟨j, hj, hp⟩ := hx
      exact ih j hj hp
    · exact ⟨m, h, fun c' hc => Nat.le_of_not_lt fun q => hx ⟨c', q, hc⟩⟩

theorem way_some : ∀ {k a : Nat}, Dist E b a k → ∃ l, Way E b a k l
  | 0, a, h => by
    obtain rfl := dist_zero h
    exact ⟨_, .here⟩
  | k + 1, a, h => by
    obtain ⟨c0, h1, h2⟩ := h.next
    obtain ⟨c, ⟨g1, g2⟩, g3⟩ := least_one (P := fun c => Next E a c ∧ Dist E b c k) ⟨h1, h2⟩
    obtain ⟨l, hl⟩ := way_some g2
    exact ⟨_, .step g1 g2 (fun c' q1 q2 => g3 c' ⟨q1, q2⟩) hl⟩

end Go.Proofs.YtinflbkmemjgbabDoor.Pt
