/-
  Pa Pg Pb Pj
-/
import Derived.Test.YtcfemppdeidjmacGreatT17
namespace Go.Proofs.YtcfemppdeidjmacGreat.Pt
open Go.Proofs.YtcfemppdeidjmacGreat.Br
set_option linter.unusedVariables false

variable {E : List (Nat × Nat)} {a b c i j k n m : Nat}

def Next (E : List (Nat × Nat)) (a b : Nat) : Prop := (a, b) ∈ E ∨ (b, a) ∈ E

theorem Next.symm (h : Next E a b) : Next E b a := Or.symm h

def walkN (E : List (Nat × Nat)) (b : Nat) : Nat → Nat → Prop
  | 0, a => a = b
  | k + 1, a => ∃ c, Next E a c ∧ walkN E b k c

def Walk (E : List (Nat × Nat)) (b a k : Nat) : Prop := walkN E b k a

theorem Walk.here : Walk E b b 0 := rfl
theorem Walk.step (h : Next E a c) (h' : Walk E b c k) : Walk E b a (k + 1) := ⟨c, h, h'⟩
theorem Walk.parts (h : Walk E b a (k + 1)) : ∃ c, Next E a c ∧ Walk E b c k := h

theorem Walk.zero (h : Walk E b a 0) : a = b := h

theorem Walk.snoc : ∀ {k a : Nat}, Walk E b a k → Next E b c → Walk E c a (k + 1)
  | 0, a, h, hn => by
    obtain rfl := h.zero
    exact .step hn .here
  | k + 1, a, h, hn => by
    obtain ⟨x, h1, h2⟩ := h.parts
    exact .step h1 (h2.snoc hn)

theorem Walk.back : ∀ {k a : Nat}, Walk E b a k → Walk E a b k
  | 0, a, h => by
    obtain rfl := h.zero
    exact .here
  | k + 1, a, h => by
    obtain ⟨x, h1, h2⟩ := h.parts
    exact h2.back.snoc h1.symm

theorem Walk.append (h' : Walk E c b j) : ∀ {k a : Nat}, Walk E b a k → Walk E c a (k + j)
  | 0, a, h => by
    obtain rfl := h.zero
    rw [Nat.zero_add]; exact h'
  | k + 1, a, h => by
    obtain ⟨x, h1, h2⟩ := h.parts
    rw [Nat.add_right_comm]
    exact .step h1 (Walk.append h' h2)

theorem Walk.conn : ∀ {k a : Nat}, Walk E b a k → Conn E a b
  | 0, a, h => by
    obtain rfl := h.zero
    exact (conn_eqv E).refl _
  | k + 1, a, h => by
    obtain ⟨x, h1, h2⟩ := h.parts
    refine (conn_eqv E).trans ?_ h2.conn
    rcases h1 with h1 | h1
    · exact conn_edge h1
    · exact (conn_eqv E).symm (conn_edge h1)

theorem walk_of (h : Conn E a b) : ∃ k, Walk E b a k := by
  refine h (fun i j => ∃ k, Walk E j i k) ⟨⟨fun i => ⟨0, .here⟩, fun ⟨k, h⟩ => ⟨k, h.back⟩, fun ⟨k, h⟩ ⟨j, h'⟩ => ⟨k + j, Walk.append h' h⟩⟩, fun e he => ⟨1, .step (Or.inl he) .here⟩⟩

def Dist (E : List (Nat × Nat)) (b a k : Nat) : Prop := Walk E b a k ∧ ∀ j, Walk E b a j → k ≤ j

theorem Dist.one (h : Dist E b a k) (h' : Dist E b a j) : k = j := Nat.le_antisymm (h.2 _ h'.1) (h'.2 _ h.1)

theorem dist_self (E : List (Nat × Nat)) (b : Nat) : Dist E b b 0 := ⟨.here, fun _ _ => Nat.zero_le _⟩

theorem dist_zero (h : Dist E b a 0) : a = b := h.1.zero

theorem dist_some (h : Conn E a b) : ∃ k, Dist E b a k := by
  obtain ⟨k, hk⟩ := walk_of h
  induction k using Nat.strongRecOn with
  | _ k ih =>
    by_cases hm : ∃ j, j < k ∧ Walk E b a j
    · obtain ⟨j, hj, hw⟩ := hm
      exact ih j hj hw
    · exact ⟨k, hk, fun j hj => Nat.le_of_not_lt fun q => hm ⟨j, q, hj⟩⟩

theorem Dist.next (h : Dist E b a (k + 1)) : ∃ c, Next E a c ∧ Dist E b c k := by
  obtain ⟨hw, hl⟩ := h
  obtain ⟨c, h1, h2⟩ := hw.parts
  refine ⟨c, h1, h2, fun j hj => ?_⟩
  have := hl _ (.step h1 hj)
  omega

theorem Dist.near (h : Dist E b a k) (hn : Next E c a) : ∃ j, Dist E b c j ∧ j ≤ k + 1 := by
  have hw : Walk E b c (k + 1) := .step hn h.1
  obtain ⟨j, hj⟩ := dist_some hw.conn
  exact ⟨j, hj, hj.2 _ hw⟩

theorem Dist.less (h : Dist E b a k) : ∀ j, j ≤ k → ∃ c, Dist E b c j := by
  induction k generalizing a with
  | zero => intro j hj; obtain rfl : j = 0 := by omega
            exact ⟨a, h⟩
  | succ k ih =>
    intro j hj
    rcases Nat.lt_or_ge j (k + 1) with q | q
    · obtain ⟨c, _, hc⟩ := h.next
      exact ih hc j (by omega)
    · obtain rfl : j = k + 1 := by omega
      exact ⟨a, h⟩

theorem walk_lt (hE : Among n E) (h : Walk E b a k) (hb : b < n) : a < n := by
  cases k with
  | zero => rw [h.zero]; exact hb
  | succ k =>
    obtain ⟨c, h1, _⟩ := h.parts
    rcases h1 with h1 | h1
    · exact (hE _ h1).1
    · exact (hE _ h1).2

theorem Dist.lt (hE : Among n E) (h : Dist E b a k) (hb : b < n) : k < n := by
  have hc : ∀ j, ∃ c, j ≤ k → Dist E b c j := fun j => by
    by_cases q : j ≤ k
    · obtain ⟨c, hc⟩ := h.less j q
      exact ⟨c, fun _ => hc⟩
    · exact ⟨0, fun z => absurd z q⟩
  have := pigeon (f := fun j => Classical.choose (hc j)) (List.range (k + 1)) (List.range n) List.nodup_range (fun x hx y hy e => by
    have h1 := Classical.choose_spec (hc x) (by have := List.mem_range.1 hx; omega)
    have h2 := Classical.choose_spec (hc y) (by have := List.mem_range.1 hy; omega)
    have e' : Classical.choose (hc x) = Classical.choose (hc y) := e
    rw [e'] at h1
    exact h1.one h2) (fun x hx => List.mem_range.2 (walk_lt hE (Classical.choose_spec (hc x) (by have := List.mem_range.1 hx; omega)).1 hb))
  simp at this
  omega

def Far (E : List (Nat × Nat)) (b a : Nat) (x : Int) : Prop := (∃ k : Nat, Dist E b a k ∧ x = k) ∨ ((∀ k, ¬ Walk E b a k) ∧ x = -1)

end Go.Proofs.YtcfemppdeidjmacGreat.Pt

namespace Go.Proofs.YtcfemppdeidjmacGreat.Pt
open Go.Proofs.YtcfemppdeidjmacGreat.Br
set_option linter.unusedVariables false

variable {E : List (Nat × Nat)} {a b c i j k n m N : Nat}

structure Ring (E : List (Nat × Nat)) (N : Nat) (r : Nat → Nat) : Prop where
  three : 3 ≤ N
  inj : ∀ i j, i < N → j < N → r i = r j → i = j
  next : ∀ i, i < N → Next E (r i) (r ((i + 1) % N))

theorem next_edge (hl : ∀ e ∈ E, e.1 < e.2) (h : Next E a b) : (min a b, max a b) ∈ E := by
  rcases h with h | h
  · have h1 : a < b := hl _ h
    rw [Nat.min_eq_left (by omega), Nat.max_eq_right (by omega)]; exact h
  · have h1 : b < a := hl _ h
    rw [Nat.min_eq_right (by omega), Nat.max_eq_left (by omega)]; exact h

theorem next_conn {E' : List (Nat × Nat)} (h : (min a b, max a b) ∈ E') : Conn E' a b := by
  rcases Nat.le_total a b with q | q
  · rw [Nat.min_eq_left q, Nat.max_eq_right q] at h; exact conn_edge h
  · rw [Nat.min_eq_right q, Nat.max_eq_left q] at h; exact (conn_eqv _).symm (conn_edge h)

theorem Ring.bridge {r : Nat → Nat} (h : Ring E N r) (hl : ∀ e ∈ E, e.1 < e.2) (hnd : E.Nodup) (hi : i < N) : ¬ Bridge E (min (r i) (r ((i + 1) % N)), max (r i) (r ((i + 1) % N))) := by
  have h3 := h.three
  obtain ⟨e, he⟩ : ∃ e, (min (r i) (r ((i + 1) % N)), max (r i) (r ((i + 1) % N))) = e := ⟨_, rfl⟩
  have key : ∀ k, k + 1 ≤ N → Conn (E.erase e) (r ((i + 1) % N)) (r ((i + 1 + k) % N)) := by
    intro k
    induction k with
    | zero => intro _; exact (conn_eqv _).refl _
    | succ k ih =>
      intro hk
      refine (conn_eqv _).trans (ih (by omega)) ?_
      obtain ⟨j, hj⟩ : ∃ j, (i + 1 + k) % N = j := ⟨_, rfl⟩
      have hjN : j < N := by rw [← hj]; exact Nat.mod_lt _ (by omega)
      have hj1 : (i + 1 + (k + 1)) % N = (j + 1) % N := by rw [← hj, Nat.mod_add_mod]; rfl
      rw [hj, hj1]
      have hji : j ≠ i := by
        intro q
        rw [q] at hj
        rcases Nat.lt_or_ge (i + 1 + k) N with z | z
        · rw [Nat.mod_eq_of_lt z] at hj; omega
        · rw [Nat.mod_eq_sub_mod z, Nat.mod_eq_of_lt (by omega)] at hj; omega
      have hi1 : (i + 1) % N < N := Nat.mod_lt _ (by omega)
      have hj1N : (j + 1) % N < N := Nat.mod_lt _ (by omega)
      refine next_conn ((hnd.mem_erase_iff).2 ⟨fun q => ?_, next_edge hl (h.next j hjN)⟩)
      rw [← he] at q
      have q1 := congrArg Prod.fst q
      have q2 := congrArg Prod.snd q
      simp only at q1 q2
      have hor : (r j = r i ∧ r ((j + 1) % N) = r ((i + 1) % N)) ∨ (r j = r ((i + 1) % N) ∧ r ((j + 1) % N) = r i) := by omega
      rcases hor with ⟨z1, _⟩ | ⟨z1, z2⟩
      · exact hji (h.inj j i hjN hi z1)
      · have w1 := h.inj _ _ hjN hi1 z1
        have w2 := h.inj _ _ hj1N hi z2
        have m1 : (i + 1) % N = i + 1 ∨ ((i + 1) % N = 0 ∧ i + 1 = N) := by
          rcases Nat.lt_or_ge (i + 1) N with z | z
          · exact Or.inl (Nat.mod_eq_of_lt z)
          · have : i + 1 = N := by omega
            exact Or.inr ⟨by rw [this, Nat.mod_self], this⟩
        have m2 : (j + 1) % N = j + 1 ∨ ((j + 1) % N = 0 ∧ j + 1 = N) := by
          rcases Nat.lt_or_ge (j + 1) N with z | z
          · exact Or.inl (Nat.mod_eq_of_lt z)
          · have : j + 1 = N := by omega
            exact Or.inr ⟨by rw [this, Nat.mod_self], this⟩
        omega
  intro hb
  have hlast := key (N - 1) (by omega)
  have hw : (i + 1 + (N - 1)) % N = i := by
    rw [show i + 1 + (N - 1) = i + N by omega, Nat.add_mod_right, Nat.mod_eq_of_lt hi]
  rw [hw] at hlast
  have hb' : ¬ Conn (E.erase e) e.1 e.2 := by rw [he] at hb; exact hb
  refine hb' ?_
  rw [← he] at hlast ⊢
  rcases Nat.le_total (r i) (r ((i + 1) % N)) with q | q
  · simp only [Nat.min_eq_left q, Nat.max_eq_right q] at hlast ⊢
    exact (conn_eqv _).symm hlast
  · simp only [Nat.min_eq_right q, Nat.max_eq_left q] at hlast ⊢
    exact hlast

end Go.Proofs.YtcfemppdeidjmacGreat.Pt

namespace Go.Proofs.YtcfemppdeidjmacGreat.Pt
open Go.Proofs.YtcfemppdeidjmacGreat.Br
set_option linter.unusedVariables false

variable {E : List (Nat × Nat)} {a b c i j k n m t u v : Nat} {d : Nat → Int} {x : Int}

def put (d : Nat → Int) (i : Nat) (x : Int) : Nat → Int := fun j => if j = i then x else d j

theorem put_same : put d i x i = x := if_pos rfl
theorem put_other (h : j ≠ i) : put d i x j = d j := if_neg h

def wayN (E : List (Nat × Nat)) (b : Nat) : Nat → Nat → List Nat → Prop
  | 0, a, L => a = b ∧ L = [b]
  | k + 1, a, L => ∃ c l, Next E a c ∧ Dist E b c k ∧ (∀ c', Next E a c' → Dist E b c' k → c ≤ c') ∧ wayN E b k c l ∧ L = a :: l

def Way (E : List (Nat × Nat)) (b a k : Nat) (L : List Nat) : Prop := wayN E b k a L

theorem Way.here : Way E b b 0 [b] := ⟨rfl, rfl⟩
theorem Way.step {l : List Nat} (h1 : Next E a c) (h2 : Dist E b c k) (h3 : ∀ c', Next E a c' → Dist E b c' k → c ≤ c') (h4 : Way E b c k l) : Way E b a (k + 1) (a :: l) := ⟨c, l, h1, h2, h3, h4, rfl⟩
theorem Way.zero {L : List Nat} (h : Way E b a 0 L) : a = b ∧ L = [b] := h
theorem Way.parts {L : List Nat} (h : Way E b a (k + 1) L) : ∃ c l, Next E a c ∧ Dist E b c k ∧ (∀ c', Next E a c' → Dist E b c' k → c ≤ c') ∧ Way E b c k l ∧ L = a :: l := h

theorem Way.len : ∀ {k a : Nat} {l : List Nat}, Way E b a k l → l.length = k + 1
  | 0, a, l, h => by rw [h.zero.2]; rfl
  | k + 1, a, l, h => by
    obtain ⟨c, r, _, _, _, h4, rfl⟩ := h.parts
    simp [h4.len]

theorem Way.head : ∀ {k a : Nat} {l : List Nat}, Way E b a k l → ∃ r, l = a :: r
  | 0, a, l, h => by obtain ⟨rfl, rfl⟩ := h.zero; exact ⟨_, rfl⟩
  | k + 1, a, l, h => by
    obtain ⟨c, r, _, _, _, _, rfl⟩ := h.parts
    exact ⟨_, rfl⟩

end Go.Proofs.YtcfemppdeidjmacGreat.Pt

namespace Go.Proofs.YtcfemppdeidjmacGreat.Pt
open Go.RowKit Go.Proofs.YtcfemppdeidjmacGreat.Br
open Go.RowKit (Below)
set_option linter.unusedVariables false

variable {w w' : World} {E : List (Nat × Nat)} {a b c i j k n m : Nat}

theorem Way.dist : ∀ {k a : Nat} {l : List Nat}, Way E b a k l → Dist E b a k → ∀ i, i ≤ k → Dist E b (l.getD i 0) (k - i)
  | 0, a, l, h, hd, i, hi => by
    obtain ⟨rfl, rfl⟩ := h.zero
    obtain rfl : i = 0 := by omega
    exact hd
  | k + 1, a, l, h, hd, i, hi => by
    obtain ⟨c, r, h1, h2, h3, h4, rfl⟩ := h.parts
    cases i with
    | zero => exact hd
    | succ i =>
      have := h4.dist h2 i (by omega)
      rw [List.getD_cons_succ, show k + 1 - (i + 1) = k - i by omega]
      exact this

theorem Way.next : ∀ {k a : Nat} {l : List Nat}, Way E b a k l → ∀ i, i < k → Next E (l.getD i 0) (l.getD (i + 1) 0)
  | 0, a, l, h, i, hi => absurd hi (Nat.not_lt_zero _)
  | k + 1, a, l, h, i, hi => by
    obtain ⟨c, r, h1, h2, h3, h4, rfl⟩ := h.parts
    cases i with
    | zero =>
      obtain ⟨r', rfl⟩ := h4.head
      exact h1
    | succ i =>
      rw [List.getD_cons_succ, List.getD_cons_succ]
      exact h4.next i (by omega)

theorem Way.first {l : List Nat} (h : Way E b a k l) : l.getD 0 0 = a := by
  obtain ⟨r, rfl⟩ := h.head
  rfl

theorem Way.last {l : List Nat} (h : Way E b a k l) (hd : Dist E b a k) : l.getD k 0 = b := by
  have := h.dist hd k (Nat.le_refl _)
  rw [Nat.sub_self] at this
  exact dist_zero this

theorem Way.once {l : List Nat} (h : Way E b a k l) (hd : Dist E b a k) (hi : i < j) (hj : j ≤ k) : l.getD i 0 ≠ l.getD j 0 := fun e => by
  have h1 := h.dist hd i (by omega)
  have h2 := h.dist hd j hj
  rw [e] at h1
  have := h1.one h2
  omega

end Go.Proofs.YtcfemppdeidjmacGreat.Pt
