/-
  Pa
-/
import Derived.Test.YtcfemppdeidjmacGreatW18
namespace Go.Proofs.YtcfemppdeidjmacGreat.Pt
open Go.Proofs.YtcfemppdeidjmacGreat.Br
set_option linter.unusedVariables false

variable {E : List (Nat × Nat)} {a b c i j k n m : Nat}

def Next (E : List (Nat × Nat)) (a b : Nat) : Prop := (a, b) ∈ E ∨ (b, a) ∈ E

theorem Next.symm (h : Next E a b) : Next E b a := Or.symm h

def walkN (E : List (Nat × Nat)) (b : Nat) : Nat → Nat → Prop
  | 0, a => a = b
  | k + 1, a => ∃ c, Next E a c ∧ walkN E b k c

def Walk (E : List (Nat × Nat)) (b a k : Nat) : Prop := walkN E b k a

theorem Walk.here : Walk E b b 0 := rfl
theorem Walk.step (h : Next E a c) (h' : Walk E b c k) : Walk E b a (k + 1) := ⟨c, h, h'⟩
theorem Walk.parts (h : Walk E b a (k + 1)) : ∃ c, Next E a c ∧ Walk E b c k := h

theorem Walk.zero (h : Walk E b a 0) : a = b := h

theorem Walk.snoc : ∀ {k a : Nat}, Walk E b a k → Next E b c → Walk E c a (k + 1)
  | 0, a, h, hn => by
    obtain rfl := h.zero
    exact .step hn .here
  | k + 1, a, h, hn => by
    obtain ⟨x, h1, h2⟩ := h.parts
    exact .step h1 (h2.snoc hn)

theorem Walk.back : ∀ {k a : Nat}, Walk E b a k → Walk E a b k
  | 0, a, h => by
    obtain rfl := h.zero
    exact .here
  | k + 1, a, h => by
    obtain ⟨x, h1, h2⟩ := h.parts
    exact h2.back.snoc h1.symm

theorem Walk.append (h' : Walk E c b j) : ∀ {k a : Nat}, Walk E b a k → Walk E c a (k + j)
  | 0, a, h => by
    obtain rfl := h.zero
    rw [Nat.zero_add]; exact h'
  | k + 1, a, h => by
    obtain ⟨x, h1, h2⟩ := h.parts
    rw [Nat.add_right_comm]
    exact .step h1 (Walk.append h' h2)

theorem Walk.conn : ∀ {k a : Nat}, Walk E b a k → Conn E a b
  | 0, a, h => by
    obtain rfl := h.zero
    exact (conn_eqv E).refl _
  | k + 1, a, h => by
    obtain ⟨x, h1, h2⟩ := h.parts
    refine (conn_eqv E).trans ?_ h2.conn
    rcases h1 with h1 | h1
    · exact conn_edge h1
    · exact (conn_eqv E).symm (conn_edge h1)

theorem walk_of (h : Conn E a b) : ∃ k, Walk E b a k := by
  refine h (fun i j => ∃ k, Walk E j i k) ⟨⟨fun i => ⟨0, .here⟩, fun ⟨k, h⟩ => ⟨k, h.back⟩, fun ⟨k, h⟩ ⟨j, h'⟩ => ⟨k + j, Walk.append h' h⟩⟩, fun e he => ⟨1, .step (Or.inl he) .here⟩⟩

def Dist (E : List (Nat × Nat)) (b a k : Nat) : Prop := Walk E b a k ∧ ∀ j, Walk E b a j → k ≤ j

theorem Dist.one (h : Dist E b a k) (h' : Dist E b a j) : k = j := Nat.le_antisymm (h.2 _ h'.1) (h'.2 _ h.1)

theorem dist_self (E : List (Nat × Nat)) (b : Nat) : Dist E b b 0 := ⟨.here, fun _ _ => Nat.zero_le _⟩

theorem dist_zero (h : Dist E b a 0) : a = b := h.1.zero

theorem dist_some (h : Conn E a b) : ∃ k, Dist E b a k := by
  obtain ⟨k, hk⟩ := walk_of h
  induction k using Nat.strongRecOn with
  | _ k ih =>
    by_cases hm : ∃ j, j < k ∧ Walk E b a j
    · obtain ⟨j, hj, hw⟩ := hm
      exact ih j hj hw
    · exact ⟨k, hk, fun j hj => Nat.le_of_not_lt fun q => hm ⟨j, q, hj⟩⟩

theorem Dist.next (h : Dist E b a (k + 1)) : ∃ c, Next E a c ∧ Dist E b c k := by
  obtain ⟨hw, hl⟩ := h
  obtain ⟨c, h1, h2⟩ := hw.parts
  refine ⟨c, h1, h2, fun j hj => ?_⟩
  have := hl _ (.step h1 hj)
  omega

theorem Dist.near (h : Dist E b a k) (hn : Next E c a) : ∃ j, Dist E b c j ∧ j ≤ k + 1 := by
  have hw : Walk E b c (k + 1) := .step hn h.1
  obtain ⟨j, hj⟩ := dist_some hw.conn
  exact ⟨j, hj, hj.2 _ hw⟩

theorem Dist.less (h : Dist E b a k) : ∀ j, j ≤ k → ∃ c, Dist E b c j := by
  induction k generalizing a with
  | zero => intro j hj; obtain rfl : j = 0 := by omega
            exact ⟨a, h⟩
  | succ k ih =>
    intro j hj
    rcases Nat.lt_or_ge j (k + 1) with q | q
    · obtain ⟨c, _, hc⟩ := h.next
      exact ih hc j (by omega)
    · obtain rfl : j = k + 1 := by omega
      exact ⟨a, h⟩

theorem walk_lt (hE : Among n E) (h : Walk E b a k) (hb : b < n) : a < n := by
  cases k with
  | zero => rw [h.zero]; exact hb
  | succ k =>
    obtain ⟨c, h1, _⟩ := h.parts
    rcases h1 with h1 | h1
    · exact (hE _ h1).1
    · exact (hE _ h1).2

theorem Dist.lt (hE : Among n E) (h : Dist E b a k) (hb : b < n) : k < n := by
  have hc : ∀ j, ∃ c, j ≤ k → Dist E b c j := fun j => by
    by_cases q : j ≤ k
    · obtain ⟨c, hc⟩ := h.less j q
      exact ⟨c, fun _ => hc⟩
    · exact ⟨0, fun z => absurd z q⟩
  have := pigeon (f := fun j => Classical.choose (hc j)) (List.range (k + 1)) (List.range n) List.nodup_range (fun x hx y hy e => by
    have h1 := Classical.choose_spec (hc x) (by have := List.mem_range.1 hx; omega)
    have h2 := Classical.choose_spec (hc y) (by have := List.mem_range.1 hy; omega)
    have e' : Classical.choose (hc x) = Classical.choose (hc y) := e
    rw [e'] at h1
    exact h1.one h2) (fun x hx => List.mem_range.2 (walk_lt hE (Classical.choose_spec (hc x) (by have := List.mem_range.1 hx; omega)).1 hb))
  simp at this
  omega

def Far (E : List (Nat × Nat)) (b a : Nat) (x : Int) : Prop := (∃ k : Nat, Dist E b a k ∧ x = k) ∨ ((∀ k, ¬ Walk E b a k) ∧ x = -1)

end Go.Proofs.YtcfemppdeidjmacGreat.Pt
