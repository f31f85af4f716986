/-
  The list of answers that UnionBack keeps: of each two nodes whether they are in one part.
-/
import Derived.Test.YtfnidfbogkfaeaaUk
namespace Go.Proofs.Ytfnidfbogkfaeaa
open Go.RowKit Go.Deep
set_option linter.unusedVariables false

theorem Try.infoBool : (Try.prog.info? 4).map (fun i => (i.zero, i.size, i.bytes)) = some (some (.bool false), 1, 1) := by kernel_rfl

/-- Of a node and those below it. -/
def rowL (L : List (Nat × Nat)) (a : Nat) : Nat → List Bool
  | 0 => []
  | b + 1 => rowL L a b ++ [decide (rt L a = rt L b)]

/-- Of all nodes below a. -/
def triL (L : List (Nat × Nat)) : Nat → List Bool
  | 0 => []
  | a + 1 => triL L a ++ rowL L a a

theorem rowL_len (L : List (Nat × Nat)) (a : Nat) : ∀ b, (rowL L a b).length = b
  | 0 => rfl
  | b + 1 => by simp [rowL, rowL_len L a b]

theorem triL_len (L : List (Nat × Nat)) : ∀ a, a ≤ 60 → (triL L a).length ≤ 60 * a
  | 0, _ => Nat.le_refl _
  | a + 1, h => by
    have := triL_len L a (by omega)
    simp only [triL, List.length_append, rowL_len]
    omega

theorem rowL_at (L : List (Nat × Nat)) (a : Nat) : ∀ c b, b < c → (rowL L a c)[b]? = some (decide (rt L a = rt L b))
  | 0, b, h => absurd h (Nat.not_lt_zero _)
  | c + 1, b, h => by
    simp only [rowL]
    rcases Nat.lt_or_ge b c with h1 | h1
    · rw [List.getElem?_append_left (by rw [rowL_len]; exact h1)]
      exact rowL_at L a c b h1
    · obtain rfl : b = c := by omega
      rw [List.getElem?_append_right (by rw [rowL_len]; omega), rowL_len, Nat.sub_self]
      rfl

theorem triL_more (L : List (Nat × Nat)) (a : Nat) : ∀ k, ∃ R, triL L (a + k) = triL L a ++ R
  | 0 => ⟨[], by simp⟩
  | k + 1 => by
    obtain ⟨R, h⟩ := triL_more L a k
    exact ⟨R ++ rowL L (a + k) (a + k), by show triL L (a + k) ++ _ = _; rw [h, List.append_assoc]; rfl⟩

theorem triL_at (L : List (Nat × Nat)) {n a b : Nat} (ha : a < n) (hb : b < a) : (triL L n)[(triL L a).length + b]? = some (decide (rt L a = rt L b)) := by
  obtain ⟨R, h⟩ := triL_more L (a + 1) (n - (a + 1))
  rw [show a + 1 + (n - (a + 1)) = n from by omega] at h
  rw [h, List.getElem?_append_left (by simp only [triL, List.length_append, rowL_len]; omega)]
  show (triL L a ++ rowL L a a)[_]? = _
  rw [List.getElem?_append_right (by omega), Nat.add_sub_cancel_left]
  exact rowL_at L a a b hb

/-- The union, and the list that is kept beside it. -/
structure BW (w0 : World) (n g : Nat) (F : Nat → Prop) (L : List (Nat × Nat)) (w : World) (v : Value) (xs : List Bool) : Prop where
  u : UAt w0.heap.size n w g F L
  below : Below w0.heap.size w0 w
  own : w.ownsRow w0.heap.size 4 1 v xs.length (xs.map Value.bool)
  apart : ∀ k, v.ownBlock = some k → ¬ F k

theorem BW.step {w0 : World} {n g : Nat} {F : Nat → Prop} {L : List (Nat × Nat)} {w w' : World} {v : Value} {xs : List Bool} (h : BW w0 n g F L w v xs) (hB : Below w.heap.size w w') : BW w0 n g F L w' v xs :=
  ⟨h.u.below hB, below_step h.below hB, ownsRow_keep h.own (fun k e => hB.block k (own_heap h.own e).2), h.apart⟩

theorem UAt.grown {base n : Nat} {w w' : World} {g : Nat} {F : Nat → Prop} {L : List (Nat × Nat)} {row : Option Nat} (h : UAt base n w g F L) (hg : w.grownBy w' row) (hr : ∀ k, row = some k → ¬ F k) : UAt base n w' g F L := by
  obtain ⟨ba, bs, vj, h, hF⟩ := h
  exact ⟨ba, bs, vj, h.keep (fun k hk => hg.block k (h.lt hk).1 (fun e => hr k e.symm ((hF k).2 hk))), hF⟩

theorem BW.grow {w0 : World} {n g : Nat} {F : Nat → Prop} {L : List (Nat × Nat)} {w w' : World} {v : Value} {xs : List Bool} (h : BW w0 n g F L w v xs) {x : Bool} {g' cap : Nat}
    (ho : w'.ownsRow w0.heap.size 4 1 (.slice (some ⟨g', 0, none⟩) (xs.length + 1) cap) (xs.length + 1) (xs.map Value.bool ++ [.bool x])) (hg : w.grownBy w' v.ownBlock) (ha : v.ownBlock = some g' ∨ g' = w.heap.size) :
    BW w0 n g F L w' (.slice (some ⟨g', 0, none⟩) (xs.length + 1) cap) (xs ++ [x]) := by
  refine ⟨h.u.grown hg h.apart, h.below.grown hg h.below.size (fun k e => (own_heap h.own e).1), by simpa using ho, fun k e hF => ?_⟩
  obtain rfl : g' = k := by simpa [Value.ownBlock] using e
  rcases ha with ha | rfl
  · exact h.apart g' ha hF
  · have := (h.u.lt hF).1; omega

theorem BW.moves {w0 : World} {n g : Nat} {F F' : Nat → Prop} {L L' : List (Nat × Nat)} {w w' : World} {v : Value} {xs : List Bool} (h : BW w0 n g F L w v xs) (hm : Moves F w w' F') (hu : UAt w0.heap.size n w' g F' L') : BW w0 n g F' L' w' v xs := by
  refine ⟨hu, Moves.below h.below h.below.size (fun k hk => (h.u.lt hk).2) hm, ownsRow_keep h.own (fun k e => hm.block k (own_heap h.own e).2 (h.apart k e)), fun k e hF => ?_⟩
  rcases hm.foot k hF with h1 | h1
  · exact h.apart k e h1
  · have := (own_heap h.own e).2; omega

/-- A cell of an own row. -/
theorem own_at {w : World} {base : Nat} {e : TypeId} {v : Value} {n : Nat} {xs : List Value} (h : w.ownsRow base e 1 v n xs) {j : Nat} {u : Value} (hj : xs[j]? = some u) :
    ∃ g cap, v = .slice (some ⟨g, 0, none⟩) n cap ∧ j < n ∧ w.cell? ⟨g, j, none⟩ = some u := by
  have hl := h.1
  rw [Nat.mul_one] at hl
  have hjn : j < n := by have := (List.getElem?_eq_some_iff.1 hj).1; omega
  rcases h.2 with ⟨_, h0⟩ | ⟨g, cap, cur, hv, h1, h2, h3, h4, h5, h6⟩
  · omega
  · refine ⟨g, cap, hv, hjn, ?_⟩
    rw [cell_of_row w g j cur e _ h2]
    rw [← h6, Nat.mul_one, List.getElem?_take, if_pos hjn] at hj
    simpa using hj

end Go.Proofs.Ytfnidfbogkfaeaa
