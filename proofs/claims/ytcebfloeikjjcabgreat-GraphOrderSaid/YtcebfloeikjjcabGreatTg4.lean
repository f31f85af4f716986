/-
  Edges of package tour: all, rising.
-/
import Derived.Test.YtcebfloeikjjcabGreatTg3
namespace Go.Proofs.YtcebfloeikjjcabGreat
open Go.RowKit Go.Deep Go.Shelf Go.Sort Go.Lib Go.Maps
open Go.RowKit (Below)
set_option linter.unusedVariables false

variable {w w' : World} {L : Pl} {p : Nat → Nat} {E : List (Nat × Nat)}

theorem twos_get : ∀ (ss : List (Nat × Nat)) (j : Nat), j < ss.length * 2 → (twos ss)[j]? = some ((two (ss.getD (j / 2) (0, 0))).getD (j % 2) undef)
  | [], j, h => by simp at h
  | e :: l, 0, _ => rfl
  | e :: l, 1, _ => rfl
  | e :: l, j + 2, h => by
    have ih := twos_get l j (by simp at h; omega)
    rw [show twos (e :: l) = two e ++ twos l by simp [twos], List.getElem?_append_right (by simp [two]), show j + 2 - (two e).length = j by simp [two], ih]
    rw [show (j + 2) / 2 = j / 2 + 1 by omega, show (j + 2) % 2 = j % 2 by omega]
    rfl

theorem flat_get (ss : List (Nat × Nat)) (j : Nat) (h : j < ss.length * 2) : (flatK two 2 ss.toArray)[j]! = (two (ss.getD (j / 2) (0, 0))).getD (j % 2) undef := by
  rw [get_flatK _ _ _ _ (by simpa using h)]
  have h2 : j / 2 < ss.length := by omega
  have e : ss.toArray[j / 2]! = ss.getD (j / 2) (0, 0) := by simp [h2]
  rw [e]
  have h3 : j % 2 < 2 := Nat.mod_lt _ (by omega)
  generalize ss.getD (j / 2) (0, 0) = x
  generalize j % 2 = m at h3
  match m, h3 with
  | 0, _ => rfl
  | 1, _ => rfl

theorem holds_two {g cap : Nat} {base : Nat} {ss : List (Nat × Nat)} (h : w.ownsRow base 41 2 (.slice (some ⟨g, 0, none⟩) ss.length cap) ss.length (twos ss)) (hne : ss ≠ []) : HoldsK two 2 w g 0 ss.toArray ∧ g < w.heap.size ∧ base ≤ g ∧ cap ≤ maxLen := by
  rcases h.2 with ⟨_, h0⟩ | ⟨g', cap', cur, hv, hb, hg, h1, h2, h3, h4⟩
  · exact absurd (List.length_eq_zero_iff.1 h0) hne
  · simp only [Value.slice.injEq, Option.some.injEq, Addr.mk.injEq, and_true, true_and] at hv
    obtain ⟨rfl, rfl⟩ := hv
    refine ⟨fun j hj => ?_, (Array.getElem?_eq_some_iff.1 hg).1, hb, h2⟩
    have hj' : j < ss.length * 2 := by simpa using hj
    rw [Nat.zero_add, flat_get ss j hj']
    refine ⟨?_, by simp [World.frozen?, hg]⟩
    have e := twos_get ss j hj'
    rw [← h4, List.getElem?_take, if_pos hj'] at e
    simp only [World.cell?, hg]
    simpa using e

/-- A list of edges lies in memory. -/
structure EdgesAt (w : World) (a : Option Addr) (E : List (Nat × Nat)) : Prop where
  cell : ∀ i, i < E.length → ∃ b, a = some ⟨b, 0, none⟩ ∧ w.cell? ⟨b, i * 2, none⟩ = some (.int .i64 ((E.getD i (0, 0)).1 : Nat)) ∧ w.cell? ⟨b, i * 2 + 1, none⟩ = some (.int .i64 ((E.getD i (0, 0)).2 : Nat))

theorem EdgesAt.below {a : Option Addr} (h : EdgesAt w a E) (hb : RowKit.Below w.heap.size w w') : EdgesAt w' a E :=
  ⟨fun i hi => by obtain ⟨b, e, h1, h2⟩ := h.cell i hi; exact ⟨b, e, cell_keep hb h1, cell_keep hb h2⟩⟩

theorem edgesAt_of {g : Nat} (h : HoldsK two 2 w g 0 E.toArray) : EdgesAt w (some ⟨g, 0, none⟩) E := by
  refine ⟨fun i hi => ⟨g, rfl, ?_, ?_⟩⟩
  · have := (h (i * 2) (by simp; omega)).1
    rw [Nat.zero_add, flat_get E _ (by omega), show i * 2 / 2 = i by omega, show i * 2 % 2 = 0 by omega] at this
    exact this
  · have := (h (i * 2 + 1) (by simp; omega)).1
    rw [Nat.zero_add, flat_get E _ (by omega), show (i * 2 + 1) / 2 = i by omega, show (i * 2 + 1) % 2 = 1 by omega] at this
    exact this

theorem below_putK {base blk q : Nat} (d : Array (Nat × Nat)) (h : base ≤ blk) : RowKit.Below base w (putRowK two 2 (Sort.ahead w q) blk 0 d) :=
  ⟨rfl, rfl, rfl, by simp [putRowK], fun k hk => by
    unfold putRowK putRow mapBlock
    show ((Sort.ahead w q).heap.modify blk _)[k]? = _
    rw [Array.getElem?_modify, if_neg (by omega)]
    rfl⟩

end Go.Proofs.YtcebfloeikjjcabGreat
