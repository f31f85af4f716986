/-
  Bc
-/
import Derived.WalkKit
import Derived.WalkSpells
import Derived.WalkLawsBesides
import Derived.Deep.RegionHeld3
import Derived.Deep.OwnRows
import Derived.OneCell
import Derived.BigQuiet
import Derived.BigRegion
import Derived.Below
import Derived.Maps.AppendAt
import Derived.Deep.AppendLies
import Derived.Test.YtcfemppdeidjmacGreatT4
import Derived.Test.YtcfemppdeidjmacGreatChecked
namespace Go.Proofs.YtcfemppdeidjmacGreat.Br
open Go.RowKit Go.Deep
open Go.RowKit (Below)
set_option linter.unusedVariables false

theorem Tryz.infoInt : (Tryz.prog.info? 3).map (fun i => (i.zero, i.size, i.bytes)) = some (some (.int .i64 0), 1, 8) := by kernel_rfl

theorem cell_keep {W w' : World} {p : Addr} {v : Value} (hb : Below W.heap.size W w') (h : W.cell? p = some v) : w'.cell? p = some v :=
  (hb.cell (World.block_lt_of_cell? _ _ h)).trans h
theorem below_step {w a b : World} (h1 : Below w.heap.size w a) (h2 : Below a.heap.size a b) : Below w.heap.size w b := h1.trans (h2.mono h1.size)
theorem below_drewN {w a : World} {n : Nat} (h : a = w.drewN n) : Below w.heap.size w a := by
  subst h
  induction n with
  | zero => exact Below.refl _ _
  | succ n ih => exact ih.drew

def ev (a b : Int) : Value := .agg #[.int .i64 a, .int .i64 b]

theorem cell_one_new (w : World) (v : Value) (t : TypeId) : ∀ k u, [v][k]? = some u → (w.alloc (.cells #[v] t)).cell? (Addr.add ⟨w.heap.size, 0, none⟩ k) = some u
  | 0, u, h => by simp at h; subst h; simp [Addr.add]
  | k + 1, u, h => by simp at h

variable {w w' : World} {p p' : Nat → Nat} {E E' : List (Nat × Nat)}

def two (e : Nat × Nat) : List Value := [.int .i64 (e.1 : Int), .int .i64 (e.2 : Int)]
def twos (l : List (Nat × Nat)) : List Value := l.flatMap two

theorem twos_snoc (l : List (Nat × Nat)) (e : Nat × Nat) : twos (l ++ [e]) = twos l ++ two e := by simp [twos]

set_option maxRecDepth 1000000 in
theorem Tryz.infoEdge : (Tryz.prog.info? 44).map (fun i => (i.zero, i.size, i.bytes)) = some (some (.agg #[.int .i64 0, .int .i64 0]), 2, 16) := by kernel_rfl

theorem twos_get : ∀ (ss : List (Nat × Nat)) (j : Nat), j < ss.length * 2 → (twos ss)[j]? = some ((two (ss.getD (j / 2) (0, 0))).getD (j % 2) undef)
  | [], j, h => by simp at h
  | e :: l, 0, _ => rfl
  | e :: l, 1, _ => rfl
  | e :: l, j + 2, h => by
    have ih := twos_get l j (by simp at h; omega)
    rw [show twos (e :: l) = two e ++ twos l by simp [twos], List.getElem?_append_right (by simp [two]), show j + 2 - (two e).length = j by simp [two], ih]
    rw [show (j + 2) / 2 = j / 2 + 1 by omega, show (j + 2) % 2 = j % 2 by omega]
    rfl

structure EdgesAt (w : World) (a : Option Addr) (E : List (Nat × Nat)) : Prop where
  cell : ∀ i, i < E.length → ∃ b o, a = some ⟨b, o, none⟩ ∧ w.cell? ⟨b, o + i * 2, none⟩ = some (.int .i64 ((E.getD i (0, 0)).1 : Nat)) ∧ w.cell? ⟨b, o + i * 2 + 1, none⟩ = some (.int .i64 ((E.getD i (0, 0)).2 : Nat))

theorem own_edges {base n : Nat} {ty : TypeId} {v : Value} {F : List (Nat × Nat)} (h : w.ownsRow base ty 2 v n (twos F)) (hn : F.length = n) : ∃ a c, v = .slice a n c ∧ EdgesAt w a F ∧ n ≤ c ∧ c ≤ maxLen := by
  rcases h.2 with ⟨hv, h0⟩ | ⟨g', cap', cur, hv, hb, hg, h1, h2, h3, h4⟩
  · subst h0
    exact ⟨none, 0, hv, ⟨fun i hi => by omega⟩, Nat.le_refl _, Nat.zero_le _⟩
  · subst hv
    refine ⟨_, _, rfl, ⟨fun i hi => ⟨g', 0, rfl, ?_, ?_⟩⟩, h1, h2⟩
    · have e := twos_get F (i * 2) (by omega)
      rw [← h4, List.getElem?_take, if_pos (by omega), show i * 2 / 2 = i by omega, show i * 2 % 2 = 0 by omega] at e
      simp only [World.cell?, hg]
      simpa [two] using e
    · have e := twos_get F (i * 2 + 1) (by omega)
      rw [← h4, List.getElem?_take, if_pos (by omega), show (i * 2 + 1) / 2 = i by omega, show (i * 2 + 1) % 2 = 1 by omega] at e
      simp only [World.cell?, hg]
      simpa [two] using e

theorem own_mono {base base' n s : Nat} {ty : TypeId} {v : Value} {xs : List Value} (h : w.ownsRow base ty s v n xs) (hb : base' ≤ base) : w.ownsRow base' ty s v n xs := by
  refine ⟨h.1, ?_⟩
  rcases h.2 with h0 | ⟨g, cap, cur, hv, h1, h2⟩
  · exact Or.inl h0
  · exact Or.inr ⟨g, cap, cur, hv, Nat.le_trans hb h1, h2⟩

theorem own_keep {base n s : Nat} {ty : TypeId} {v : Value} {xs : List Value} (h : w.ownsRow base ty s v n xs) (hb : Below w.heap.size w w') : w'.ownsRow base ty s v n xs := by
  refine ⟨h.1, ?_⟩
  rcases h.2 with h0 | ⟨g, cap, cur, hv, h1, h2, h3⟩
  · exact Or.inl h0
  · exact Or.inr ⟨g, cap, cur, hv, h1, (hb.block g (Array.getElem?_eq_some_iff.1 h2).1).trans h2, h3⟩

theorem EdgesAt.below {a : Option Addr} (h : EdgesAt w a E) (hb : Below w.heap.size w w') : EdgesAt w' a E := ⟨fun i hi => by
  obtain ⟨b, o, e, h1, h2⟩ := h.cell i hi
  exact ⟨b, o, e, cell_keep hb h1, cell_keep hb h2⟩⟩

theorem two_new (w : World) (x y : Nat) : ∀ j u, (two (x, y))[j]? = some u → (w.alloc (.cells #[.int .i64 (x : Int), .int .i64 (y : Int)] 44)).cell? (Addr.add ⟨w.heap.size, 0, none⟩ j) = some u := fun j u hj => by
  match j, hj with
  | 0, hj => cases hj; simp [Addr.add]
  | 1, hj => cases hj; simp [Addr.add]

theorem two_one (l : List (Nat × Nat)) : ∀ u ∈ twos l, u.oneCell' = true := fun u hu => by
  simp only [twos, List.mem_flatMap, two, List.mem_cons, List.not_mem_nil, or_false] at hu
  obtain ⟨e, _, rfl | rfl⟩ := hu <;> rfl

end Go.Proofs.YtcfemppdeidjmacGreat.Br
