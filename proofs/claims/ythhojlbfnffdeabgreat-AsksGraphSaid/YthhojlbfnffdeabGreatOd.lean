/-
  Are two lists of answers, or of pairs, the same? Events as they lie in memory.
-/
import Derived.Test.YthhojlbfnffdeabGreatOc
namespace Go.Proofs.YthhojlbfnffdeabGreat.As
open Go.RowKit Go.Deep
open Go.RowKit (Below)
set_option linter.unusedVariables false

variable {w w' : World} {l : List Bool} {E : List (Nat × Nat)}

/-- A list of answers, as it lies in memory. -/
structure BoolsAt (w : World) (a : Option Addr) (n : Nat) (l : List Bool) : Prop where
  len : l.length = n
  cell : ∀ i, i < n → ∃ b o, a = some ⟨b, o, none⟩ ∧ w.cell? ⟨b, o + i, none⟩ = some (.bool (l.getD i false))

theorem BoolsAt.below {a : Option Addr} {n : Nat} (h : BoolsAt w a n l) (hb : Below w.heap.size w w') : BoolsAt w' a n l := ⟨h.len, fun i hi => by
  obtain ⟨b, o, e, q⟩ := h.cell i hi
  exact ⟨b, o, e, cell_keep hb q⟩⟩

/-- Two rows of different kinds: the one stays where the other grows. -/
theorem own_grown {base base' n n' s s' : Nat} {ty ty' : TypeId} {v v' : Value} {xs xs' : List Value} (h : w.ownsRow base ty s v n xs) (h' : w.ownsRow base' ty' s' v' n' xs') (hne : ty ≠ ty') (hg : w.grownBy w' v'.ownBlock) : w'.ownsRow base ty s v n xs := by
  refine ⟨h.1, ?_⟩
  rcases h.2 with h0 | ⟨g, cap, cur, hv, h1, h2, h3⟩
  · exact Or.inl h0
  · refine Or.inr ⟨g, cap, cur, hv, h1, ?_, h3⟩
    rw [hg.block g (Array.getElem?_eq_some_iff.1 h2).1 (fun e => ?_)]
    · exact h2
    · rcases h'.2 with ⟨q, _⟩ | ⟨g', cap', cur', hv', q1, q2, _⟩
      · rw [q] at e
        cases e
      · rw [hv'] at e
        cases e
        rw [h2] at q2
        cases q2
        exact hne rfl

/-- Answers as cells. -/
def bools (l : List Bool) : List Value := l.map Value.bool

theorem bools_snoc (l : List Bool) (b : Bool) : bools (l ++ [b]) = bools l ++ [.bool b] := by simp [bools]

theorem own_bools {base n : Nat} {v : Value} {l : List Bool} (h : w.ownsRow base 4 1 v n (bools l)) (hn : l.length = n) : ∃ a c, v = .slice a n c ∧ BoolsAt w a n l ∧ n ≤ c ∧ c ≤ maxLen := by
  rcases h.2 with ⟨hv, h0⟩ | ⟨g', cap', cur, hv, hb, hg, h1, h2, h3, h4⟩
  · subst h0
    exact ⟨none, 0, hv, ⟨hn, fun i hi => by omega⟩, Nat.le_refl _, Nat.zero_le _⟩
  · subst hv
    refine ⟨_, _, rfl, ⟨hn, fun i hi => ⟨g', 0, rfl, ?_⟩⟩, h1, h2⟩
    have hi2 : i < l.length := by omega
    have e1 : (cur.toList.take (n * 1))[i]? = some (Value.bool (l.getD i false)) := by
      rw [h4, bools, List.getElem?_map, List.getElem?_eq_getElem hi2, List.getD_eq_getElem?_getD, List.getElem?_eq_getElem hi2]; rfl
    rw [List.getElem?_take, if_pos (by omega)] at e1
    simp only [World.cell?, hg, Nat.zero_add]
    simpa using e1

/-- The same, of a slice that is told. -/
theorem own_at {base n c : Nat} {a : Option Addr} {l : List Bool} (h : w.ownsRow base 4 1 (.slice a n c) n (bools l)) (hn : l.length = n) : BoolsAt w a n l := by
  obtain ⟨a', c', e, q, _⟩ := own_bools h hn
  cases e
  exact q

set_option maxRecDepth 100000 in
theorem Tryz.infoBool : (Tryz.prog.info? 4).map (fun i => (i.zero, i.size, i.bytes)) = some (some (.bool false), 1, 1) := by kernel_rfl

set_option maxRecDepth 100000 in
set_option maxHeartbeats 2000000 in
theorem bools_same {a a' : Option Addr} {n c c' : Nat} (h : BoolsAt w a n l) (h' : BoolsAt w a' n l) (hn : n < 1000000) :
    Calls Tryz.prog 23 #[.slice a n c, .slice a' n c'] w fun e w' => e = .returned (.bool true) ∧ Below w.heap.size w w' := by
  have HC : Hid (∀ i, i < n → ∃ b o b' o' q, a = some ⟨b, o, none⟩ ∧ a' = some ⟨b', o', none⟩ ∧ w.cell? ⟨b, o + i, none⟩ = some (.bool q) ∧ w.cell? ⟨b', o' + i, none⟩ = some (.bool q)) := fun i hi => by
    obtain ⟨b, o, e, q⟩ := h.cell i hi
    obtain ⟨b', o', e', q'⟩ := h'.cell i hi
    exact ⟨b, o, b', o', _, e, e', q, q'⟩
  clear h h'
  go_enter Tryz.func23, Tryz.ntmps23
  go_wp2_with fail
  go_loopw [5] (fun i wr => ∃ j : Nat, j ≤ n ∧ i = .int .i64 (j : Nat) ∧ Below w.heap.size w wr) (fun i _ => n - (intOf i).toNat)
  case atStart => exact ⟨0, Nat.zero_le _, rfl, Below.refl _ _⟩
  case round =>
    obtain ⟨j, hj, rfl, hb⟩ := hrel
    by_cases hlt : j < n
    · obtain ⟨b, o, b', o', q, rfl, rfl, q1, q2⟩ := HC.out j hlt
      replace q1 := cell_keep hb q1
      replace q2 := cell_keep hb q2
      have HB : Hid (Below w.heap.size w wr) := hb
      have i0 : (0 : Int) ≤ (j : Int) := by omega
      have i1 : (j : Int) < (n : Int) := by omega
      clear hb
      go_wp2_with fail
      go_quiet (fail)
      go_wp2_with fail
      go_roundw
      case rel => exact ⟨j + 1, by omega, by go_num, below_step HB.out (below_drewN rfl)⟩
      case measure => simp [intOf]; omega
    · obtain rfl : j = n := by omega
      go_wp2_with fail
      go_ret
      exact ⟨rfl, hb⟩

/-- Events, as they lie in memory. -/
def EvAt (w : World) (a : Option Addr) (m : Nat) (f : Nat → Int × Int × Int) : Prop :=
  ∀ i, i < m → ∃ b o, a = some ⟨b, o, none⟩ ∧ w.cell? ⟨b, o + i * 3, none⟩ = some (.int .i64 (f i).1) ∧ w.cell? ⟨b, o + i * 3 + 1, none⟩ = some (.int .i64 (f i).2.1) ∧ w.cell? ⟨b, o + i * 3 + 2, none⟩ = some (.int .i64 (f i).2.2)

theorem EvAt.below {a : Option Addr} {m : Nat} {f : Nat → Int × Int × Int} (h : EvAt w a m f) (hb : Below w.heap.size w w') : EvAt w' a m f := fun i hi => by
  obtain ⟨b, o, e, h1, h2, h3⟩ := h i hi
  exact ⟨b, o, e, cell_keep hb h1, cell_keep hb h2, cell_keep hb h3⟩

/-- The nodes that are told are numbers of the machine. -/
def Fits (f : Nat → Int × Int × Int) (m : Nat) : Prop := ∀ i, i < m → (Lit.int .i64 (f i).2.1).wf = true ∧ (Lit.int .i64 (f i).2.2).wf = true

theorem Fits.of_may {f : Nat → Int × Int × Int} {n m : Nat} (hn : n ≤ 60) (h : ∀ j, j < m → May n f j) : Fits f m := fun i hi => by
  have h1 := (h i hi).a
  have h2 := (h i hi).b
  exact ⟨WalkArith.wf_i64 (by omega), WalkArith.wf_i64 (by omega)⟩

theorem Fits.less {f : Nat → Int × Int × Int} {m k : Nat} (h : Fits f m) (hk : k ≤ m) : Fits f k := fun i hi => h i (by omega)

end Go.Proofs.YthhojlbfnffdeabGreat.As
