/-
  Are two lists of edges, or of numbers, the same? What package bridge is to answer.
-/
import Derived.Test.YtgmadfiibaeleacDoorBb
import Derived.Test.YtgmadfiibaeleacDoorBc
namespace Go.Proofs.YtgmadfiibaeleacDoor.Br
open Go.RowKit Go.Deep
open Go.RowKit (Below)
set_option linter.unusedVariables false

variable {w w' : World} {E : List (Nat × Nat)} {l : List Nat} {f : Nat → Int × Int}

/-- A list of numbers, as it lies in memory. -/
structure IntsAt (w : World) (a : Option Addr) (n : Nat) (l : List Nat) : Prop where
  len : l.length = n
  cell : ∀ i, i < n → ∃ b o, a = some ⟨b, o, none⟩ ∧ w.cell? ⟨b, o + i, none⟩ = some (.int .i64 ((l.getD i 0 : Nat) : Int))

theorem IntsAt.below {a : Option Addr} {n : Nat} (h : IntsAt w a n l) (hb : Below w.heap.size w w') : IntsAt w' a n l := ⟨h.len, fun i hi => by
  obtain ⟨b, o, e, q⟩ := h.cell i hi
  exact ⟨b, o, e, cell_keep hb q⟩⟩

theorem edges_none (w : World) (a : Option Addr) : EdgesAt w a [] := ⟨fun i hi => absurd hi (Nat.not_lt_zero _)⟩
theorem ints_none (w : World) (a : Option Addr) : IntsAt w a 0 [] := ⟨rfl, fun i hi => absurd hi (Nat.not_lt_zero _)⟩

/-- Edges, as they lie in memory. -/
def EgAt (w : World) (a : Option Addr) (m : Nat) (f : Nat → Int × Int) : Prop :=
  ∀ i, i < m → ∃ b o, a = some ⟨b, o, none⟩ ∧ w.cell? ⟨b, o + i * 2, none⟩ = some (.int .i64 (f i).1) ∧ w.cell? ⟨b, o + i * 2 + 1, none⟩ = some (.int .i64 (f i).2)

theorem EgAt.below {a : Option Addr} {m : Nat} (h : EgAt w a m f) (hb : Below w.heap.size w w') : EgAt w' a m f := fun i hi => by
  obtain ⟨b, o, e, h1, h2⟩ := h i hi
  exact ⟨b, o, e, cell_keep hb h1, cell_keep hb h2⟩

/-- Edges that may be, as a list. -/
theorem EgAt.list {a : Option Addr} {m n : Nat} (h : EgAt w a m f) (hm : ∀ j, j < m → May n f j) : EdgesAt w a (edges f m) := ⟨fun i hi => by
  rw [edges_len] at hi
  obtain ⟨b, o, e, h1, h2⟩ := h i hi
  have hs := (hm i hi).1
  unfold Sane at hs
  rw [edges_getD hi]
  refine ⟨b, o, e, ?_, ?_⟩
  · show _ = some (Value.int .i64 (((f i).1.toNat : Nat) : Int))
    rw [Int.toNat_of_nonneg (by omega)]; exact h1
  · show _ = some (Value.int .i64 (((f i).2.toNat : Nat) : Int))
    rw [Int.toNat_of_nonneg (by omega)]; exact h2⟩

/-- Numbers as cells. -/
def ints (l : List Nat) : List Value := l.map fun x => Value.int .i64 ((x : Nat) : Int)

theorem ints_snoc (l : List Nat) (x : Nat) : ints (l ++ [x]) = ints l ++ [.int .i64 ((x : Nat) : Int)] := by simp [ints]

/-- An own row of numbers. -/
theorem own_ints {base n : Nat} {v : Value} {l : List Nat} (h : w.ownsRow base 3 1 v n (ints l)) (hn : l.length = n) : ∃ a c, v = .slice a n c ∧ IntsAt w a n l := by
  rcases h.2 with ⟨hv, h0⟩ | ⟨g', cap', cur, hv, hb, hg, h1, h2, h3, h4⟩
  · subst h0
    exact ⟨none, 0, hv, ⟨hn, fun i hi => by omega⟩⟩
  · subst hv
    refine ⟨_, _, rfl, ⟨hn, fun i hi => ⟨g', 0, rfl, ?_⟩⟩⟩
    have hi2 : i < l.length := by omega
    have e1 : (cur.toList.take (n * 1))[i]? = some (Value.int .i64 ((l.getD i 0 : Nat) : Int)) := by
      rw [h4, ints, List.getElem?_map, List.getElem?_eq_getElem hi2, List.getD_eq_getElem?_getD, List.getElem?_eq_getElem hi2]; rfl
    rw [List.getElem?_take, if_pos (by omega)] at e1
    simp only [World.cell?, hg, Nat.zero_add]
    simpa using e1

/-- The list of all nodes' least fellows. -/
def parts (n : Nat) (p : Nat → Nat) : List Nat := (List.range n).map p

theorem parts_at {k n : Nat} {p : Nat → Nat} (h : ∀ i, i < n → w.cell? ⟨k, i, none⟩ = some (.int .i64 (p i : Nat))) : IntsAt w (some ⟨k, 0, none⟩) n (parts n p) := ⟨by simp [parts], fun i hi => ⟨k, 0, rfl, by
  rw [Nat.zero_add, h i hi]
  simp [parts, List.getD_eq_getElem?_getD, hi]⟩⟩

/-- The edges of a list, as a function. -/
def fn (F : List (Nat × Nat)) : Nat → Int × Int := fun i => (((F.getD i (0, 0)).1 : Nat), ((F.getD i (0, 0)).2 : Nat))

theorem fn_edges (F : List (Nat × Nat)) : edges (fn F) F.length = F := by
  refine List.ext_getElem? fun i => ?_
  rcases Nat.lt_or_ge i F.length with h | h
  · rw [edges_get h, List.getElem?_eq_getElem h]
    simp [fn, List.getD_eq_getElem?_getD, List.getElem?_eq_getElem h]
  · rw [List.getElem?_eq_none (by rw [edges_len]; exact h), List.getElem?_eq_none h]

theorem fn_may {F : List (Nat × Nat)} {n : Nat} (hu : Up F) (hl : ∀ e ∈ F, e.1 < e.2 ∧ e.2 < n) : ∀ j, j < F.length → May n (fn F) j := fun j hj => by
  have e1 : ∀ i (h : i < F.length), F.getD i (0, 0) = F[i] := fun i h => by simp [List.getD_eq_getElem?_getD, List.getElem?_eq_getElem h]
  refine ⟨?_, fun h0 => ?_⟩
  · have := hl _ (List.getElem_mem hj)
    unfold Sane fn
    rw [e1 j hj]
    refine ⟨?_, ?_, ?_⟩ <;> show _ <;> simp <;> omega
  · have := List.pairwise_iff_getElem.1 hu (j - 1) j (by omega) hj (by omega)
    unfold fn
    rw [e1 j hj, e1 (j - 1) (by omega)]
    show ((F[j - 1].1 : Nat) : Int) < _ ∨ _ = _ ∧ ((F[j - 1].2 : Nat) : Int) < _
    simp
    omega

theorem fn_at {a : Option Addr} {F : List (Nat × Nat)} (h : EdgesAt w a F) : EgAt w a F.length (fn F) := fun i hi => h.cell i hi

set_option maxRecDepth 100000 in
set_option maxHeartbeats 2000000 in
theorem edges_same {a a' : Option Addr} {n c c' : Nat} (hE : E.length = n) (h : EdgesAt w a E) (h' : EdgesAt w a' E) (hn : n < 1000000) :
    Calls Tryd.prog 8 #[.slice a n c, .slice a' n c'] w fun e w' => e = .returned (.bool true) ∧ Below w.heap.size w w' := by
  have HC : Hid (∀ i, i < n → ∃ b o b' o' x y, a = some ⟨b, o, none⟩ ∧ a' = some ⟨b', o', none⟩ ∧ w.cell? ⟨b, o + i * 2, none⟩ = some (.int .i64 x) ∧ w.cell? ⟨b, o + i * 2 + 1, none⟩ = some (.int .i64 y) ∧ w.cell? ⟨b', o' + i * 2, none⟩ = some (.int .i64 x) ∧ w.cell? ⟨b', o' + i * 2 + 1, none⟩ = some (.int .i64 y)) := fun i hi => by
    obtain ⟨b, o, e1, q1, q2⟩ := h.cell i (by omega)
    obtain ⟨b', o', e2, q3, q4⟩ := h'.cell i (by omega)
    exact ⟨b, o, b', o', _, _, e1, e2, q1, q2, q3, q4⟩
  clear h h' hE
  go_enter Tryd.func8, Tryd.ntmps8
  go_wp2_with fail
  go_loopw [5] (fun i wr => ∃ j : Nat, j ≤ n ∧ i = .int .i64 (j : Nat) ∧ Below w.heap.size w wr) (fun i _ => n - (intOf i).toNat)
  case atStart => exact ⟨0, Nat.zero_le _, rfl, Below.refl _ _⟩
  case round =>
    obtain ⟨j, hj, rfl, hb⟩ := hrel
    by_cases hlt : j < n
    · obtain ⟨b, o, b', o', x, y, rfl, rfl, q1, q2, q3, q4⟩ := HC.out j hlt
      replace q1 := cell_keep hb q1
      replace q2 := cell_keep hb q2
      replace q3 := cell_keep hb q3
      replace q4 := cell_keep hb q4
      have HB : Hid (Below w.heap.size w wr) := hb
      have i0 : (0 : Int) ≤ (j : Int) := by omega
      have i1 : (j : Int) < (n : Int) := by omega
      clear hb
      go_wp2_with fail
      go_quiet (fail)
      go_wp2_with fail
      go_roundw
      case rel => exact ⟨j + 1, by omega, by go_num, below_step HB.out (below_drewN rfl)⟩
      case measure => simp [intOf]; omega
    · obtain rfl : j = n := by omega
      go_wp2_with fail
      go_ret
      exact ⟨rfl, hb⟩

end Go.Proofs.YtgmadfiibaeleacDoor.Br
