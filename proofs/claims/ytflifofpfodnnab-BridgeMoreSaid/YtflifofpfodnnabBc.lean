/-
  The statements' own answer, for edges that came in (wherever their list begins): is there such a node, how many there may be; an edge of two nodes, where it stands in a list, a list without one; of each node the least one of its part; how many parts.
-/
import Derived.Test.YtflifofpfodnnabBa
import Derived.Test.YtflifofpfodnnabChecked
import Derived.WalkKit
import Derived.WalkSpells
import Derived.WalkLawsBesides
import Derived.Deep.RegionHeld3
import Derived.Deep.OwnRows
import Derived.OneCell
import Derived.BigQuiet
import Derived.BigRegion
import Derived.Below
import Derived.Maps.AppendAt
import Derived.Deep.AppendLies
namespace Go.Proofs.Ytflifofpfodnnab.Br
open Go.RowKit Go.Deep
open Go.RowKit (Below)
set_option linter.unusedVariables false

theorem Try.infoInt : (Try.prog.info? 3).map (fun i => (i.zero, i.size, i.bytes)) = some (some (.int .i64 0), 1, 8) := by kernel_rfl

theorem cell_keep {W w' : World} {p : Addr} {v : Value} (hb : Below W.heap.size W w') (h : W.cell? p = some v) : w'.cell? p = some v :=
  (hb.cell (World.block_lt_of_cell? _ _ h)).trans h
theorem below_step {w a b : World} (h1 : Below w.heap.size w a) (h2 : Below a.heap.size a b) : Below w.heap.size w b := h1.trans (h2.mono h1.size)
theorem below_drewN {w a : World} {n : Nat} (h : a = w.drewN n) : Below w.heap.size w a := by
  subst h
  induction n with
  | zero => exact Below.refl _ _
  | succ n ih => exact ih.drew

def ev (a b : Int) : Value := .agg #[.int .i64 a, .int .i64 b]

theorem cell_one_new (w : World) (v : Value) (t : TypeId) : ∀ k u, [v][k]? = some u → (w.alloc (.cells #[v] t)).cell? (Addr.add ⟨w.heap.size, 0, none⟩ k) = some u
  | 0, u, h => by simp at h; subst h; simp [Addr.add]
  | k + 1, u, h => by simp at h

variable {w w' : World} {p p' : Nat → Nat} {E E' : List (Nat × Nat)}

set_option maxHeartbeats 400000 in
theorem node_any (n a : Int) (w : World) (q : Bool) (hq : q = true ↔ (0 ≤ a ∧ a < n)) : Calls Try.prog 7 #[.int .i64 n, .int .i64 a] w fun e w' => e = .returned (.bool q) ∧ w' = w := by
  by_cases h1 : 0 ≤ a
  · by_cases h2 : a < n
    · obtain rfl := hq.2 ⟨h1, h2⟩
      clear hq
      go_enter Try.func7, Try.ntmps7
      go_wp2_with fail
      go_ret
      exact ⟨rfl, rfl⟩
    · obtain rfl : q = false := by rw [Bool.eq_false_iff]; exact fun h => h2 (hq.1 h).2
      clear hq
      go_enter Try.func7, Try.ntmps7
      go_wp2_with fail
      go_ret
      exact ⟨rfl, rfl⟩
  · obtain rfl : q = false := by rw [Bool.eq_false_iff]; exact fun h => h1 (hq.1 h).1
    clear hq
    go_enter Try.func7, Try.ntmps7
    go_wp2_with fail
    go_ret
    exact ⟨rfl, rfl⟩

/-- An edge's two cells. -/
def two (e : Nat × Nat) : List Value := [.int .i64 (e.1 : Int), .int .i64 (e.2 : Int)]
def twos (l : List (Nat × Nat)) : List Value := l.flatMap two

theorem twos_len (l : List (Nat × Nat)) : (twos l).length = l.length * 2 := by
  induction l with
  | nil => rfl
  | cons e l ih => simp only [twos, List.flatMap_cons, List.length_append] at ih ⊢; rw [ih]; simp [two]; omega

theorem twos_snoc (l : List (Nat × Nat)) (e : Nat × Nat) : twos (l ++ [e]) = twos l ++ two e := by simp [twos]

set_option maxRecDepth 1000000 in
theorem Try.infoEdge : (Try.prog.info? 38).map (fun i => (i.zero, i.size, i.bytes)) = some (some (.agg #[.int .i64 0, .int .i64 0]), 2, 16) := by kernel_rfl

theorem twos_get : ∀ (ss : List (Nat × Nat)) (j : Nat), j < ss.length * 2 → (twos ss)[j]? = some ((two (ss.getD (j / 2) (0, 0))).getD (j % 2) undef)
  | [], j, h => by simp at h
  | e :: l, 0, _ => rfl
  | e :: l, 1, _ => rfl
  | e :: l, j + 2, h => by
    have ih := twos_get l j (by simp at h; omega)
    rw [show twos (e :: l) = two e ++ twos l by simp [twos], List.getElem?_append_right (by simp [two]), show j + 2 - (two e).length = j by simp [two], ih]
    rw [show (j + 2) / 2 = j / 2 + 1 by omega, show (j + 2) % 2 = j % 2 by omega]
    rfl

/-- A list of edges lies in memory. -/
structure EdgesAt (w : World) (a : Option Addr) (E : List (Nat × Nat)) : Prop where
  cell : ∀ i, i < E.length → ∃ b o, a = some ⟨b, o, none⟩ ∧ w.cell? ⟨b, o + i * 2, none⟩ = some (.int .i64 ((E.getD i (0, 0)).1 : Nat)) ∧ w.cell? ⟨b, o + i * 2 + 1, none⟩ = some (.int .i64 ((E.getD i (0, 0)).2 : Nat))

theorem own_edges {base n : Nat} {ty : TypeId} {v : Value} {F : List (Nat × Nat)} (h : w.ownsRow base ty 2 v n (twos F)) (hn : F.length = n) : ∃ a c, v = .slice a n c ∧ EdgesAt w a F ∧ n ≤ c ∧ c ≤ maxLen := by
  rcases h.2 with ⟨hv, h0⟩ | ⟨g', cap', cur, hv, hb, hg, h1, h2, h3, h4⟩
  · subst h0
    exact ⟨none, 0, hv, ⟨fun i hi => by omega⟩, Nat.le_refl _, Nat.zero_le _⟩
  · subst hv
    refine ⟨_, _, rfl, ⟨fun i hi => ⟨g', 0, rfl, ?_, ?_⟩⟩, h1, h2⟩
    · have e := twos_get F (i * 2) (by omega)
      rw [← h4, List.getElem?_take, if_pos (by omega), show i * 2 / 2 = i by omega, show i * 2 % 2 = 0 by omega] at e
      simp only [World.cell?, hg]
      simpa [two] using e
    · have e := twos_get F (i * 2 + 1) (by omega)
      rw [← h4, List.getElem?_take, if_pos (by omega), show (i * 2 + 1) / 2 = i by omega, show (i * 2 + 1) % 2 = 1 by omega] at e
      simp only [World.cell?, hg]
      simpa [two] using e

theorem own_mono {base base' n s : Nat} {ty : TypeId} {v : Value} {xs : List Value} (h : w.ownsRow base ty s v n xs) (hb : base' ≤ base) : w.ownsRow base' ty s v n xs := by
  refine ⟨h.1, ?_⟩
  rcases h.2 with h0 | ⟨g, cap, cur, hv, h1, h2⟩
  · exact Or.inl h0
  · exact Or.inr ⟨g, cap, cur, hv, Nat.le_trans hb h1, h2⟩

theorem own_keep {base n s : Nat} {ty : TypeId} {v : Value} {xs : List Value} (h : w.ownsRow base ty s v n xs) (hb : Below w.heap.size w w') : w'.ownsRow base ty s v n xs := by
  refine ⟨h.1, ?_⟩
  rcases h.2 with h0 | ⟨g, cap, cur, hv, h1, h2, h3⟩
  · exact Or.inl h0
  · exact Or.inr ⟨g, cap, cur, hv, h1, (hb.block g (Array.getElem?_eq_some_iff.1 h2).1).trans h2, h3⟩

theorem EdgesAt.below {a : Option Addr} (h : EdgesAt w a E) (hb : Below w.heap.size w w') : EdgesAt w' a E := ⟨fun i hi => by
  obtain ⟨b, o, e, h1, h2⟩ := h.cell i hi
  exact ⟨b, o, e, cell_keep hb h1, cell_keep hb h2⟩⟩

theorem two_new (w : World) (x y : Nat) : ∀ j u, (two (x, y))[j]? = some u → (w.alloc (.cells #[.int .i64 (x : Int), .int .i64 (y : Int)] 38)).cell? (Addr.add ⟨w.heap.size, 0, none⟩ j) = some u := fun j u hj => by
  match j, hj with
  | 0, hj => cases hj; simp [Addr.add]
  | 1, hj => cases hj; simp [Addr.add]

/-- A list of numbers that may be written to. -/
structure Wr (w : World) (k n : Nat) (q : Nat → Nat) : Prop where
  cell : ∀ i, i < n → w.cell? ⟨k, i, none⟩ = some (.int .i64 (q i : Nat))
  free : ∀ i, i < n → w.frozen? ⟨k, i, none⟩ = false

theorem Wr.set {k n : Nat} {q : Nat → Nat} (h : Wr w k n q) (b x : Nat) (hb : b < n) : Wr (w.setCell ⟨k, b, none⟩ (.int .i64 (x : Nat))) k n (tell q b x) := by
  refine ⟨fun i hi => ?_, fun i hi => by rw [World.frozen?_setCell]; exact h.free i hi⟩
  unfold tell
  by_cases e : i = b
  · subst e
    rw [if_pos rfl]
    exact World.cell?_setCell_same (h := h.cell i hi) ..
  · rw [if_neg e]
    exact (World.cell?_setCell_other (h := by simp only [ne_eq, Addr.mk.injEq, not_and]; intro _ h1; exact absurd h1.symm e) ..).trans (h.cell i hi)

/-- The sum of such a list, read off the world. -/
def sumAt (w : World) (k n : Nat) : Nat := total (fun i => match w.cell? ⟨k, i, none⟩ with | some (.int _ x) => x.toNat | _ => 0) n

theorem Wr.sum {k n : Nat} {q : Nat → Nat} (h : Wr w k n q) : sumAt w k n = total q n := by
  unfold sumAt
  refine total_congr n fun i hi => ?_
  rw [h.cell i hi]
  exact Int.toNat_natCast _

theorem own_wr {base e cap k n : Nat} {q : Nat → Nat} (h : w.ownsRow base 3 1 (.slice (some ⟨k, 0, none⟩) n cap) n ((List.range n).map fun i => Value.int .i64 ((q i : Nat) : Int))) (hn : 0 < n) : Wr w k n q ∧ base ≤ k ∧ k < w.heap.size := by
  rcases h.2 with ⟨_, h0⟩ | ⟨g', cap', cur, hv, hb, hg, h1, h2, h3, h4⟩
  · omega
  · simp only [Value.slice.injEq, Option.some.injEq, Addr.mk.injEq, and_true, true_and] at hv
    obtain ⟨rfl, rfl⟩ := hv
    refine ⟨⟨fun i hi => ?_, fun i hi => by simp [World.frozen?, hg]⟩, hb, (Array.getElem?_eq_some_iff.1 hg).1⟩
    have e1 : (cur.toList.take (n * 1))[i]? = some (Value.int .i64 ((q i : Nat) : Int)) := by rw [h4]; simp [hi]
    rw [List.getElem?_take, if_pos (by omega)] at e1
    simp only [World.cell?, hg]
    simpa using e1

set_option maxRecDepth 100000 in
theorem Try.sizeEdge : (Try.prog.info? 38).map (·.size) = some 2 := by kernel_rfl

set_option maxRecDepth 100000 in
set_option maxHeartbeats 400000 in
theorem of_edge (a b : Int) {w : World} :
    Calls Try.prog 17 #[.int .i64 a, .int .i64 b] w fun e w' => e = .returned (ev (min a b) (max a b)) ∧ w' = w.alloc (.cells #[.int .i64 (min a b), .int .i64 (max a b)] 38) := by
  obtain ⟨x, hx⟩ : ∃ x, x = min a b := ⟨_, rfl⟩
  obtain ⟨y, hy⟩ : ∃ y, y = max a b := ⟨_, rfl⟩
  have HX : Hid (x = min a b ∧ y = max a b) := ⟨hx, hy⟩
  rw [← hx, ← hy]
  clear hx hy
  by_cases h : a < b
  · go_enter Try.func17, Try.ntmps17
    go_wp2_with fail
    refine bodyPost_ret (results_cell_row rfl _ _ w.heap.size 38 _ (0, 0) _ rfl (heap_alloc_new _ _) Try.underlying38 rfl Try.sizeEdge) rfl ?_
    obtain ⟨hx, hy⟩ := HX.out
    rw [show x = a by omega, show y = b by omega]; exact ⟨rfl, rfl⟩
  · go_enter Try.func17, Try.ntmps17
    go_wp2_with fail
    refine bodyPost_ret (results_cell_row rfl _ _ w.heap.size 38 _ (0, 0) _ rfl (heap_alloc_new _ _) Try.underlying38 rfl Try.sizeEdge) rfl ?_
    obtain ⟨hx, hy⟩ := HX.out
    rw [show x = b by omega, show y = a by omega]; exact ⟨rfl, rfl⟩

/-- Is this the edge of x and y? -/
def IsOf (e : Nat × Nat) (x y : Int) : Prop := (e.1 : Int) = min x y ∧ (e.2 : Int) = max x y

set_option maxRecDepth 100000 in
set_option maxHeartbeats 2000000 in
theorem place_ref {a : Option Addr} {n c : Nat} (hE : EdgesAt w a E) (hn : E.length = n) (hn2 : n < 1000000) (x y : Int) :
    Calls Try.prog 11 #[.slice a n c, .int .i64 x, .int .i64 y] w fun e w' => ∃ r : Int, e = .returned (.int .i64 r) ∧ Below w.heap.size w w' ∧
      ((∃ j : Nat, j < n ∧ r = j ∧ IsOf (E.getD j (0, 0)) x y) ∨ (r = -1 ∧ ∀ e ∈ E, ¬ IsOf e x y)) := by
  have HC : Hid (∀ i, i < n → ∃ b o, a = some ⟨b, o, none⟩ ∧ w.cell? ⟨b, o + i * 2, none⟩ = some (.int .i64 ((E.getD i (0, 0)).1 : Nat)) ∧ w.cell? ⟨b, o + i * 2 + 1, none⟩ = some (.int .i64 ((E.getD i (0, 0)).2 : Nat))) := fun i hi => hE.cell i (by omega)
  have HEnd : Hid ((∀ j, j < n → ¬ IsOf (E.getD j (0, 0)) x y) → ∀ e ∈ E, ¬ IsOf e x y) := fun h e he => by
    obtain ⟨i, hi, rfl⟩ := List.mem_iff_getElem.1 he
    have := h i (by omega)
    rwa [List.getD_eq_getElem?_getD, List.getElem?_eq_getElem hi] at this
  clear hE hn
  go_enter Try.func11, Try.ntmps11
  go_wp2_with fail
  refine (of_edge x y).mono ?_
  rintro e w1 ⟨rfl, rfl⟩
  have HIs : Hid (∀ e : Nat × Nat, IsOf e x y ↔ (e.1 : Int) = min x y ∧ (e.2 : Int) = max x y) := fun _ => Iff.rfl
  generalize min x y = m1 at *
  generalize max x y = m2 at *
  dsimp only [ev]
  go_wp2_with fail
  have hb2 : Below w.heap.size w ((w.alloc (.cells #[.int .i64 m1, .int .i64 m2] 38)).alloc (.cells #[.int .i64 m1, .int .i64 m2] 38)) := ((Below.refl _ _).alloc (Nat.le_refl _) _).alloc (by simp) _
  have z1 : ((w.alloc (.cells #[.int .i64 m1, .int .i64 m2] 38)).alloc (.cells #[.int .i64 m1, .int .i64 m2] 38)).cell? ⟨w.heap.size + 1, 0, none⟩ = some (.int .i64 m1) := by simp
  have z2 : ((w.alloc (.cells #[.int .i64 m1, .int .i64 m2] 38)).alloc (.cells #[.int .i64 m1, .int .i64 m2] 38)).cell? ⟨w.heap.size + 1, 1, none⟩ = some (.int .i64 m2) := by simp
  generalize ((w.alloc (.cells #[.int .i64 m1, .int .i64 m2] 38)).alloc (.cells #[.int .i64 m1, .int .i64 m2] 38)) = W at *
  generalize w.heap.size + 1 = be at *
  have HB : Hid (Below w.heap.size w W) := hb2
  have HZ : Hid (W.cell? ⟨be, 0, none⟩ = some (.int .i64 m1) ∧ W.cell? ⟨be, 1, none⟩ = some (.int .i64 m2)) := ⟨z1, z2⟩
  clear hb2 z1 z2
  go_loopw [8] (fun i wr => ∃ j : Nat, j ≤ n ∧ i = .int .i64 (j : Nat) ∧ Below W.heap.size W wr ∧ ∀ i, i < j → ¬ IsOf (E.getD i (0, 0)) x y) (fun i _ => n - (intOf i).toNat)
  case atStart => exact ⟨0, Nat.zero_le _, rfl, Below.refl _ _, fun i hi => absurd hi (Nat.not_lt_zero _)⟩
  case round =>
    obtain ⟨j, hj, rfl, hb, hall⟩ := hrel
    have HAll : Hid (∀ i, i < j → ¬ IsOf (E.getD i (0, 0)) x y) := hall
    clear hall
    by_cases hlt : j < n
    · obtain ⟨b, o, rfl, q1, q2⟩ := HC.out j hlt
      replace q1 := cell_keep hb (cell_keep HB.out q1)
      replace q2 := cell_keep hb (cell_keep HB.out q2)
      have z1 := cell_keep hb HZ.out.1
      have z2 := cell_keep hb HZ.out.2
      obtain ⟨u, hu⟩ : ∃ u, (E.getD j (0, 0)).1 = u := ⟨_, rfl⟩
      obtain ⟨v, hv⟩ : ∃ v, (E.getD j (0, 0)).2 = v := ⟨_, rfl⟩
      rw [hu] at q1
      rw [hv] at q2
      have i0 : (0 : Int) ≤ (j : Int) := by omega
      have i1 : (j : Int) < (n : Int) := by omega
      have HU : Hid (IsOf (E.getD j (0, 0)) x y ↔ (u : Int) = m1 ∧ (v : Int) = m2) := by
        have := HIs.out (E.getD j (0, 0))
        rw [hu, hv] at this
        exact this
      clear hu hv
      by_cases h1 : (u : Int) = m1
      · by_cases h2 : (v : Int) = m2
        · have t1 : ((u : Int) == m1) = true := by rw [h1]; simp
          have t2 : ((v : Int) == m2) = true := by rw [h2]; simp
          have HY : Hid (IsOf (E.getD j (0, 0)) x y) := HU.out.2 ⟨h1, h2⟩
          clear h1 h2
          go_wp2_with fail
          go_quiet (fail)
          go_wp2_with fail
          go_ret
          exact ⟨_, rfl, below_step HB.out (below_step hb (below_drewN rfl)), Or.inl ⟨j, hlt, rfl, HY.out⟩⟩
        · have t1 : ((u : Int) == m1) = true := by rw [h1]; simp
          have t2 : ((v : Int) == m2) = false := by rw [beq_eq_false_iff_ne]; exact h2
          have HY : Hid (¬ IsOf (E.getD j (0, 0)) x y) := fun h => h2 (HU.out.1 h).2
          clear h1 h2
          go_wp2_with fail
          go_quiet (fail)
          go_wp2_with fail
          go_roundw
          case rel =>
            refine ⟨j + 1, by omega, by go_num, below_step hb (below_drewN rfl), fun i hi => ?_⟩
            rcases Nat.lt_or_ge i j with h3 | h3
            · exact HAll.out i h3
            · obtain rfl : i = j := by omega
              exact HY.out
          case measure => simp [intOf]; omega
      · have t1 : ((u : Int) == m1) = false := by rw [beq_eq_false_iff_ne]; exact h1
        have HY : Hid (¬ IsOf (E.getD j (0, 0)) x y) := fun h => h1 (HU.out.1 h).1
        clear h1
        go_wp2_with fail
        go_quiet (fail)
        go_wp2_with fail
        go_roundw
        case rel =>
          refine ⟨j + 1, by omega, by go_num, below_step hb (below_drewN rfl), fun i hi => ?_⟩
          rcases Nat.lt_or_ge i j with h3 | h3
          · exact HAll.out i h3
          · obtain rfl : i = j := by omega
            exact HY.out
        case measure => simp [intOf]; omega
    · have HY : Hid (∀ e ∈ E, ¬ IsOf e x y) := HEnd.out (fun i hi => HAll.out i (by omega))
      go_wp2_with fail
      go_ret
      exact ⟨_, rfl, below_step HB.out hb, Or.inr ⟨rfl, HY.out⟩⟩

theorem edges_cells {b o : Nat} (h : EdgesAt w (some ⟨b, o, none⟩) E) (j : Nat) (u : Value) (hu : (twos E)[j]? = some u) : w.cell? ⟨b, o + j, none⟩ = some u := by
  have hj : j < E.length * 2 := by rw [← twos_len]; exact (List.getElem?_eq_some_iff.1 hu).1
  rw [twos_get E j hj] at hu
  obtain ⟨b', o', e, h1, h2⟩ := h.cell (j / 2) (by omega)
  simp only [Option.some.injEq, Addr.mk.injEq, and_true] at e
  obtain ⟨rfl, rfl⟩ := e
  generalize E.getD (j / 2) (0, 0) = x at *
  rcases Nat.mod_two_eq_zero_or_one j with c | c
  · rw [c] at hu
    rw [show j / 2 * 2 = j by omega] at h1
    rw [h1, ← hu]; rfl
  · rw [c] at hu
    rw [show o + j / 2 * 2 + 1 = o + j by omega] at h2
    rw [h2, ← hu]; rfl

theorem two_one (l : List (Nat × Nat)) : ∀ u ∈ twos l, u.oneCell' = true := fun u hu => by
  simp only [twos, List.mem_flatMap, two, List.mem_cons, List.not_mem_nil, or_false] at hu
  obtain ⟨e, _, rfl | rfl⟩ := hu <;> rfl

theorem add_at (b i j : Nat) : (⟨b, i, none⟩ : Addr).add j = ⟨b, i + j, none⟩ := by unfold Addr.add; split <;> simp_all

theorem twos_app (A B : List (Nat × Nat)) : twos (A ++ B) = twos A ++ twos B := by simp [twos]

end Go.Proofs.Ytflifofpfodnnab.Br
