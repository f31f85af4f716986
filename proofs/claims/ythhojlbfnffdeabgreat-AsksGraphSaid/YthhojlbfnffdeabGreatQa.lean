/-
  The statements' own answer: is there such a node, how many nodes there may be, an edge of two nodes, its place in a list.
-/
import Derived.Test.YthhojlbfnffdeabGreatMg
import Derived.Test.YthhojlbfnffdeabGreatQs
namespace Go.Proofs.YthhojlbfnffdeabGreat
open Go.RowKit Go.Deep
set_option linter.unusedVariables false

variable {w w' : World} {L : Pl} {p p' : Nat → Nat} {E E' : List (Nat × Nat)}

set_option maxRecDepth 100000 in
set_option maxHeartbeats 400000 in
theorem of_edge (a b : Int) {w : World} :
    Calls Tryz.prog 17 #[.int .i64 a, .int .i64 b] w fun e w' => e = .returned (ev (min a b) (max a b)) ∧ w' = w.alloc (.cells #[.int .i64 (min a b), .int .i64 (max a b)] 41) := by
  obtain ⟨x, hx⟩ : ∃ x, x = min a b := ⟨_, rfl⟩
  obtain ⟨y, hy⟩ : ∃ y, y = max a b := ⟨_, rfl⟩
  have HX : Hid (x = min a b ∧ y = max a b) := ⟨hx, hy⟩
  rw [← hx, ← hy]
  clear hx hy
  by_cases h : a < b
  · go_enter Tryz.func17, Tryz.ntmps17
    go_wp2_with fail
    refine bodyPost_ret (results_cell_row rfl _ _ w.heap.size 41 _ (0, 0) _ rfl (heap_alloc_new _ _) Tryz.underlying41 rfl Tryz.sizeEdge) rfl ?_
    obtain ⟨hx, hy⟩ := HX.out
    rw [show x = a by omega, show y = b by omega]; exact ⟨rfl, rfl⟩
  · go_enter Tryz.func17, Tryz.ntmps17
    go_wp2_with fail
    refine bodyPost_ret (results_cell_row rfl _ _ w.heap.size 41 _ (0, 0) _ rfl (heap_alloc_new _ _) Tryz.underlying41 rfl Tryz.sizeEdge) rfl ?_
    obtain ⟨hx, hy⟩ := HX.out
    rw [show x = b by omega, show y = a by omega]; exact ⟨rfl, rfl⟩

/-- Is this the edge of x and y? -/
def IsOf (e : Nat × Nat) (x y : Int) : Prop := (e.1 : Int) = min x y ∧ (e.2 : Int) = max x y

set_option maxRecDepth 100000 in
set_option maxHeartbeats 2000000 in
theorem place_ref {a : Option Addr} {n c : Nat} (hE : EdgesAt w a E) (hn : E.length = n) (hn2 : n < 1000000) (x y : Int) :
    Calls Tryz.prog 13 #[.slice a n c, .int .i64 x, .int .i64 y] w fun e w' => ∃ r : Int, e = .returned (.int .i64 r) ∧ Below w.heap.size w w' ∧
      ((∃ j : Nat, j < n ∧ r = j ∧ IsOf (E.getD j (0, 0)) x y) ∨ (r = -1 ∧ ∀ e ∈ E, ¬ IsOf e x y)) := by
  have HC : Hid (∀ i, i < n → ∃ b, a = some ⟨b, 0, none⟩ ∧ w.cell? ⟨b, i * 2, none⟩ = some (.int .i64 ((E.getD i (0, 0)).1 : Nat)) ∧ w.cell? ⟨b, i * 2 + 1, none⟩ = some (.int .i64 ((E.getD i (0, 0)).2 : Nat))) := fun i hi => hE.cell i (by omega)
  have HEnd : Hid ((∀ j, j < n → ¬ IsOf (E.getD j (0, 0)) x y) → ∀ e ∈ E, ¬ IsOf e x y) := fun h e he => by
    obtain ⟨i, hi, rfl⟩ := List.mem_iff_getElem.1 he
    have := h i (by omega)
    rwa [List.getD_eq_getElem?_getD, List.getElem?_eq_getElem hi] at this
  clear hE hn
  go_enter Tryz.func13, Tryz.ntmps13
  go_wp2_with fail
  refine (of_edge x y).mono ?_
  rintro e w1 ⟨rfl, rfl⟩
  have HIs : Hid (∀ e : Nat × Nat, IsOf e x y ↔ (e.1 : Int) = min x y ∧ (e.2 : Int) = max x y) := fun _ => Iff.rfl
  generalize min x y = m1 at *
  generalize max x y = m2 at *
  dsimp only [ev]
  go_wp2_with fail
  have hb2 : Below w.heap.size w ((w.alloc (.cells #[.int .i64 m1, .int .i64 m2] 41)).alloc (.cells #[.int .i64 m1, .int .i64 m2] 41)) := ((Below.refl _ _).alloc (Nat.le_refl _) _).alloc (by simp) _
  have z1 : ((w.alloc (.cells #[.int .i64 m1, .int .i64 m2] 41)).alloc (.cells #[.int .i64 m1, .int .i64 m2] 41)).cell? ⟨w.heap.size + 1, 0, none⟩ = some (.int .i64 m1) := by simp
  have z2 : ((w.alloc (.cells #[.int .i64 m1, .int .i64 m2] 41)).alloc (.cells #[.int .i64 m1, .int .i64 m2] 41)).cell? ⟨w.heap.size + 1, 1, none⟩ = some (.int .i64 m2) := by simp
  generalize ((w.alloc (.cells #[.int .i64 m1, .int .i64 m2] 41)).alloc (.cells #[.int .i64 m1, .int .i64 m2] 41)) = W at *
  generalize w.heap.size + 1 = be at *
  have HB : Hid (Below w.heap.size w W) := hb2
  have HZ : Hid (W.cell? ⟨be, 0, none⟩ = some (.int .i64 m1) ∧ W.cell? ⟨be, 1, none⟩ = some (.int .i64 m2)) := ⟨z1, z2⟩
  clear hb2 z1 z2
  go_loopw [8] (fun i wr => ∃ j : Nat, j ≤ n ∧ i = .int .i64 (j : Nat) ∧ Below W.heap.size W wr ∧ ∀ i, i < j → ¬ IsOf (E.getD i (0, 0)) x y) (fun i _ => n - (intOf i).toNat)
  case atStart => exact ⟨0, Nat.zero_le _, rfl, Below.refl _ _, fun i hi => absurd hi (Nat.not_lt_zero _)⟩
  case round =>
    obtain ⟨j, hj, rfl, hb, hall⟩ := hrel
    have HAll : Hid (∀ i, i < j → ¬ IsOf (E.getD i (0, 0)) x y) := hall
    clear hall
    by_cases hlt : j < n
    · obtain ⟨b, rfl, q1, q2⟩ := HC.out j hlt
      replace q1 := cell_keep hb (cell_keep HB.out q1)
      replace q2 := cell_keep hb (cell_keep HB.out q2)
      have z1 := cell_keep hb HZ.out.1
      have z2 := cell_keep hb HZ.out.2
      obtain ⟨u, hu⟩ : ∃ u, (E.getD j (0, 0)).1 = u := ⟨_, rfl⟩
      obtain ⟨v, hv⟩ : ∃ v, (E.getD j (0, 0)).2 = v := ⟨_, rfl⟩
      rw [hu] at q1
      rw [hv] at q2
      have i0 : (0 : Int) ≤ (j : Int) := by omega
      have i1 : (j : Int) < (n : Int) := by omega
      have HU : Hid (IsOf (E.getD j (0, 0)) x y ↔ (u : Int) = m1 ∧ (v : Int) = m2) := by
        have := HIs.out (E.getD j (0, 0))
        rw [hu, hv] at this
        exact this
      clear hu hv
      by_cases h1 : (u : Int) = m1
      · by_cases h2 : (v : Int) = m2
        · have t1 : ((u : Int) == m1) = true := by rw [h1]; simp
          have t2 : ((v : Int) == m2) = true := by rw [h2]; simp
          have HY : Hid (IsOf (E.getD j (0, 0)) x y) := HU.out.2 ⟨h1, h2⟩
          clear h1 h2
          go_wp2_with fail
          go_quiet (fail)
          go_wp2_with fail
          go_ret
          exact ⟨_, rfl, below_step HB.out (below_step hb (below_drewN rfl)), Or.inl ⟨j, hlt, rfl, HY.out⟩⟩
        · have t1 : ((u : Int) == m1) = true := by rw [h1]; simp
          have t2 : ((v : Int) == m2) = false := by rw [beq_eq_false_iff_ne]; exact h2
          have HY : Hid (¬ IsOf (E.getD j (0, 0)) x y) := fun h => h2 (HU.out.1 h).2
          clear h1 h2
          go_wp2_with fail
          go_quiet (fail)
          go_wp2_with fail
          go_roundw
          case rel =>
            refine ⟨j + 1, by omega, by go_num, below_step hb (below_drewN rfl), fun i hi => ?_⟩
            rcases Nat.lt_or_ge i j with h3 | h3
            · exact HAll.out i h3
            · obtain rfl : i = j := by omega
              exact HY.out
          case measure => simp [intOf]; omega
      · have t1 : ((u : Int) == m1) = false := by rw [beq_eq_false_iff_ne]; exact h1
        have HY : Hid (¬ IsOf (E.getD j (0, 0)) x y) := fun h => h1 (HU.out.1 h).1
        clear h1
        go_wp2_with fail
        go_quiet (fail)
        go_wp2_with fail
        go_roundw
        case rel =>
          refine ⟨j + 1, by omega, by go_num, below_step hb (below_drewN rfl), fun i hi => ?_⟩
          rcases Nat.lt_or_ge i j with h3 | h3
          · exact HAll.out i h3
          · obtain rfl : i = j := by omega
            exact HY.out
        case measure => simp [intOf]; omega
    · have HY : Hid (∀ e ∈ E, ¬ IsOf e x y) := HEnd.out (fun i hi => HAll.out i (by omega))
      go_wp2_with fail
      go_ret
      exact ⟨_, rfl, below_step HB.out hb, Or.inr ⟨rfl, HY.out⟩⟩

end Go.Proofs.YthhojlbfnffdeabGreat
