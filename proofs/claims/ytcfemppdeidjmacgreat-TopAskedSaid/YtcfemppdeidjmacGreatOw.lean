/-
  What package asks holds of one event: its edge, and what is wrong with it.
-/
import Derived.Test.YtcfemppdeidjmacGreatOv
namespace Go.Proofs.YtcfemppdeidjmacGreat.As
open Go.RowKit Go.Deep
open Go.RowKit (Below)
set_option linter.unusedVariables false

variable {w w' : World} {f : Nat → Int × Int × Int}

set_option maxHeartbeats 400000 in
theorem anode_any (n a : Int) (w : World) (q : Bool) (hq : q = true ↔ (0 ≤ a ∧ a < n)) : Calls Tryz.prog 193 #[.int .i64 n, .int .i64 a] w fun e w' => e = .returned (.bool q) ∧ w' = w := by
  by_cases h1 : 0 ≤ a
  · by_cases h2 : a < n
    · obtain rfl := hq.2 ⟨h1, h2⟩
      clear hq
      go_enter Tryz.func193, Tryz.ntmps193
      go_wp2_with fail
      go_ret
      exact ⟨rfl, rfl⟩
    · obtain rfl : q = false := by rw [Bool.eq_false_iff]; exact fun h => h2 (hq.1 h).2
      clear hq
      go_enter Tryz.func193, Tryz.ntmps193
      go_wp2_with fail
      go_ret
      exact ⟨rfl, rfl⟩
  · obtain rfl : q = false := by rw [Bool.eq_false_iff]; exact fun h => h1 (hq.1 h).1
    clear hq
    go_enter Tryz.func193, Tryz.ntmps193
    go_wp2_with fail
    go_ret
    exact ⟨rfl, rfl⟩

theorem anode_yes (n a : Int) (w : World) (h : 0 ≤ a ∧ a < n) : Calls Tryz.prog 193 #[.int .i64 n, .int .i64 a] w fun e w' => e = .returned (.bool true) ∧ w' = w := anode_any n a w true ⟨fun _ => h, fun _ => rfl⟩
theorem anode_no (n a : Int) (w : World) (h : ¬ (0 ≤ a ∧ a < n)) : Calls Tryz.prog 193 #[.int .i64 n, .int .i64 a] w fun e w' => e = .returned (.bool false) ∧ w' = w := anode_any n a w false ⟨fun q => absurd q (by decide), fun q => absurd q h⟩

theorem Tryz.sizeEd : (Tryz.prog.info? 44).map (·.size) = some 2 := by kernel_rfl

theorem heap_two (w : World) (o1 o2 : Obj) : ((w.alloc o1).alloc o2).heap[w.heap.size + 1]? = some o2 := by
  have := heap_alloc_new (w.alloc o1) o2
  simpa using this

set_option maxRecDepth 100000 in
set_option maxHeartbeats 1000000 in
theorem aedge_any (q x y : Int) (w : World) : Calls Tryz.prog 158 #[.agg #[.int .i64 q, .int .i64 x, .int .i64 y]] w fun e w' => e = .returned (.agg #[.int .i64 (min x y), .int .i64 (max x y)]) ∧ Below w.heap.size w w' := by
  obtain ⟨a, ha⟩ : ∃ a, a = min x y := ⟨_, rfl⟩
  obtain ⟨b, hb⟩ : ∃ b, b = max x y := ⟨_, rfl⟩
  have HX : Hid (a = min x y ∧ b = max x y) := ⟨ha, hb⟩
  rw [← ha, ← hb]
  clear ha hb
  go_enter Tryz.func158, Tryz.ntmps158
  go_wp2_with fail
  all_goals
    refine bodyPost_ret (results_cell_row rfl _ _ (w.heap.size + 1) 44 _ (0, 0) _ rfl (heap_two _ _ _) Tryz.underlying44 rfl Tryz.sizeEd) rfl ?_
    obtain ⟨ha, hb⟩ := HX.out
    refine ⟨?_, ((Below.refl _ _).alloc (Nat.le_refl _) _).alloc (by simp) _⟩
    subst ha hb
    congr <;> omega

/-- An error, by its number. -/
def errOf (x : Int) : Value := if x = 0 then .nilIface else .iface 102 (.int .i64 x)

/-- What is wrong with an event of which the edge is there, or is not. -/
def badOf (n q x y : Int) (there : Bool) : Int :=
  if ¬ (1 ≤ q ∧ q ≤ 3) then 1 else if ¬ (0 ≤ x ∧ x < n) ∨ ¬ (0 ≤ y ∧ y < n) then 1 else if q ≠ 3 ∧ x = y then 2 else if q = 1 ∧ there = true then 6 else if q = 2 ∧ there = false then 4 else 0

set_option maxRecDepth 100000 in
set_option maxHeartbeats 4000000 in
theorem wrong_what (n q x y : Int) (t : Bool) (w : World) (h : ¬ (1 ≤ q ∧ q ≤ 3)) : Calls Tryz.prog 159 #[.int .i64 n, .agg #[.int .i64 q, .int .i64 x, .int .i64 y], .bool t] w fun e w' => e = .returned (errOf 1) ∧ Below w.heap.size w w' := by
  have t1 : (q != 1) = true := by rw [bne_iff_ne]; omega
  have t2 : (q != 2) = true := by rw [bne_iff_ne]; omega
  have t3 : (q != 3) = true := by rw [bne_iff_ne]; omega
  clear h
  go_enter Tryz.func159, Tryz.ntmps159
  go_wp2_with fail
  go_ret
  exact ⟨rfl, (Below.refl _ _).alloc (Nat.le_refl _) _⟩

set_option maxRecDepth 100000 in
set_option maxHeartbeats 4000000 in
theorem wrong_x1 (n x y : Int) (t : Bool) (w : World) (hx : Hid (¬ (0 ≤ x ∧ x < n))) : Calls Tryz.prog 159 #[.int .i64 n, .agg #[.int .i64 1, .int .i64 x, .int .i64 y], .bool t] w fun e w' => e = .returned (errOf 1) ∧ Below w.heap.size w w' := by
  go_enter Tryz.func159, Tryz.ntmps159
  go_wp2_with fail
  refine (anode_no n x _ hx.out).mono ?_
  rintro e w1 ⟨rfl, rfl⟩
  go_wp2_with fail
  go_ret
  exact ⟨rfl, (Below.refl _ _).alloc (Nat.le_refl _) _⟩

set_option maxRecDepth 100000 in
set_option maxHeartbeats 1000000 in
theorem wrong_y1 (n x y : Int) (t : Bool) (w : World) (hx : Hid (0 ≤ x ∧ x < n)) (hy : Hid (¬ (0 ≤ y ∧ y < n))) : Calls Tryz.prog 159 #[.int .i64 n, .agg #[.int .i64 1, .int .i64 x, .int .i64 y], .bool t] w fun e w' => e = .returned (errOf 1) ∧ Below w.heap.size w w' := by
  go_enter Tryz.func159, Tryz.ntmps159
  go_wp2_with fail
  refine (anode_yes n x _ hx.out).mono ?_
  rintro e w1 ⟨rfl, rfl⟩
  go_wp2_with fail
  refine (anode_no n y _ hy.out).mono ?_
  rintro e w1 ⟨rfl, rfl⟩
  go_wp2_with fail
  go_ret
  exact ⟨rfl, (Below.refl _ _).alloc (Nat.le_refl _) _⟩

set_option maxRecDepth 100000 in
set_option maxHeartbeats 1000000 in
theorem wrong_x2 (n x y : Int) (t : Bool) (w : World) (hx : Hid (¬ (0 ≤ x ∧ x < n))) : Calls Tryz.prog 159 #[.int .i64 n, .agg #[.int .i64 2, .int .i64 x, .int .i64 y], .bool t] w fun e w' => e = .returned (errOf 1) ∧ Below w.heap.size w w' := by
  go_enter Tryz.func159, Tryz.ntmps159
  go_wp2_with fail
  refine (anode_no n x _ hx.out).mono ?_
  rintro e w1 ⟨rfl, rfl⟩
  go_wp2_with fail
  go_ret
  exact ⟨rfl, (Below.refl _ _).alloc (Nat.le_refl _) _⟩

set_option maxRecDepth 100000 in
set_option maxHeartbeats 1000000 in
theorem wrong_y2 (n x y : Int) (t : Bool) (w : World) (hx : Hid (0 ≤ x ∧ x < n)) (hy : Hid (¬ (0 ≤ y ∧ y < n))) : Calls Tryz.prog 159 #[.int .i64 n, .agg #[.int .i64 2, .int .i64 x, .int .i64 y], .bool t] w fun e w' => e = .returned (errOf 1) ∧ Below w.heap.size w w' := by
  go_enter Tryz.func159, Tryz.ntmps159
  go_wp2_with fail
  refine (anode_yes n x _ hx.out).mono ?_
  rintro e w1 ⟨rfl, rfl⟩
  go_wp2_with fail
  refine (anode_no n y _ hy.out).mono ?_
  rintro e w1 ⟨rfl, rfl⟩
  go_wp2_with fail
  go_ret
  exact ⟨rfl, (Below.refl _ _).alloc (Nat.le_refl _) _⟩

set_option maxRecDepth 100000 in
set_option maxHeartbeats 1000000 in
theorem wrong_x3 (n x y : Int) (t : Bool) (w : World) (hx : Hid (¬ (0 ≤ x ∧ x < n))) : Calls Tryz.prog 159 #[.int .i64 n, .agg #[.int .i64 3, .int .i64 x, .int .i64 y], .bool t] w fun e w' => e = .returned (errOf 1) ∧ Below w.heap.size w w' := by
  go_enter Tryz.func159, Tryz.ntmps159
  go_wp2_with fail
  refine (anode_no n x _ hx.out).mono ?_
  rintro e w1 ⟨rfl, rfl⟩
  go_wp2_with fail
  go_ret
  exact ⟨rfl, (Below.refl _ _).alloc (Nat.le_refl _) _⟩

set_option maxRecDepth 100000 in
set_option maxHeartbeats 1000000 in
theorem wrong_y3 (n x y : Int) (t : Bool) (w : World) (hx : Hid (0 ≤ x ∧ x < n)) (hy : Hid (¬ (0 ≤ y ∧ y < n))) : Calls Tryz.prog 159 #[.int .i64 n, .agg #[.int .i64 3, .int .i64 x, .int .i64 y], .bool t] w fun e w' => e = .returned (errOf 1) ∧ Below w.heap.size w w' := by
  go_enter Tryz.func159, Tryz.ntmps159
  go_wp2_with fail
  refine (anode_yes n x _ hx.out).mono ?_
  rintro e w1 ⟨rfl, rfl⟩
  go_wp2_with fail
  refine (anode_no n y _ hy.out).mono ?_
  rintro e w1 ⟨rfl, rfl⟩
  go_wp2_with fail
  go_ret
  exact ⟨rfl, (Below.refl _ _).alloc (Nat.le_refl _) _⟩

set_option maxRecDepth 100000 in
set_option maxHeartbeats 1000000 in
theorem wrong_s1 (n x : Int) (t : Bool) (w : World) (hx : Hid (0 ≤ x ∧ x < n)) : Calls Tryz.prog 159 #[.int .i64 n, .agg #[.int .i64 1, .int .i64 x, .int .i64 x], .bool t] w fun e w' => e = .returned (errOf 2) ∧ Below w.heap.size w w' := by
  go_enter Tryz.func159, Tryz.ntmps159
  go_wp2_with fail
  refine (anode_yes n x _ hx.out).mono ?_
  rintro e w1 ⟨rfl, rfl⟩
  go_wp2_with fail
  refine (anode_yes n x _ hx.out).mono ?_
  rintro e w1 ⟨rfl, rfl⟩
  go_wp2_with fail
  go_ret
  exact ⟨rfl, (Below.refl _ _).alloc (Nat.le_refl _) _⟩

set_option maxRecDepth 100000 in
set_option maxHeartbeats 1000000 in
theorem wrong_s2 (n x : Int) (t : Bool) (w : World) (hx : Hid (0 ≤ x ∧ x < n)) : Calls Tryz.prog 159 #[.int .i64 n, .agg #[.int .i64 2, .int .i64 x, .int .i64 x], .bool t] w fun e w' => e = .returned (errOf 2) ∧ Below w.heap.size w w' := by
  go_enter Tryz.func159, Tryz.ntmps159
  go_wp2_with fail
  refine (anode_yes n x _ hx.out).mono ?_
  rintro e w1 ⟨rfl, rfl⟩
  go_wp2_with fail
  refine (anode_yes n x _ hx.out).mono ?_
  rintro e w1 ⟨rfl, rfl⟩
  go_wp2_with fail
  go_ret
  exact ⟨rfl, (Below.refl _ _).alloc (Nat.le_refl _) _⟩

set_option maxRecDepth 100000 in
set_option maxHeartbeats 1000000 in
theorem wrong_at1 (n x y : Int) (w : World) (hx : Hid (0 ≤ x ∧ x < n)) (hy : Hid (0 ≤ y ∧ y < n)) (hne : x ≠ y) : Calls Tryz.prog 159 #[.int .i64 n, .agg #[.int .i64 1, .int .i64 x, .int .i64 y], .bool true] w fun e w' => e = .returned (errOf 6) ∧ Below w.heap.size w w' := by
  have te : (x == y) = false := by rw [beq_eq_false_iff_ne]; exact hne
  go_enter Tryz.func159, Tryz.ntmps159
  go_wp2_with fail
  refine (anode_yes n x _ hx.out).mono ?_
  rintro e w1 ⟨rfl, rfl⟩
  go_wp2_with fail
  refine (anode_yes n y _ hy.out).mono ?_
  rintro e w1 ⟨rfl, rfl⟩
  go_wp2_with fail
  go_ret
  exact ⟨rfl, (Below.refl _ _).alloc (Nat.le_refl _) _⟩

set_option maxRecDepth 100000 in
set_option maxHeartbeats 1000000 in
theorem wrong_af1 (n x y : Int) (w : World) (hx : Hid (0 ≤ x ∧ x < n)) (hy : Hid (0 ≤ y ∧ y < n)) (hne : x ≠ y) : Calls Tryz.prog 159 #[.int .i64 n, .agg #[.int .i64 1, .int .i64 x, .int .i64 y], .bool false] w fun e w' => e = .returned (errOf 0) ∧ Below w.heap.size w w' := by
  have te : (x == y) = false := by rw [beq_eq_false_iff_ne]; exact hne
  go_enter Tryz.func159, Tryz.ntmps159
  go_wp2_with fail
  refine (anode_yes n x _ hx.out).mono ?_
  rintro e w1 ⟨rfl, rfl⟩
  go_wp2_with fail
  refine (anode_yes n y _ hy.out).mono ?_
  rintro e w1 ⟨rfl, rfl⟩
  go_wp2_with fail
  go_ret
  exact ⟨rfl, (Below.refl _ _).alloc (Nat.le_refl _) _⟩

set_option maxRecDepth 100000 in
set_option maxHeartbeats 1000000 in
theorem wrong_at2 (n x y : Int) (w : World) (hx : Hid (0 ≤ x ∧ x < n)) (hy : Hid (0 ≤ y ∧ y < n)) (hne : x ≠ y) : Calls Tryz.prog 159 #[.int .i64 n, .agg #[.int .i64 2, .int .i64 x, .int .i64 y], .bool true] w fun e w' => e = .returned (errOf 0) ∧ Below w.heap.size w w' := by
  have te : (x == y) = false := by rw [beq_eq_false_iff_ne]; exact hne
  go_enter Tryz.func159, Tryz.ntmps159
  go_wp2_with fail
  refine (anode_yes n x _ hx.out).mono ?_
  rintro e w1 ⟨rfl, rfl⟩
  go_wp2_with fail
  refine (anode_yes n y _ hy.out).mono ?_
  rintro e w1 ⟨rfl, rfl⟩
  go_wp2_with fail
  go_ret
  exact ⟨rfl, (Below.refl _ _).alloc (Nat.le_refl _) _⟩

set_option maxRecDepth 100000 in
set_option maxHeartbeats 1000000 in
theorem wrong_af2 (n x y : Int) (w : World) (hx : Hid (0 ≤ x ∧ x < n)) (hy : Hid (0 ≤ y ∧ y < n)) (hne : x ≠ y) : Calls Tryz.prog 159 #[.int .i64 n, .agg #[.int .i64 2, .int .i64 x, .int .i64 y], .bool false] w fun e w' => e = .returned (errOf 4) ∧ Below w.heap.size w w' := by
  have te : (x == y) = false := by rw [beq_eq_false_iff_ne]; exact hne
  go_enter Tryz.func159, Tryz.ntmps159
  go_wp2_with fail
  refine (anode_yes n x _ hx.out).mono ?_
  rintro e w1 ⟨rfl, rfl⟩
  go_wp2_with fail
  refine (anode_yes n y _ hy.out).mono ?_
  rintro e w1 ⟨rfl, rfl⟩
  go_wp2_with fail
  go_ret
  exact ⟨rfl, (Below.refl _ _).alloc (Nat.le_refl _) _⟩

set_option maxRecDepth 100000 in
set_option maxHeartbeats 1000000 in
theorem wrong_a3 (n x y : Int) (t : Bool) (w : World) (hx : Hid (0 ≤ x ∧ x < n)) (hy : Hid (0 ≤ y ∧ y < n)) : Calls Tryz.prog 159 #[.int .i64 n, .agg #[.int .i64 3, .int .i64 x, .int .i64 y], .bool t] w fun e w' => e = .returned (errOf 0) ∧ Below w.heap.size w w' := by
  go_enter Tryz.func159, Tryz.ntmps159
  go_wp2_with fail
  refine (anode_yes n x _ hx.out).mono ?_
  rintro e w1 ⟨rfl, rfl⟩
  go_wp2_with fail
  refine (anode_yes n y _ hy.out).mono ?_
  rintro e w1 ⟨rfl, rfl⟩
  go_wp2_with fail
  go_ret
  exact ⟨rfl, (Below.refl _ _).alloc (Nat.le_refl _) _⟩

theorem wrong_any (n q x y : Int) (t : Bool) (w : World) : Calls Tryz.prog 159 #[.int .i64 n, .agg #[.int .i64 q, .int .i64 x, .int .i64 y], .bool t] w fun e w' => e = .returned (errOf (badOf n q x y t)) ∧ Below w.heap.size w w' := by
  by_cases hq : 1 ≤ q ∧ q ≤ 3
  · by_cases hx : 0 ≤ x ∧ x < n
    · by_cases hy : 0 ≤ y ∧ y < n
      · have h1 : Hid (0 ≤ x ∧ x < n) := hx
        have h2 : Hid (0 ≤ y ∧ y < n) := hy
        rcases (by omega : q = 1 ∨ q = 2 ∨ q = 3) with rfl | rfl | rfl
        · by_cases he : x = y
          · rw [show badOf n 1 x y t = 2 by unfold badOf; simp [hy, he]]
            subst he
            exact wrong_s1 n x t w h1
          · cases t
            · rw [show badOf n 1 x y false = 0 by unfold badOf; simp [hx, hy, he]]
              exact wrong_af1 n x y w h1 h2 he
            · rw [show badOf n 1 x y true = 6 by unfold badOf; simp [hx, hy, he]]
              exact wrong_at1 n x y w h1 h2 he
        · by_cases he : x = y
          · rw [show badOf n 2 x y t = 2 by unfold badOf; simp [hy, he]]
            subst he
            exact wrong_s2 n x t w h1
          · cases t
            · rw [show badOf n 2 x y false = 4 by unfold badOf; simp [hx, hy, he]]
              exact wrong_af2 n x y w h1 h2 he
            · rw [show badOf n 2 x y true = 0 by unfold badOf; simp [hx, hy, he]]
              exact wrong_at2 n x y w h1 h2 he
        · rw [show badOf n 3 x y t = 0 by unfold badOf; simp [hx, hy]]
          exact wrong_a3 n x y t w h1 h2
      · have h1 : Hid (0 ≤ x ∧ x < n) := hx
        have h2 : Hid (¬ (0 ≤ y ∧ y < n)) := hy
        rw [show badOf n q x y t = 1 by unfold badOf; rw [if_neg (fun h => h hq), if_pos (Or.inr hy)]]
        rcases (by omega : q = 1 ∨ q = 2 ∨ q = 3) with rfl | rfl | rfl
        · exact wrong_y1 n x y t w h1 h2
        · exact wrong_y2 n x y t w h1 h2
        · exact wrong_y3 n x y t w h1 h2
    · have h1 : Hid (¬ (0 ≤ x ∧ x < n)) := hx
      rw [show badOf n q x y t = 1 by unfold badOf; rw [if_neg (fun h => h hq), if_pos (Or.inl hx)]]
      rcases (by omega : q = 1 ∨ q = 2 ∨ q = 3) with rfl | rfl | rfl
      · exact wrong_x1 n x y t w h1
      · exact wrong_x2 n x y t w h1
      · exact wrong_x3 n x y t w h1
  · rw [show badOf n q x y t = 1 by unfold badOf; rw [if_pos hq]]
    exact wrong_what n q x y t w hq

/-- What is wrong with an event, held against what is there. -/
theorem badOf_is {n k : Nat} {t : Bool} (ht : Sane n f k → (t = true ↔ eOf f k ∈ here f k)) : (badOf (n : Nat) (f k).1 (f k).2.1 (f k).2.2 t = 0 ∧ May n f k) ∨ (badOf (n : Nat) (f k).1 (f k).2.1 (f k).2.2 t ≠ 0 ∧ Bad n f k (badOf (n : Nat) (f k).1 (f k).2.1 (f k).2.2 t)) := by
  obtain ⟨b, hb⟩ : ∃ b, badOf (n : Nat) (f k).1 (f k).2.1 (f k).2.2 t = b := ⟨_, rfl⟩
  rw [hb]
  unfold badOf at hb
  by_cases h1 : 1 ≤ (f k).1 ∧ (f k).1 ≤ 3
  · rw [if_neg (fun h => h h1)] at hb
    by_cases h2 : ¬ (0 ≤ (f k).2.1 ∧ (f k).2.1 < (n : Int)) ∨ ¬ (0 ≤ (f k).2.2 ∧ (f k).2.2 < (n : Int))
    · rw [if_pos h2] at hb
      subst hb
      refine Or.inr ⟨by decide, Or.inl ⟨fun q => ?_, rfl⟩⟩
      rcases h2 with h2 | h2
      · exact h2 q.2.1
      · exact h2 q.2.2
    · rw [if_neg h2] at hb
      have hs : Sane n f k := ⟨h1, by omega, by omega⟩
      have ht := ht hs
      by_cases h3 : (f k).1 ≠ 3 ∧ (f k).2.1 = (f k).2.2
      · rw [if_pos h3] at hb
        subst hb
        exact Or.inr ⟨by decide, Or.inr (Or.inl ⟨hs, h3.1, h3.2, rfl⟩)⟩
      · rw [if_neg h3] at hb
        by_cases h4 : (f k).1 = 1 ∧ t = true
        · rw [if_pos h4] at hb
          subst hb
          exact Or.inr ⟨by decide, Or.inr (Or.inr (Or.inl ⟨hs, h4.1, fun e => h3 ⟨by omega, e⟩, ht.1 h4.2, rfl⟩))⟩
        · rw [if_neg h4] at hb
          by_cases h5 : (f k).1 = 2 ∧ t = false
          · rw [if_pos h5] at hb
            subst hb
            exact Or.inr ⟨by decide, Or.inr (Or.inr (Or.inr ⟨hs, h5.1, fun e => h3 ⟨by omega, e⟩, fun q => (by rw [h5.2] at ht; exact absurd (ht.2 q) (by decide)), rfl⟩))⟩
          · rw [if_neg h5] at hb
            refine Or.inl ⟨hb.symm, ?_⟩
            by_cases g3 : (f k).1 = 3
            · exact may_ask hs g3
            · have hne : (f k).2.1 ≠ (f k).2.2 := fun e => h3 ⟨g3, e⟩
              by_cases g1 : (f k).1 = 1
              · exact may_add hs g1 hne fun q => h4 ⟨g1, ht.2 q⟩
              · have g2 : (f k).1 = 2 := by omega
                refine may_drop hs g2 hne (ht.1 ?_)
                cases t
                · exact absurd ⟨g2, rfl⟩ h5
                · rfl
  · rw [if_pos h1] at hb
    subst hb
    exact Or.inr ⟨by decide, Or.inl ⟨fun q => h1 q.1, rfl⟩⟩

end Go.Proofs.YtcfemppdeidjmacGreat.As
