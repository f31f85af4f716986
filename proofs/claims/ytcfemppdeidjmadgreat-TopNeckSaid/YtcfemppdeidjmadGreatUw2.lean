/-
  Same and Size of package union.
-/
import Derived.Test.YtcfemppdeidjmadGreatUw1
namespace Go.Proofs.YtcfemppdeidjmadGreat.Un
open Go.RowKit Go.Deep
set_option linter.unusedVariables false

theorem nodes_two {n : Nat} {a b : Int} : allIn n [a, b] = true ↔ Nodes n a b := by
  simp [allIn, Nodes, and_assoc]
theorem nodes_not {n : Nat} {a b : Int} (h : ¬ Nodes n a b) : allIn n [a, b] = false := by
  rw [Bool.eq_false_iff]; exact fun e => h (nodes_two.1 e)

/-- The two numbers as they are handed on. -/
theorem two_cells (w : World) (a b : Int) : ∀ i x, [a, b][i]? = some x → (w.alloc (.cells #[.int .i64 a, .int .i64 b] 3)).cell? ⟨w.heap.size, i, none⟩ = some (.int .i64 x)
  | 0, x, h => by simp at h; subst h; simp
  | 1, x, h => by simp at h; subst h; simp
  | i + 2, x, h => by simp at h
theorem one_cell (w : World) (a : Int) : ∀ i x, [a][i]? = some x → (w.alloc (.cells #[.int .i64 a] 3)).cell? ⟨w.heap.size, i, none⟩ = some (.int .i64 x)
  | 0, x, h => by simp at h; subst h; simp
  | i + 1, x, h => by simp at h

theorem below_one (w : World) (o : Obj) : Below w.heap.size w (w.alloc o) := (Below.refl _ _).alloc (Nat.le_refl _) _

set_option maxHeartbeats 1000000 in
theorem same_any {base n : Nat} {w : World} {g ba bs : Nat} {vj : Value} {L : List (Nat × Nat)} (h : Lays base n w g ba bs vj L) (i j : Nat) (hi : i < n) (hj : j < n) :
    Calls Tryz.prog 9 #[.pointer (some ⟨g, 0, none⟩), .int .i64 (i : Nat), .int .i64 (j : Nat)] w fun e w' => e = .returned (.tuple #[.bool (decide (rt L i = rt L j)), .nilIface]) ∧ Below w.heap.size w w' := by
  have hn := h.n60
  have HT : Hid (allIn n [(i : Int), (j : Int)] = true) := nodes_two.2 ⟨by omega, by omega, by omega, by omega⟩
  have HR : Hid ((((rt L i : Nat) : Int) == ((rt L j : Nat) : Int)) = decide (rt L i = rt L j)) := by
    show (((rt L i : Nat) : Int) == ((rt L j : Nat) : Int)) = _
    by_cases e : rt L i = rt L j
    · simp [e]
    · have : ¬ ((rt L i : Nat) : Int) = ((rt L j : Nat) : Int) := by omega
      simp [e, this]
  have h1 := h.below (below_one w (.cells #[.int .i64 (i : Nat), .int .i64 (j : Nat)] 3))
  go_enter Tryz.func9, Tryz.ntmps9
  go_wp2_with fail
  refine (has_any h1 w.heap.size [(i : Int), (j : Int)] (two_cells w i j) (by simp) 2).mono ?_
  rintro e w' ⟨rfl, rfl⟩
  rw [HT.out]
  go_wp2_with fail
  refine (root_any h1 i hi).mono ?_
  rintro e w' ⟨rfl, rfl⟩
  go_wp2_with fail
  refine (root_any h1 j hj).mono ?_
  rintro e w' ⟨rfl, rfl⟩
  go_wp2_with fail
  go_ret2
  exact ⟨by rw [← HR.out]; rfl, below_one _ _⟩


end Go.Proofs.YtcfemppdeidjmadGreat.Un
