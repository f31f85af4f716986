/-
  Yb
-/
import Derived.Test.YtcfemppdeidjmacGreatW36
namespace Go.Proofs.YtcfemppdeidjmacGreat.Ds
open Go.RowKit Go.Deep Go.Proofs.YtcfemppdeidjmacGreat.Br
open Go.RowKit (Below)
set_option linter.unusedVariables false

variable {n : Nat} {A B A' : List (Nat × Nat)} {f : Nat → Ev} {e : Ev} {o p : List Bool} {err : Int} {j m : Nat}

theorem evl_split (h : j < m) : ∃ r, evl f m = evl f j ++ f j :: r := by
  obtain ⟨k, rfl⟩ : ∃ k, m = j + 1 + k := ⟨m - (j + 1), by omega⟩
  refine ⟨(List.range k).map fun i => f (j + 1 + i), ?_⟩
  unfold evl
  rw [List.range_add, List.map_append, List.range_succ, List.map_append, List.map_map]
  simp [Function.comp_def]

theorem stop_does (h : All n (evl f j) A 0 B o) (hj : j < m) (hm : m ≤ 120) (hne : err ≠ 0) (h1 : One n B (f j) err A' p) : Does n A (evl f m) err A [] := by
  obtain ⟨r, hr⟩ := evl_split (f := f) hj
  obtain ⟨o'', h2⟩ := h.stop (r := r) hne h1
  exact Or.inr ⟨by rw [evl_len]; exact hm, Or.inl ⟨hne, rfl, rfl, A', o'', by rw [hr]; exact h2⟩⟩
theorem full_does (hm : 120 < m) : Does n A (evl f m) 3 A [] := Or.inl ⟨by rw [evl_len]; exact hm, rfl, rfl, rfl⟩
theorem done_does (h : All n (evl f m) A 0 B o) (hm : m ≤ 120) : Does n A (evl f m) 0 B o := Or.inr ⟨by rw [evl_len]; exact hm, Or.inr ⟨rfl, h⟩⟩
theorem more_all (h : All n (evl f j) A 0 B o) (h1 : One n B (f j) 0 A' p) : All n (evl f (j + 1)) A 0 A' (o ++ p) := by
  rw [evl_more]
  exact h.snoc h1

theorem pr_nat (u v : Nat) : pr (u : Int) (v : Int) = (min u v, max u v) := by simp [pr]
end Go.Proofs.YtcfemppdeidjmacGreat.Ds
