/-
  Events on edges, plain, beside the statements' own lists: what is put, what is taken out.
-/
import Derived.Test.YtcfemppdeidjmadGreatF20
namespace Go.Proofs.YtcfemppdeidjmadGreat.Ds
open Go.RowKit Go.Deep Go.Proofs.YtcfemppdeidjmadGreat.Br
open Go.RowKit (Below)
set_option linter.unusedVariables false

variable {n : Nat} {A B A' : List (Nat × Nat)} {f : Nat → Ev} {e : Ev} {o p : List Bool} {err : Int} {j m : Nat}

theorem evl_split (h : j < m) : ∃ r, evl f m = evl f j ++ f j :: r := by
  obtain ⟨k, rfl⟩ : ∃ k, m = j + 1 + k := ⟨m - (j + 1), by omega⟩
  refine ⟨(List.range k).map fun i => f (j + 1 + i), ?_⟩
  unfold evl
  rw [List.range_add, List.map_append, List.range_succ, List.map_append, List.map_map]
  simp [Function.comp_def]

theorem stop_does (h : All n (evl f j) A 0 B o) (hj : j < m) (hm : m ≤ 120) (hne : err ≠ 0) (h1 : One n B (f j) err A' p) : Does n A (evl f m) err A [] := by
  obtain ⟨r, hr⟩ := evl_split (f := f) hj
  obtain ⟨o'', h2⟩ := h.stop (r := r) hne h1
  exact Or.inr ⟨by rw [evl_len]; exact hm, Or.inl ⟨hne, rfl, rfl, A', o'', by rw [hr]; exact h2⟩⟩
theorem full_does (hm : 120 < m) : Does n A (evl f m) 3 A [] := Or.inl ⟨by rw [evl_len]; exact hm, rfl, rfl, rfl⟩
theorem done_does (h : All n (evl f m) A 0 B o) (hm : m ≤ 120) : Does n A (evl f m) 0 B o := Or.inr ⟨by rw [evl_len]; exact hm, Or.inr ⟨rfl, h⟩⟩
theorem more_all (h : All n (evl f j) A 0 B o) (h1 : One n B (f j) 0 A' p) : All n (evl f (j + 1)) A 0 A' (o ++ p) := by
  rw [evl_more]
  exact h.snoc h1

theorem pr_nat (u v : Nat) : pr (u : Int) (v : Int) = (min u v, max u v) := by simp [pr]
theorem isOf_pr {e : Nat × Nat} {u v : Nat} : IsOf e (u : Nat) (v : Nat) ↔ e = pr (u : Int) (v : Int) := by
  rw [pr_nat]
  unfold IsOf
  constructor
  · rintro ⟨h1, h2⟩
    exact Prod.ext (by show e.1 = min u v; omega) (by show e.2 = max u v; omega)
  · rintro rfl
    exact ⟨by show ((min u v : Nat) : Int) = _; omega, by show ((max u v : Nat) : Int) = _; omega⟩

theorem Fine.put {P Q : List (Nat × Nat)} {x : Nat × Nat} (h : Fine n (P ++ Q)) (hu : Up (P ++ x :: Q)) (hl : (P ++ Q).length < 200) (hx : x.1 < n ∧ x.2 < n) : Fine n (P ++ x :: Q) :=
  ⟨hu, by simp at hl ⊢; omega, fun y hy => by
    rcases List.mem_append.1 hy with q | q
    · exact h.among y (List.mem_append_left _ q)
    · rcases List.mem_cons.1 q with rfl | q
      · exact hx
      · exact h.among y (List.mem_append_right _ q), h.n1, h.n60⟩
theorem Fine.out {P Q : List (Nat × Nat)} {x : Nat × Nat} (h : Fine n (P ++ x :: Q)) : Fine n (P ++ Q) :=
  ⟨h.up.sublist (List.Sublist.append_left (List.sublist_cons_self x Q) P), by have := h.len; simp at this ⊢; omega, fun y hy => h.among y (by
    rcases List.mem_append.1 hy with q | q
    · exact List.mem_append_left _ q
    · exact List.mem_append_right _ (List.mem_cons_of_mem _ q)), h.n1, h.n60⟩

end Go.Proofs.YtcfemppdeidjmadGreat.Ds
