/-
  BridgeMore: what it knows of one edge more.
-/
import Derived.Test.YtcfemppdeidjmacGreatDoorF17
import Derived.Test.YtcfemppdeidjmacGreatDoorBi
namespace Go.Proofs.YtcfemppdeidjmacGreatDoor.Br
open Go.RowKit Go.Deep
open Go.RowKit (Below)
set_option linter.unusedVariables false

variable {w w' : World} {E A B L L' : List (Nat × Nat)} {e : Nat × Nat} {p q : Nat → Nat} {n : Nat}

/-- An edge has a place in a list that rises. -/
theorem up_put : ∀ {E : List (Nat × Nat)}, Up E → e ∉ E → ∃ A B, E = A ++ B ∧ Up (A ++ e :: B)
  | [], _, _ => ⟨[], [], rfl, List.pairwise_singleton _ _⟩
  | x :: E, hu, hn => by
    obtain ⟨h1, h2⟩ := List.pairwise_cons.1 hu
    have hne : e ≠ x := fun q => hn (by rw [q]; exact List.mem_cons_self)
    by_cases hlt : e.1 < x.1 ∨ e.1 = x.1 ∧ e.2 < x.2
    · refine ⟨[], x :: E, rfl, List.pairwise_cons.2 ⟨fun y hy => ?_, hu⟩⟩
      rcases List.mem_cons.1 hy with rfl | hy
      · exact hlt
      · have := h1 y hy
        omega
    · obtain ⟨A, B, rfl, h3⟩ := up_put h2 (fun q => hn (List.mem_cons_of_mem _ q))
      refine ⟨x :: A, B, rfl, List.pairwise_cons.2 ⟨fun y hy => ?_, h3⟩⟩
      have hxe : x.1 < e.1 ∨ x.1 = e.1 ∧ x.2 < e.2 := by
        have : ¬ (x.1 = e.1 ∧ x.2 = e.2) := fun q => hne (Prod.ext q.1.symm q.2.symm)
        omega
      rcases List.mem_append.1 hy with hy | hy
      · exact h1 y (List.mem_append_left _ hy)
      · rcases List.mem_cons.1 hy with rfl | hy
        · exact hxe
        · exact h1 y (List.mem_append_right _ hy)

/-- Each bridge with one edge more was one, or is that edge. -/
theorem more_was (hL : Brs (A ++ B) L) (hL' : Brs (A ++ e :: B) L') (hu : Up (A ++ e :: B)) {x : Nat × Nat} (hx : x ∈ L') : x ∈ L ∨ x = e := by
  obtain ⟨t, ht, rfl⟩ := hL
  obtain ⟨t', ht', rfl⟩ := hL'
  obtain ⟨h1, h2⟩ := List.mem_filter.1 hx
  by_cases hxe : x = e
  · exact Or.inr hxe
  · left
    have hsub : ∀ y ∈ A ++ B, y ∈ A ++ e :: B := fun y hy => by
      rcases List.mem_append.1 hy with q | q
      · exact List.mem_append_left _ q
      · exact List.mem_append_right _ (List.mem_cons_of_mem _ q)
    have hin : x ∈ A ++ B := by
      rcases List.mem_append.1 h1 with q | q
      · exact List.mem_append_left _ q
      · rcases List.mem_cons.1 q with q | q
        · exact absurd q hxe
        · exact List.mem_append_right _ q
    have hnd : (A ++ B).Nodup := (List.nodup_cons.1 ((List.perm_middle (a := e) (l₁ := A) (l₂ := B)).nodup_iff.1 hu.nodup)).2
    exact List.mem_filter.2 ⟨hin, (ht x hin).2 (bridge_less hsub hnd hu.nodup ((ht' x h1).1 h2))⟩

/-- That edge is a bridge just if its nodes were of two parts. -/
theorem more_is (hL' : Brs (A ++ e :: B) L') (hu : Up (A ++ e :: B)) (hp : Rest (A ++ B) p) : e ∈ L' ↔ p e.1 ≠ p e.2 := by
  obtain ⟨t', ht', rfl⟩ := hL'
  have hin : e ∈ A ++ e :: B := List.mem_append_right _ List.mem_cons_self
  rw [List.mem_filter, ht' e hin, bridge_new hu, ← hp.same]
  exact ⟨fun h => h.2, fun h => ⟨hin, h⟩⟩

theorem more_rest (hp : Rest (A ++ B) p) (hq : Rest (A ++ e :: B) q) : q e.1 = q e.2 ∧ ∀ i, q i ≤ p i ∧ q i = q (p i) := by
  refine ⟨hq.edge e (List.mem_append_right _ List.mem_cons_self), fun i => rest_less (fun y hy => ?_) hp hq i⟩
  rcases List.mem_append.1 hy with q | q
  · exact List.mem_append_left _ q
  · exact List.mem_append_right _ (List.mem_cons_of_mem _ q)

/-- The fact's edge. -/
def pOne : Nat → Nat := fun i => if i = 2 then 1 else i

theorem one_rest : Rest [(1, 2)] pOne := by
  refine ⟨⟨fun i => ?_, fun i => ?_⟩, fun e he => ?_⟩
  · unfold pOne
    split <;> omega
  · unfold pOne
    split
    · rename_i h
      subst h
      exact (conn_eqv _).symm (conn_edge (List.mem_singleton.2 rfl))
    · exact (conn_eqv _).refl i
  · rw [List.mem_singleton] at he
    subst he
    rfl

theorem one_valid : Valid 3 1 (fn [(1, 2)]) := ⟨by decide, by decide, fn_may (F := [(1, 2)]) (List.pairwise_singleton _ _) (fun e he => by rw [List.mem_singleton] at he; subst he; decide)⟩

theorem one_parts : parts 3 pOne = [0, 1, 1] := rfl

theorem one_at (w : World) : EgAt (w.alloc (.cells #[.int .i64 1, .int .i64 2] 92)) (some ⟨w.heap.size, 0, none⟩) 1 (fn [(1, 2)]) := fun i hi => by
  obtain rfl : i = 0 := by omega
  exact ⟨_, 0, rfl, by simp [fn], by simp [fn]⟩

theorem three_at (w : World) : IntsAt (w.alloc (.cells #[.int .i64 0, .int .i64 1, .int .i64 1] 3)) (some ⟨w.heap.size, 0, none⟩) 3 [0, 1, 1] := ⟨rfl, fun i hi => by
  match i, hi with
  | 0, _ => exact ⟨_, 0, rfl, by simp⟩
  | 1, _ => exact ⟨_, 0, rfl, by simp⟩
  | 2, _ => exact ⟨_, 0, rfl, by simp⟩⟩

end Go.Proofs.YtcfemppdeidjmacGreatDoor.Br
