/-
  The fact that several statements begin with: two events on three nodes.
-/
import Derived.Test.YtcfemppdeidjmadGreatF20
namespace Go.Proofs.YtcfemppdeidjmadGreat.Ds
open Go.RowKit Go.Deep Go.Proofs.YtcfemppdeidjmadGreat.Br
open Go.Proofs.YtcfemppdeidjmadGreat.Dk (EvAt NumAt Er Same)
open Go.RowKit (Below)
set_option linter.unusedVariables false

/-- The two events of the fact. -/
def fact2 : Nat → Ev := fun i => if i = 0 then (1, 0, 1) else (3, 1, 0)
theorem fact_does : Does 3 [] (evl fact2 2) 0 [(0, 1)] [true] := by
  refine Or.inr ⟨by decide, Or.inr ⟨rfl, Or.inr ⟨[(0, 1)], [], [true], ?_, ?_, rfl⟩⟩⟩
  · exact Or.inr (Or.inr (Or.inr (Or.inr (Or.inl ⟨⟨rfl, ⟨by decide, by decide⟩, ⟨by decide, by decide⟩⟩, by decide, by simp, by decide, rfl, List.pairwise_singleton _ _, List.Perm.refl _, rfl⟩))))
  · refine Or.inr ⟨[(0, 1)], [true], [], ?_, ⟨rfl, rfl, rfl⟩, rfl⟩
    refine Or.inr (Or.inr (Or.inr (Or.inr (Or.inr (Or.inr (Or.inr ⟨⟨rfl, ⟨by decide, by decide⟩, ⟨by decide, by decide⟩⟩, rfl, rfl, true, ⟨fun _ => ?_, fun _ => rfl⟩, rfl⟩))))))
    exact fun Q h => h.1.symm (h.2 (0, 1) (List.mem_singleton.2 rfl))
theorem fact_only {x : Int} {A' : List (Nat × Nat)} {out : List Bool} (h : Does 3 [] (evl fact2 2) x A' out) : x = 0 ∧ A' = [(0, 1)] ∧ out = [true] := h.one fact_does List.Pairwise.nil
theorem fact_at (w : World) : EvAt (w.alloc (.cells #[.int .i64 1, .int .i64 0, .int .i64 1, .int .i64 3, .int .i64 1, .int .i64 0] 62)) (some ⟨w.heap.size, 0, none⟩) 2 fact2 := fun i hi => by
  have h := World.rowIs_alloc w #[.int .i64 1, .int .i64 0, .int .i64 1, .int .i64 3, .int .i64 1, .int .i64 0] 62 (fun i => if i = 0 then .int .i64 1 else if i = 1 then .int .i64 0 else if i = 2 then .int .i64 1 else if i = 3 then .int .i64 3 else if i = 4 then .int .i64 1 else .int .i64 0) (fun i hi => by
    have : i = 0 ∨ i = 1 ∨ i = 2 ∨ i = 3 ∨ i = 4 ∨ i = 5 := by simp at hi; omega
    rcases this with rfl | rfl | rfl | rfl | rfl | rfl <;> rfl)
  have : i = 0 ∨ i = 1 := by omega
  rcases this with rfl | rfl
  · exact ⟨_, _, rfl, h.cell (i := 0) (by simp), h.cell (i := 1) (by simp), h.cell (i := 2) (by simp)⟩
  · exact ⟨_, _, rfl, h.cell (i := 3) (by simp), h.cell (i := 4) (by simp), h.cell (i := 5) (by simp)⟩
theorem yes_at (w : World) : BlAt (w.alloc (.cells #[.bool true] 4)) (some ⟨w.heap.size, 0, none⟩) [true] := fun i hi => by
  have : i = 0 := by simp at hi; omega
  subst this
  have h := World.rowIs_alloc w #[.bool true] 4 (fun _ => .bool true) (fun i hi => by
    have : i = 0 := by simp at hi; omega
    subst this
    rfl)
  exact ⟨_, _, rfl, h.cell (i := 0) (by simp)⟩

end Go.Proofs.YtcfemppdeidjmadGreat.Ds
