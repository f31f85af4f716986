/-
  What GraphTrees asks: the level of an edge; the place of one that is not there.
-/
import Derived.Test.YtcebfloeikjjcabGreatGm
namespace Go.Proofs.YtcebfloeikjjcabGreat.Gr
open Go.RowKit Go.Deep Go.Maps
open Go.RowKit (Below)
set_option linter.unusedVariables false

variable {w w1 w' : World} {A : List (Nat × Nat)} {lv : Nat × Nat → Nat} {tr : Nat × Nat → Bool} {aA : Option Addr} {NA : Nat}

/-- The place of an edge that is not there. -/
theorem place_out {c : Nat} (hE : EdgesAt w aA A) (hn : A.length = NA) (hn2 : NA < 1000000) (e : Nat × Nat) (he : e ∉ A) (hl : e.1 < e.2) :
    Calls Tryz.prog 12 #[.slice aA NA c, .int .i64 (e.1 : Nat), .int .i64 (e.2 : Nat)] w fun x w' => x = .returned (.int .i64 (-1)) ∧ Below w.heap.size w w' := by
  refine (place_ref hE hn hn2 _ _).mono ?_
  rintro x w1 ⟨r, rfl, hb, h⟩
  rcases h with ⟨j, hj, rfl, hi⟩ | ⟨rfl, _⟩
  · refine absurd ?_ he
    have e1 : A.getD j (0, 0) = e := Prod.ext (by have := hi.1; omega) (by have := hi.2; omega)
    rw [← e1]
    exact getD_mem (by omega)
  · exact ⟨rfl, hb⟩

/-- The level of an edge that is there. -/
theorem level_at {G : GPl} (h : GOk w G A lv tr) (e : Nat × Nat) (he : e ∈ A) (l : Nat) (hl : lv e = l) :
    Calls Tryz.prog 14 #[.pointer (some ⟨G.g, 0, none⟩), .int .i64 (e.1 : Nat), .int .i64 (e.2 : Nat)] w fun x w' => x = .returned (.tuple #[.int .i64 (l : Nat), .nilIface]) ∧ Below w.heap.size w w' := by
  have hn := h.mem.node he
  have e1 : (min e.1 e.2, max e.1 e.2) = e := Prod.ext (Nat.min_eq_left (by omega)) (Nat.max_eq_right (by omega))
  exact level_any h.mem e.1 e.2 hn.1 hn.2.1 (by rw [e1]; exact he) l (by rw [e1]; exact hl)

end Go.Proofs.YtcebfloeikjjcabGreat.Gr
