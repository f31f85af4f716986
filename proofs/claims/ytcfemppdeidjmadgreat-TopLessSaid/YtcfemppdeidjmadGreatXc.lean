/-
  TopBridges: an edge is dropped, and put back.
-/
import Derived.Test.YtcfemppdeidjmadGreatXb
namespace Go.Proofs.YtcfemppdeidjmadGreat.To
set_option linter.unusedSectionVars false
variable [Inhabited Zed] [Inhabited (PLift ((default : Zed).n ≤ 0))]
open Go.RowKit Go.Deep
open Go.RowKit (Below)
set_option linter.unusedVariables false

variable {w w' wr w0 : World} {G : Gr.GPl} {A E P Q L : List (Nat × Nat)} {e : Nat × Nat} {m n j N c : Nat} {a ad : Option Addr} {p q : Nat → Nat} {f : Nat → Int × Int × Int}

/-- An edge, in a variable of its own. -/
theorem var2_below (w : World) (u v : Nat) : Below w.heap.size w (w.alloc (.cells #[.int .i64 (u : Nat), .int .i64 (v : Nat)] 32)) := (Below.refl _ _).alloc (Nat.le_refl _) _
theorem var2_li (w : World) (u v : Nat) (hF : ∀ b, Gr.GFoot G b → b < w.heap.size) : Li G (w.alloc (.cells #[.int .i64 (u : Nat), .int .i64 (v : Nat)] 32)) (some ⟨w.heap.size, 0, none⟩) 1 1 [(u, v)] := by
  refine ⟨⟨fun i hi => ⟨w.heap.size, rfl, ?_, ?_⟩⟩, fun g e q => ?_, rfl, Nat.le_refl _, by decide⟩
  · obtain rfl : i = 0 := by simpa using hi
    rw [cell_of_row _ _ _ _ _ _ (blk_alloc_new _ _)]
    rfl
  · obtain rfl : i = 0 := by simpa using hi
    rw [cell_of_row _ _ _ _ _ _ (blk_alloc_new _ _)]
    rfl
  · cases e
    have := hF _ q
    omega

theorem parts_nil (hp : Rest [] p) (n : Nat) : partsOf n p = n := by
  have h := (forest_parts (n := n) (E := []) (p := p) (fun e he => by cases he) hp).1
  have h2 : partsOf n p ≤ n := by unfold partsOf cnt; exact Nat.le_trans List.countP_le_length (by simp)
  simp at h
  omega

theorem take_mem (h : j < L.length) : (e ∈ L.take (j + 1)) ↔ (e ∈ L.take j ∨ L.getD j (0, 0) = e) := by
  rw [List.take_add_one, List.mem_append, List.getElem?_eq_getElem h, List.getD_eq_getElem?_getD, List.getElem?_eq_getElem h]
  simp [eq_comm]

end Go.Proofs.YtcfemppdeidjmadGreat.To
