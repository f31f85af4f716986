/-
  DeskWhole returns true, whatever packages desk and disk that answer as they are to.
-/
import Derived.Test.YtcfemppdeidjmacGreatDoorYv
import Derived.Test.YtcfemppdeidjmacGreatDoorYr
import Derived.Test.YtcfemppdeidjmacGreatDoorYf
import Derived.Test.YtcfemppdeidjmacGreatDoorYb
import Derived.Test.YtcfemppdeidjmacGreatDoorF17
namespace Go.Proofs.YtcfemppdeidjmacGreatDoor.Ds
open Go.RowKit Go.Deep Go.Proofs.YtcfemppdeidjmacGreatDoor.Br
open Go.Proofs.YtcfemppdeidjmacGreatDoor.Dk (EvAt NumAt Er Same)
open Go.Proofs.YtcfemppdeidjmacGreatDoor.Sk (SW Apart Keeps Owns)
open Go.RowKit (Below)
set_option linter.unusedVariables false

variable {w w' wr : World} {D : DFace} {P P' Q : Pd} {X V : Nat → Prop} {d k : Value} {n t : Nat} {A S B : List (Nat × Nat)} {g : Option Nat} {a : Option Addr} {m c : Nat}

/-- A row of one's own grows that stands apart. -/
theorem DW.grown (hK : Keeps P) (hO : Owns P) (hK2 : Keeps Q) (hO2 : Owns Q) (h : DW P Q w X wr) {row : Option Nat} (hg : wr.grownBy w' row) (hr : ∀ k, row = some k → X k ∧ w.heap.size ≤ k) : DW P Q w (fun b => X b ∨ (wr.heap.size ≤ b ∧ b < w'.heap.size)) w' := by
  obtain ⟨B1, B2, F1, F2, h1, h2, h3, h4, h5, h6⟩ := h.at_
  refine ⟨⟨B1, B2, F1, F2, hK h1 hg.size fun b q => hg.block b (hO h1 b q).2 fun e => (h4 b (hr b e.symm).1).1 q, hK2 h2 hg.size fun b q => hg.block b (hO2 h2 b q).2 fun e => (h4 b (hr b e.symm).1).2.1 q, h3, fun b q => ?_, ⟨h5.1, Nat.le_trans h5.2 hg.size⟩, ⟨h6.1, Nat.le_trans h6.2 hg.size⟩⟩, h.below.grown hg h.below.size fun k e => (hr k e).2⟩
  rcases q with q | ⟨q1, q2⟩
  · exact ⟨(h4 b q).1, (h4 b q).2.1, Nat.lt_of_lt_of_le (h4 b q).2.2 hg.size⟩
  · exact ⟨fun z => by have := (hO h1 b z).2; omega, fun z => by have := (hO2 h2 b z).2; omega, q2⟩

/-- 121 events of nothing. -/
theorem Tryz.infoEvD : (Tryz.prog.info? 56).map (fun i => (i.zero, i.size, i.bytes)) = some (some (.agg #[.int .i64 0, .int .i64 0, .int .i64 0]), 3, 24) := by kernel_rfl
abbrev nilEv (n : Nat) : Obj := .cells (madeCells #[.int .i64 0, .int .i64 0, .int .i64 0] (n * 3)) 56
theorem run_events (n : Nat) (hn : n ≤ 200) (w : World) : (Instr.makeSlice 39 (.int .i64 (n : Nat)) (.int .i64 (n : Nat))).run Tryz.prog w = .ok (.slice (some ⟨w.heap.size, 0, none⟩) n n) (w.alloc (nilEv n)) := by
  obtain ⟨z0, hi0, hz0, hz1, hz2⟩ := info_parts Tryz.infoEvD
  have := run_make (P := Tryz.prog) w 39 56 z0 _ Tryz.underlying39 hi0 hz0 .i64 .i64 (n : Nat) (n : Nat) (by omega) (Int.le_refl _) (by rw [hz2]; omega) (by omega)
  rw [hz1, Int.toNat_natCast] at this
  exact this
theorem events_at (n : Nat) (w : World) : EvAt (w.alloc (nilEv n)) (some ⟨w.heap.size, 0, none⟩) n (fun _ => (0, 0, 0)) := fun i hi => by
  have hc : ∀ j, j < n * 3 → (w.alloc (nilEv n)).cell? ⟨w.heap.size, 0 + j, none⟩ = some (.int .i64 0) := fun j hj => by
    rw [Nat.zero_add, cell_of_row _ _ _ _ _ _ (blk_alloc_new w _)]
    have : j % 3 = 0 ∨ j % 3 = 1 ∨ j % 3 = 2 := by omega
    rcases this with q | q | q <;> simp [madeCells, hj, q]
  exact ⟨_, _, rfl, hc _ (by omega), by rw [Nat.add_assoc]; exact hc _ (by omega), by rw [Nat.add_assoc]; exact hc _ (by omega)⟩

end Go.Proofs.YtcfemppdeidjmacGreatDoor.Ds
