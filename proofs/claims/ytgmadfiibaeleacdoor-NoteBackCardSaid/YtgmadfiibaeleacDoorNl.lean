/-
  Bytes as edges: edgesOf, Decode.
-/
import Derived.Test.YtgmadfiibaeleacDoorNk
import Derived.Test.YtgmadfiibaeleacDoorNj
namespace Go.Proofs.YtgmadfiibaeleacDoor.Nt
open Go.RowKit Go.Deep Go.Proofs.YtgmadfiibaeleacDoor.Br
open Go.RowKit (Below)
set_option linter.unusedVariables false

variable {w w' : World} {g : Nat → Nat} {N : Nat}

/-- The edges that bytes tell, two an edge. -/
def ee (g : Nat → Nat) (i : Nat) : Int × Int := ((g (2 * i) : Nat), (g (2 * i + 1) : Nat))

def zero2 : Array Value := #[.int .i64 0, .int .i64 0]

theorem make_edges (m : Nat) (hm : m ≤ 300) (W : World) : (Instr.makeSlice 22 (.int .i64 (m : Int)) (.int .i64 (m : Int))).run Tryd.prog W = .ok (.slice (some ⟨W.heap.size, 0, none⟩) m m) (W.alloc (.cells (madeCells zero2 (m * 2)) 47)) := by
  obtain ⟨i, hi, hz⟩ := Option.map_eq_some_iff.1 Tryd.infoEdge
  simp only [Prod.mk.injEq] at hz
  obtain ⟨hz, hs, hb⟩ := hz
  have := run_make (P := Tryd.prog) W 22 47 i _ Tryd.underlying22 hi hz .i64 .i64 m m (by omega) (Int.le_refl _) (by rw [hb]; omega) (by omega)
  rw [hs, show (Value.agg #[.int .i64 0, .int .i64 0]).cells = zero2 by rfl] at this
  simpa using this

/-- The row as far as j edges are told. -/
def told (g : Nat → Nat) (j : Nat) : Nat → Value := fun i => if i < 2 * j then .int .i64 (g i : Nat) else .int .i64 0

theorem made_row (W : World) (m : Nat) : (W.alloc (.cells (madeCells zero2 (m * 2)) 47)).rowIs W.heap.size 47 (m * 2) (told g 0) := by
  have hc : ∀ i, i < (madeCells zero2 (m * 2)).size → (madeCells zero2 (m * 2))[i]? = some (zero2[i % 2]!) := fun i hi => by
    rw [size_madeCells] at hi
    simp [madeCells, hi, zero2]
  have h1 := World.rowIs_alloc W (madeCells zero2 (m * 2)) 47 (fun i => zero2[i % 2]!) hc
  rw [size_madeCells] at h1
  refine h1.congr fun i _ => ?_
  unfold told
  rw [if_neg (by omega)]
  have : i % 2 = 0 ∨ i % 2 = 1 := by omega
  rcases this with e | e <;> rw [e] <;> rfl

set_option maxRecDepth 100000 in
set_option maxHeartbeats 4000000 in
theorem edges_any {a : Option Addr} {c m : Nat} (h : BtAt w a (2 * m) g) (hm : m ≤ 255) :
    Calls Tryd.prog 15 #[.slice a (2 * m : Nat) c] w fun e w' => ∃ k, e = .returned (.slice (some ⟨k, 0, none⟩) m m) ∧ EdgesAt w' (some ⟨k, 0, none⟩) (edges (ee g) m) ∧ Below w.heap.size w w' := by
  obtain ⟨N, hN⟩ : ∃ N, 2 * m = N := ⟨_, rfl⟩
  rw [hN] at h ⊢
  have HH : Hid (BtAt w a N g) := h
  have hmk := make_edges m (by omega)
  have k1 : Int.tdiv (N : Int) 2 = (m : Int) := by rw [Int.tdiv_eq_ediv_of_nonneg (by omega)]; omega
  have k2 : IntKind.i64.wrap (m : Int) = (m : Int) := by rw [IntKind.wrap_i64]; omega
  have HN : Hid (N = 2 * m ∧ m ≤ 255) := ⟨hN.symm, hm⟩
  have HM : Hid ((w.alloc (.cells (madeCells zero2 (m * 2)) 47)).rowIs w.heap.size 47 (m * 2) (told g 0) ∧ Below w.heap.size w (w.alloc (.cells (madeCells zero2 (m * 2)) 47))) := ⟨made_row w m, (Below.refl _ _).alloc (Nat.le_refl _) _⟩
  clear h hN hm
  go_enter Tryd.func15, Tryd.ntmps15
  go_wp2_with fail
  clear hmk k1 k2
  go_loopw [4, 11] (fun _ i wr => ∃ j : Nat, j ≤ m ∧ i = .int .i64 (j : Nat) ∧ Below w.heap.size w wr ∧ wr.rowIs w.heap.size 47 (m * 2) (told g j)) (fun _ i _ => m - (intOf i).toNat)
  case atStart => exact ⟨0, Nat.zero_le _, rfl, HM.out.2, HM.out.1⟩
  case round =>
    obtain ⟨j, hj, rfl, hb, hrow⟩ := hrel
    have HB1 : Hid (Below w.heap.size w wr ∧ wr.rowIs w.heap.size 47 (m * 2) (told g j)) := ⟨hb, hrow⟩
    by_cases hlt : j < m
    · obtain ⟨P, hP⟩ : ∃ P, 2 * j = P := ⟨_, rfl⟩
      obtain ⟨Q, hQ⟩ : ∃ Q, 2 * j + 1 = Q := ⟨_, rfl⟩
      have hPN : P < N := by have := HN.out; omega
      have hQN : Q < N := by have := HN.out; omega
      obtain ⟨b, o, rfl, qp⟩ := HH.out.cell P hPN
      have qq := cell_keep hb (HH.out.at hQN)
      have hb0 : b < w.heap.size := World.block_lt_of_cell? _ _ qp
      replace qp := cell_keep hb qp
      have hX1 := HH.out.byte P hPN
      have hY1 := HH.out.byte Q hQN
      have d0 : wr.cell? ⟨w.heap.size, j * 2, none⟩ = some (.int .i64 0) := by rw [hrow.cell (by omega)]; unfold told; rw [if_neg (by omega)]
      have d1 : wr.cell? ⟨w.heap.size, j * 2 + 1, none⟩ = some (.int .i64 0) := by rw [hrow.cell (by omega)]; unfold told; rw [if_neg (by omega)]
      have z0 := hrow.frozen
      have hX : ∀ W' : World, W'.rowIs w.heap.size 47 (m * 2) (told g j) → ((W'.setCell ⟨w.heap.size, j * 2, none⟩ (.int .i64 (g P : Nat))).setCell ⟨w.heap.size, j * 2 + 1, none⟩ (.int .i64 (g Q : Nat))).rowIs w.heap.size 47 (m * 2) (told g (j + 1)) := fun W' hW' =>
        ((hW'.set (j * 2) _).set (j * 2 + 1) _).congr fun i hi => by
          unfold told
          by_cases e1 : i = j * 2 + 1
          · subst e1
            rw [if_pos rfl, if_pos (by omega), ← hQ, Nat.mul_comm]
          · rw [if_neg e1]
            by_cases e2 : i = j * 2
            · subst e2
              rw [if_pos rfl, if_pos (by omega), ← hP, Nat.mul_comm]
            · rw [if_neg e2]
              by_cases q : i < 2 * j
              · rw [if_pos q, if_pos (by omega)]
              · rw [if_neg q, if_neg (by omega)]
      have HX : Hid (Below w.heap.size w ((wr.setCell ⟨w.heap.size, j * 2, none⟩ (.int .i64 (g P : Nat))).setCell ⟨w.heap.size, j * 2 + 1, none⟩ (.int .i64 (g Q : Nat))).drew ∧ ((wr.setCell ⟨w.heap.size, j * 2, none⟩ (.int .i64 (g P : Nat))).setCell ⟨w.heap.size, j * 2 + 1, none⟩ (.int .i64 (g Q : Nat))).drew.rowIs w.heap.size 47 (m * 2) (told g (j + 1))) :=
        ⟨((hb.setCell (Nat.le_refl _) _).setCell (Nat.le_refl _) _).drew, (hX wr hrow).drew⟩
      have v2 : IntKind.i64.wrap (2 * (j : Int)) = (P : Int) := by have := HN.out; rw [IntKind.wrap_i64]; omega
      have v3 : IntKind.i64.wrap ((P : Int) + 1) = (Q : Int) := by have := HN.out; rw [IntKind.wrap_i64]; omega
      clear hX hP hQ
      generalize g P = X at *
      generalize g Q = Y at *
      have x0 : IntKind.i64.wrap (X : Int) = (X : Int) := by rw [IntKind.wrap_i64]; omega
      have y0 : IntKind.i64.wrap (Y : Int) = (Y : Int) := by rw [IntKind.wrap_i64]; omega
      have p0 : (0 : Int) ≤ (P : Int) := by omega
      have p1 : (P : Int) < (N : Int) := by omega
      have r0 : (0 : Int) ≤ (Q : Int) := by omega
      have r1 : (Q : Int) < (N : Int) := by omega
      have i0 : (0 : Int) ≤ (j : Int) := by omega
      have i2 : (j : Int) < (m : Int) := by omega
      have ne1 : b ≠ w.heap.size := by omega
      have hjm : j ≤ 255 := by have := HN.out; omega
      clear hb hrow hX1 hY1 hPN hQN hb0 HB1
      generalize w.heap.size = B at *
      go_wp2_with fail
      go_region
      go_wp2_with fail
      exact ⟨⟨j + 1, by omega, by go_num, HX.out.1, HX.out.2⟩, by simp [intOf]; omega⟩
    · obtain rfl : j = m := by omega
      have HX : Hid (EdgesAt wr (some ⟨w.heap.size, 0, none⟩) (edges (ee g) j)) := ⟨fun i hi => by
        rw [edges_len] at hi
        refine ⟨w.heap.size, 0, rfl, ?_, ?_⟩
        · rw [edges_getD hi, Nat.zero_add, hrow.cell (by omega)]
          unfold told
          rw [if_pos (by omega), Nat.mul_comm]
          rfl
        · rw [edges_getD hi, Nat.zero_add, hrow.cell (by omega)]
          unfold told
          rw [if_pos (by omega), Nat.mul_comm]
          rfl⟩
      clear hb hrow
      go_wp2_with fail
      go_ret
      exact ⟨_, rfl, HX.out, HB1.out.1⟩

end Go.Proofs.YtgmadfiibaeleacDoor.Nt
