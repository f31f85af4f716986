/-
  The statements' own events: EventOf.
-/
import Derived.Test.YtgmadfiibaeleacDoorNd
namespace Go.Proofs.YtgmadfiibaeleacDoor.Nt
open Go.RowKit Go.Deep Go.Proofs.YtgmadfiibaeleacDoor.Br
open Go.RowKit (Below)
set_option linter.unusedVariables false

variable {w w' : World}

/-- What EventOf tells. -/
def Tells (l : List UInt8) (e : Ending) : Prop := (∃ k a b : Int, TextIs l (k, a, b) ∧ e = .returned (.tuple #[evv k a b, .int .i64 0])) ∨ ((∀ x, ¬ TextIs l x) ∧ e = .returned (.tuple #[evv 0 0 0, .int .i64 5]))

theorem text_cons {c : UInt8} {r : List UInt8} {x : Int × Int × Int} (h : TextIs (c :: r) x) : ∃ p q, pieces r = [p, q] ∧ ∃ k a b : Nat, (1 ≤ k ∧ k ≤ 3) ∧ a ≤ 59 ∧ b ≤ 59 ∧ c = mark k ∧ p = dgt a ∧ q = dgt b ∧ x = (((k : Nat) : Int), ((a : Nat) : Int), ((b : Nat) : Int)) := by
  obtain ⟨k, a, b, hk, ha, hb, rfl, e⟩ := h
  unfold text at e
  injection e with e1 e2
  subst e2
  exact ⟨_, _, text_pieces ha hb, k, a, b, hk, ha, hb, e1, rfl, rfl, rfl⟩

theorem results_row_tmp {P : Program} {fn : Func} {p u : Tmp} {ty : TypeId} (h : fn.results = #[.cell p ty, .tmp u]) (tmps : Array Value) (w : World) (g : Nat) (t : TypeId) (cs : Array Value) (fr : Nat × Nat) (d : TypeDesc)
    (hp : tmps.getD p undef = .pointer (some ⟨g, 0, none⟩)) (hg : w.heap[g]? = some (.cells cs t fr))
    (hu : P.underlying ty = some d) (hd : (match d with | .struct _ | .array _ _ => true | _ => false) = true) (hi : (P.info? ty).map (·.size) = some cs.size) :
    (results fn tmps).run P w = .ok (.tuple #[.agg cs, tmps.getD u undef]) w := by
  rw [results_cell_tmp h, hp]
  simp [asAddr, run_loadVar_row w g t ty cs fr d hg hu hd hi]

set_option maxRecDepth 1000000 in
theorem Tryd.sizeEvent : (Tryd.prog.info? 24).map (·.size) = some 3 := by kernel_rfl

theorem str_tail (c : UInt8) (r : List UInt8) (n : Nat) (h : n = r.length + 1) : (str (c :: r)).extract 1 n = str r := by
  rw [str_cut, h]
  simp

/-- Three numbers in a block. -/
def cells3 (x y z : Int) : Nat → Value := fun i => if i = 0 then .int .i64 x else if i = 1 then .int .i64 y else .int .i64 z

theorem row3_new (w : World) (x y z : Int) : (w.alloc (.cells #[.int .i64 x, .int .i64 y, .int .i64 z] 24)).rowIs w.heap.size 24 3 (cells3 x y z) :=
  World.rowIs_alloc w #[.int .i64 x, .int .i64 y, .int .i64 z] 24 (cells3 x y z) (fun i hi => by
    match i, hi with
    | 0, _ => rfl
    | 1, _ => rfl
    | 2, _ => rfl)

theorem row3_block {b : Nat} {x y z : Int} (h : w.rowIs b 24 3 (cells3 x y z)) : w.heap[b]? = some (.cells #[.int .i64 x, .int .i64 y, .int .i64 z] 24 (0, 0)) := by
  obtain ⟨c, hb, hs, hc⟩ := h
  have e : c = #[.int .i64 x, .int .i64 y, .int .i64 z] := by
    obtain ⟨c⟩ := c
    match c, hs, hc with
    | [p, q, r], _, hc =>
      have h0 := hc 0 (by omega)
      have h1 := hc 1 (by omega)
      have h2 := hc 2 (by omega)
      simp [cells3] at h0 h1 h2
      subst h0 h1 h2
      rfl
  rw [hb, e]

theorem row3_set {b : Nat} {x y z x' y' z' : Int} (h : w.rowIs b 24 3 (cells3 x y z)) : (((w.setCell ⟨b, 0, none⟩ (.int .i64 x')).setCell ⟨b, 1, none⟩ (.int .i64 y')).setCell ⟨b, 2, none⟩ (.int .i64 z')).rowIs b 24 3 (cells3 x' y' z') :=
  (((h.set 0 _).set 1 _).set 2 _).congr fun i hi => by
    match i, hi with
    | 0, _ => rfl
    | 1, _ => rfl
    | 2, _ => rfl

end Go.Proofs.YtgmadfiibaeleacDoor.Nt
