/-
  The statements' own events: EventOf.
-/
import Derived.Test.YtgmadfiibaeleabDoorNd
namespace Go.Proofs.YtgmadfiibaeleabDoor.Nt
open Go.RowKit Go.Deep Go.Proofs.YtgmadfiibaeleabDoor.Br
open Go.RowKit (Below)
set_option linter.unusedVariables false

variable {w w' : World}

/-- What EventOf tells. -/
def Tells (l : List UInt8) (e : Ending) : Prop := (∃ k a b : Int, TextIs l (k, a, b) ∧ e = .returned (.tuple #[evv k a b, .int .i64 0])) ∨ ((∀ x, ¬ TextIs l x) ∧ e = .returned (.tuple #[evv 0 0 0, .int .i64 5]))

theorem text_cons {c : UInt8} {r : List UInt8} {x : Int × Int × Int} (h : TextIs (c :: r) x) : ∃ p q, pieces r = [p, q] ∧ ∃ k a b : Nat, (1 ≤ k ∧ k ≤ 3) ∧ a ≤ 59 ∧ b ≤ 59 ∧ c = mark k ∧ p = dgt a ∧ q = dgt b ∧ x = (((k : Nat) : Int), ((a : Nat) : Int), ((b : Nat) : Int)) := by
  obtain ⟨k, a, b, hk, ha, hb, rfl, e⟩ := h
  unfold text at e
  injection e with e1 e2
  subst e2
  exact ⟨_, _, text_pieces ha hb, k, a, b, hk, ha, hb, e1, rfl, rfl, rfl⟩

theorem results_row_tmp {P : Program} {fn : Func} {p u : Tmp} {ty : TypeId} (h : fn.results = #[.cell p ty, .tmp u]) (tmps : Array Value) (w : World) (g : Nat) (t : TypeId) (cs : Array Value) (fr : Nat × Nat) (d : TypeDesc)
    (hp : tmps.getD p undef = .pointer (some ⟨g, 0, none⟩)) (hg : w.heap[g]? = some (.cells cs t fr))
    (hu : P.underlying ty = some d) (hd : (match d with | .struct _ | .array _ _ => true | _ => false) = true) (hi : (P.info? ty).map (·.size) = some cs.size) :
    (results fn tmps).run P w = .ok (.tuple #[.agg cs, tmps.getD u undef]) w := by
  rw [results_cell_tmp h, hp]
  simp [asAddr, run_loadVar_row w g t ty cs fr d hg hu hd hi]

set_option maxRecDepth 1000000 in
theorem Tryd.sizeEvent : (Tryd.prog.info? 70).map (·.size) = some 3 := by kernel_rfl

theorem str_tail (c : UInt8) (r : List UInt8) (n : Nat) (h : n = r.length + 1) : (str (c :: r)).extract 1 n = str r := by
  rw [str_cut, h]
  simp

set_option maxRecDepth 100000 in
set_option maxHeartbeats 1000000 in
theorem eventof_nil : Calls Tryd.prog 45 #[.string (str [])] w fun e w' => Tells [] e ∧ Below w.heap.size w w' := by
  have HX : Hid (∀ x, ¬ TextIs [] x) := fun x h => by obtain ⟨k, a, b, _, _, _, _, e⟩ := h; cases e
  have hz : (str []).size = 0 := rfl
  go_enter Tryd.func45, Tryd.ntmps45
  go_wp2_with fail
  refine bodyPost_ret (results_row_tmp rfl _ _ w.heap.size 70 _ (0, 0) _ rfl (heap_alloc_new _ _) Tryd.underlying70 rfl Tryd.sizeEvent) rfl ?_
  exact ⟨Or.inr ⟨HX.out, rfl⟩, (Below.refl _ _).alloc (Nat.le_refl _) _⟩

/-- Three numbers in a block. -/
def cells3 (x y z : Int) : Nat → Value := fun i => if i = 0 then .int .i64 x else if i = 1 then .int .i64 y else .int .i64 z

theorem row3_new (w : World) (x y z : Int) : (w.alloc (.cells #[.int .i64 x, .int .i64 y, .int .i64 z] 70)).rowIs w.heap.size 70 3 (cells3 x y z) :=
  World.rowIs_alloc w #[.int .i64 x, .int .i64 y, .int .i64 z] 70 (cells3 x y z) (fun i hi => by
    match i, hi with
    | 0, _ => rfl
    | 1, _ => rfl
    | 2, _ => rfl)

theorem row3_block {b : Nat} {x y z : Int} (h : w.rowIs b 70 3 (cells3 x y z)) : w.heap[b]? = some (.cells #[.int .i64 x, .int .i64 y, .int .i64 z] 70 (0, 0)) := by
  obtain ⟨c, hb, hs, hc⟩ := h
  have e : c = #[.int .i64 x, .int .i64 y, .int .i64 z] := by
    obtain ⟨c⟩ := c
    match c, hs, hc with
    | [p, q, r], _, hc =>
      have h0 := hc 0 (by omega)
      have h1 := hc 1 (by omega)
      have h2 := hc 2 (by omega)
      simp [cells3] at h0 h1 h2
      subst h0 h1 h2
      rfl
  rw [hb, e]

theorem row3_set {b : Nat} {x y z x' y' z' : Int} (h : w.rowIs b 70 3 (cells3 x y z)) : (((w.setCell ⟨b, 0, none⟩ (.int .i64 x')).setCell ⟨b, 1, none⟩ (.int .i64 y')).setCell ⟨b, 2, none⟩ (.int .i64 z')).rowIs b 70 3 (cells3 x' y' z') :=
  (((h.set 0 _).set 1 _).set 2 _).congr fun i hi => by
    match i, hi with
    | 0, _ => rfl
    | 1, _ => rfl
    | 2, _ => rfl

set_option maxRecDepth 100000 in
set_option maxHeartbeats 1000000 in
theorem eventof_few (c : UInt8) (r : List UInt8) (hl : r.length ≤ 2000000) (h2 : (pieces r).length ≠ 2) : Calls Tryd.prog 45 #[.string (str (c :: r))] w fun e w' => Tells (c :: r) e ∧ Below w.heap.size w w' := by
  obtain ⟨N, hN⟩ : ∃ N, r.length = N := ⟨_, rfl⟩
  obtain ⟨s, hs⟩ : ∃ s, str (c :: r) = s := ⟨_, rfl⟩
  obtain ⟨N1, hN1⟩ : ∃ N1, N + 1 = N1 := ⟨_, rfl⟩
  have hsz : s.size = N1 := by rw [← hs, str_size, ← hN1, ← hN]; rfl
  have hex : s.extract 1 N1 = str r := by rw [← hs]; exact str_tail c r N1 (by omega)
  have hsp := fun W => split_any (w := W) r hl
  have j1 : ¬ (N1 : Int) < 1 := by omega
  have j2 : (1 : Int) ≤ (N1 : Int) := by omega
  have HX : Hid (∀ x, ¬ TextIs (c :: r) x) := fun x h => by
    obtain ⟨p, q, e, -⟩ := text_cons h
    rw [e] at h2
    exact h2 rfl
  rw [hs]
  clear hs hN
  go_enter Tryd.func45, Tryd.ntmps45
  go_wp2_with fail
  refine (hsp _).mono ?_
  rintro e w1 ⟨v1, rfl, hown1, hb1⟩
  have hrow : w1.rowIs w.heap.size 70 3 (cells3 0 0 0) := (row3_new w 0 0 0).of_block (hb1.block _ (by simp))
  have HB1 : Hid (Below w.heap.size w w1) := below_step ((Below.refl _ _).alloc (Nat.le_refl _) _) hb1
  obtain ⟨M, hM⟩ : ∃ M, (pieces r).length = M := ⟨_, rfl⟩
  rw [hM] at hown1 h2
  obtain ⟨a1, c1, rfl⟩ : ∃ a c, v1 = .slice a M c := by
    rcases hown1.2 with ⟨rfl, h0⟩ | ⟨g, cap, cur, rfl, _⟩
    · exact ⟨none, 0, by rw [h0]⟩
    · exact ⟨_, _, rfl⟩
  have t1 : ((M : Int) != 2) = true := by rw [bne_iff_ne]; omega
  have t2 : (M != 2) = true := by rw [bne_iff_ne]; exact h2
  have e0 : w1.cell? ⟨w.heap.size, 0, none⟩ = some (.int .i64 0) := hrow.cell (i := 0) (by omega)
  have e1 : w1.cell? ⟨w.heap.size, 1, none⟩ = some (.int .i64 0) := hrow.cell (i := 1) (by omega)
  have e2 : w1.cell? ⟨w.heap.size, 2, none⟩ = some (.int .i64 0) := hrow.cell (i := 2) (by omega)
  have z0 := hrow.frozen
  have HR : Hid ((((w1.setCell ⟨w.heap.size, 0, none⟩ (.int .i64 0)).setCell ⟨w.heap.size, 1, none⟩ (.int .i64 0)).setCell ⟨w.heap.size, 2, none⟩ (.int .i64 0)).rowIs w.heap.size 70 3 (cells3 0 0 0)) := row3_set hrow
  have HB2 : Hid (Below w.heap.size w (((w1.setCell ⟨w.heap.size, 0, none⟩ (.int .i64 0)).setCell ⟨w.heap.size, 1, none⟩ (.int .i64 0)).setCell ⟨w.heap.size, 2, none⟩ (.int .i64 0))) := ((HB1.out.setCell (Nat.le_refl _) _).setCell (Nat.le_refl _) _).setCell (Nat.le_refl _) _
  clear hsp hM hown1 h2 hrow hb1
  go_wp2_with fail
  refine bodyPost_ret (results_row_tmp rfl _ _ w.heap.size 70 _ (0, 0) _ rfl (row3_block HR.out) Tryd.underlying70 rfl Tryd.sizeEvent) rfl ?_
  exact ⟨Or.inr ⟨HX.out, rfl⟩, HB2.out⟩

end Go.Proofs.YtgmadfiibaeleabDoor.Nt
