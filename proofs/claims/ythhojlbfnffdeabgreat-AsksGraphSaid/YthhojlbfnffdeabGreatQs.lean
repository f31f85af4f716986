/-
  Size of package tour.
-/
import Derived.Test.YthhojlbfnffdeabGreatMe
namespace Go.Proofs.YthhojlbfnffdeabGreat
open Go.RowKit Go.Deep
open Go.RowKit (Below)
set_option linter.unusedVariables false

variable {w w' : World} {L : Pl} {p p' : Nat → Nat} {E E' : List (Nat × Nat)}

set_option maxHeartbeats 400000 in
theorem size_no (f : FAt w L E p) (a : Int) (ha : ¬ (0 ≤ a ∧ a < L.n)) :
    Calls Tryz.prog 18 #[.pointer (some ⟨L.g, 0, none⟩), .int .i64 a] w fun e w' => e = .returned (.tuple #[.int .i64 0, .iface 58 (.int .i64 1)]) ∧ Below w.heap.size w w' := by
  have hb : Below w.heap.size w (w.alloc (.cells #[.int .i64 a] 3)) := (Below.refl _ _).alloc (Nat.le_refl _) _
  obtain ⟨DW, DE, m, -⟩ := (f.below hb).mem
  have hh := has_any m rfl w.heap.size [a] (fun i x hx => by match i, hx with | 0, hx => cases hx; simp) (by simp) 1
  rw [one_in, decide_eq_false ha] at hh
  clear m
  go_enter Tryz.func18, Tryz.ntmps18
  go_wp2_with fail
  refine hh.mono ?_
  rintro e w1 ⟨rfl, rfl⟩
  go_wp2_with fail
  go_ret2
  exact ⟨rfl, hb⟩

set_option maxHeartbeats 1000000 in
theorem size_tree (f : FAt w L E p) (a : Nat) (ha : a < L.n) (N : Nat) (hN : (nodesOf L.n p (p a)).length = N) :
    Calls Tryz.prog 18 #[.pointer (some ⟨L.g, 0, none⟩), .int .i64 (a : Int)] w fun e w' => e = .returned (.tuple #[.int .i64 (N : Nat), .nilIface]) ∧ Below w.heap.size w w' := by
  have hb : Below w.heap.size w (w.alloc (.cells #[.int .i64 (a : Int)] 3)) := (Below.refl _ _).alloc (Nat.le_refl _) _
  have f1 := f.below hb
  obtain ⟨DW, DE, m, hw⟩ := f1.mem
  have hh := has_any m rfl w.heap.size [(a : Int)] (fun i x hx => by match i, hx with | 0, hx => cases hx; simp) (by simp) 1
  rw [one_in, decide_eq_true (by omega)] at hh
  have hpn := f.grown.lt ha
  obtain ⟨b, T, l, hW⟩ := hw (p a) hpn (f.grown.rest.least a)
  obtain ⟨hsN, hsz, hs, hz⟩ := hW.sz f.grown m.n60 hpn (f.grown.rest.least a)
  rw [hN] at hsN
  have hlook := ways_look (w := (w.alloc (.cells #[.int .i64 (a : Int)] 3)).drew) m.ways (p a) b (by have := m.n60; omega) hW.at_
  have c0 := m.c0
  have c1 := m.c1
  have hat := m.at ha
  have i0 : (0 : Int) ≤ (a : Int) := by omega
  have i1 : (a : Int) < (L.n : Int) := by omega
  have hlen := len_any hW.row.drew
  have hdr : Below w.heap.size w (w.alloc (.cells #[.int .i64 (a : Int)] 3)).drew := hb.drew
  have HE : Hid (((sz T : Nat) : Int) + 2 = 3 * (N : Int)) := show _ = _ by omega
  clear hW hw hsz hsN hN
  go_enter Tryz.func18, Tryz.ntmps18
  go_wp2_with fail
  refine hh.mono ?_
  rintro e w1 ⟨rfl, rfl⟩
  clear hh
  go_wp2_with fail
  generalize hW1 : (w.alloc (.cells #[.int .i64 (a : Int)] 3)) = W at *
  clear hW1
  go_region_held3 (fun W => W.cell? ⟨L.g, 1, none⟩ = some (.map (some L.wb)) ∧ W.cell? ⟨L.g, 0, none⟩ = some (.slice (some ⟨L.hb, 0, none⟩) L.n L.n) ∧ W.cell? ⟨L.hb, a, none⟩ = some (.int .i64 (p a : Nat))) (first | (go_keep; done) | exact ⟨c1, c0, hat⟩)
    (first
      | (go_at_call 40; refine hlen.mono ?_; rintro e w2 ⟨rfl, rfl⟩))
  have h2 : IntKind.i64.wrap ((IntKind.i64.wrap (((sz T : Nat) : Int) + 2)).tdiv 3) = (N : Int) := by
    have e1 : IntKind.i64.wrap (((sz T : Nat) : Int) + 2) = 3 * (N : Int) := by rw [IntKind.wrap_i64]; have := HE.out; omega
    have e2 : (3 * (N : Int)).tdiv 3 = N := Int.mul_tdiv_cancel_left _ (by omega)
    rw [e1, e2, IntKind.wrap_i64]
    have := HE.out
    omega
  rw [h2]
  go_wp2_with fail
  go_ret2
  exact ⟨rfl, hdr⟩

end Go.Proofs.YthhojlbfnffdeabGreat
