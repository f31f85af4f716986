/-
  Members and Same of package tour.
-/
import Derived.Test.YtffpkclefgidhaaTa
namespace Go.Proofs.Ytffpkclefgidhaa
open Go.RowKit Go.Deep Go.Shelf Go.Sort Go.Lib
open Go.RowKit (Below)
set_option linter.unusedVariables false

variable {w w' : World} {L : Pl} {p : Nat → Nat} {DW DE : DataW Unit} {E : List (Nat × Nat)}

theorem one_in {n : Nat} {a : Int} : allIn n [a] = decide (0 ≤ a ∧ a < n) := by simp [allIn, Bool.decide_and]
theorem two_in {n : Nat} {a b : Int} : allIn n [a, b] = decide ((0 ≤ a ∧ a < n) ∧ 0 ≤ b ∧ b < n) := by simp [allIn, Bool.decide_and]

set_option maxHeartbeats 400000 in
theorem members_no (f : FAt w L E p) (a : Int) (ha : ¬ (0 ≤ a ∧ a < L.n)) :
    Calls Try.prog 26 #[.pointer (some ⟨L.g, 0, none⟩), .int .i64 a] w fun e w' => e = .returned (.tuple #[.slice none 0 0, .iface 71 (.int .i64 1)]) ∧ RowKit.Below w.heap.size w w' := by
  have hb : RowKit.Below w.heap.size w (w.alloc (.cells #[.int .i64 a] 3)) := (RowKit.Below.refl _ _).alloc (Nat.le_refl _) _
  obtain ⟨DW, DE, m, -⟩ := (f.below hb).mem
  have hh := has_any m rfl w.heap.size [a] (fun i x hx => by match i, hx with | 0, hx => cases hx; simp) (by simp) 1
  rw [one_in, decide_eq_false ha] at hh
  clear m
  go_enter Try.func26, Try.ntmps26
  go_wp2_with fail
  refine hh.mono ?_
  rintro e w1 ⟨rfl, rfl⟩
  go_wp2_with fail
  go_ret2
  exact ⟨rfl, hb⟩

set_option maxHeartbeats 1000000 in
theorem members_any (f : FAt w L E p) (a : Nat) (ha : a < L.n) :
    Calls Try.prog 26 #[.pointer (some ⟨L.g, 0, none⟩), .int .i64 (a : Int)] w fun e w' => ∃ k c, e = .returned (.tuple #[.slice (some ⟨k, 0, none⟩) (nodesOf L.n p (p a)).length c, .nilIface]) ∧ RowKit.Below w.heap.size w w' ∧ w.heap.size ≤ k ∧ (nodesOf L.n p (p a)).length ≤ c ∧ c ≤ 400 ∧
      ∀ j, j < (nodesOf L.n p (p a)).length → w'.cell? ⟨k, j, none⟩ = some (.int .i64 ((nodesOf L.n p (p a)).getD j 0 : Nat)) := by
  have hb : RowKit.Below w.heap.size w (w.alloc (.cells #[.int .i64 (a : Int)] 3)) := (RowKit.Below.refl _ _).alloc (Nat.le_refl _) _
  have f1 := f.below hb
  obtain ⟨DW, DE, m, hw⟩ := f1.mem
  have hh := has_any m rfl w.heap.size [(a : Int)] (fun i x hx => by match i, hx with | 0, hx => cases hx; simp) (by simp) 1
  rw [one_in, decide_eq_true (by omega)] at hh
  have hpn := f.grown.lt ha
  obtain ⟨b, T, l, hW⟩ := hw (p a) hpn (f.grown.rest.least a)
  obtain ⟨-, hsz, hs, hz⟩ := hW.sz f.grown m.n60 hpn (f.grown.rest.least a)
  have hns := hW.ns f.grown
  have hlook := ways_look (w := (w.alloc (.cells #[.int .i64 (a : Int)] 3)).drew) m.ways (p a) b (by have := m.n60; omega) hW.at_
  have c0 := m.c0
  have c1 := m.c1
  have hat := m.at ha
  have i0 : (0 : Int) ≤ (a : Int) := by omega
  have i1 : (a : Int) < (L.n : Int) := by omega
  have hnx := nodes_any m.drew hW.row.drew (by omega) hz _ hns
  rw [List.length_map] at hnx
  have HX : Hid (∀ j, j < (nodesOf L.n p (p a)).length → ((nodesOf L.n p (p a)).map Int.ofNat).getD j 0 = ((nodesOf L.n p (p a)).getD j 0 : Nat)) := fun j hj => by
    rw [List.getD_eq_getElem?_getD, List.getD_eq_getElem?_getD, List.getElem?_map, List.getElem?_eq_getElem hj]; rfl
  clear hns hW hw hsz
  go_enter Try.func26, Try.ntmps26
  go_wp2_with fail
  refine hh.mono ?_
  rintro e w1 ⟨rfl, rfl⟩
  clear hh
  go_wp2_with fail
  have hb1 : RowKit.Below w.heap.size w (w.alloc (.cells #[.int .i64 (a : Int)] 3)).drew := hb.drew
  generalize hW1 : (w.alloc (.cells #[.int .i64 (a : Int)] 3)) = W at *
  clear hW1
  go_region_held3 (fun W => W.cell? ⟨L.g, 1, none⟩ = some (.map (some L.wb)) ∧ W.cell? ⟨L.g, 0, none⟩ = some (.slice (some ⟨L.hb, 0, none⟩) L.n L.n) ∧ W.cell? ⟨L.hb, a, none⟩ = some (.int .i64 (p a : Nat))) (first | (go_keep; done) | exact ⟨cell_keep hb2 c1, cell_keep hb2 c0, cell_keep hb2 hat⟩)
    (first
      | (go_at_call 53; refine hnx.mono ?_; rintro e w2 ⟨k, rfl, hb2, hk, hle, hl⟩))
  go_wp2_with fail
  go_ret2
  have hsz := hb1.size
  refine ⟨k, sz T, rfl, below_step hb1 hb2, by omega, hle, by omega, fun j hj => ?_⟩
  rw [hl j hj, HX.out j hj]

set_option maxHeartbeats 400000 in
theorem same_no (f : FAt w L E p) (a b : Int) (ha : ¬ ((0 ≤ a ∧ a < L.n) ∧ 0 ≤ b ∧ b < L.n)) :
    Calls Try.prog 30 #[.pointer (some ⟨L.g, 0, none⟩), .int .i64 a, .int .i64 b] w fun e w' => e = .returned (.tuple #[.bool false, .iface 71 (.int .i64 1)]) ∧ RowKit.Below w.heap.size w w' := by
  have hb : RowKit.Below w.heap.size w (w.alloc (.cells #[.int .i64 a, .int .i64 b] 3)) := (RowKit.Below.refl _ _).alloc (Nat.le_refl _) _
  obtain ⟨DW, DE, m, -⟩ := (f.below hb).mem
  have hh := has_any m rfl w.heap.size [a, b] (fun i x hx => by match i, hx with | 0, hx => cases hx; simp | 1, hx => cases hx; simp) (by simp) 2
  rw [two_in, decide_eq_false ha] at hh
  clear m
  go_enter Try.func30, Try.ntmps30
  go_wp2_with fail
  refine hh.mono ?_
  rintro e w1 ⟨rfl, rfl⟩
  go_wp2_with fail
  go_ret2
  exact ⟨rfl, hb⟩

set_option maxHeartbeats 400000 in
theorem same_any (f : FAt w L E p) (a b : Nat) (ha : a < L.n) (hb : b < L.n) :
    Calls Try.prog 30 #[.pointer (some ⟨L.g, 0, none⟩), .int .i64 (a : Int), .int .i64 (b : Int)] w fun e w' => e = .returned (.tuple #[.bool (decide (p a = p b)), .nilIface]) ∧ RowKit.Below w.heap.size w w' := by
  have hb0 : RowKit.Below w.heap.size w (w.alloc (.cells #[.int .i64 (a : Int), .int .i64 (b : Int)] 3)) := (RowKit.Below.refl _ _).alloc (Nat.le_refl _) _
  obtain ⟨DW, DE, m, -⟩ := (f.below hb0).mem
  have hh := has_any m rfl w.heap.size [(a : Int), (b : Int)] (fun i x hx => by match i, hx with | 0, hx => cases hx; simp | 1, hx => cases hx; simp) (by simp) 2
  rw [two_in, decide_eq_true (by omega)] at hh
  have c0 := m.c0
  have h1 := m.at ha
  have h2 := m.at hb
  have i0 : (0 : Int) ≤ (a : Int) := by omega
  have i1 : (a : Int) < (L.n : Int) := by omega
  have i2 : (0 : Int) ≤ (b : Int) := by omega
  have i3 : (b : Int) < (L.n : Int) := by omega
  have hdr : RowKit.Below w.heap.size w (w.alloc (.cells #[.int .i64 (a : Int), .int .i64 (b : Int)] 3)).drew := hb0.drew
  obtain ⟨q, hq⟩ : ∃ q, (((p a : Nat) : Int) == ((p b : Nat) : Int)) = q := ⟨_, rfl⟩
  have HQ : Hid (decide (p a = p b) = q) := show _ = _ by rw [← hq, Bool.eq_iff_iff]; simp; omega
  clear m
  go_enter Try.func30, Try.ntmps30
  go_wp2_with fail
  refine hh.mono ?_
  rintro e w1 ⟨rfl, rfl⟩
  go_wp2_with fail
  go_region
  go_wp2_with fail
  go_ret2
  exact ⟨by rw [HQ.out]; rfl, hdr⟩

end Go.Proofs.Ytffpkclefgidhaa
