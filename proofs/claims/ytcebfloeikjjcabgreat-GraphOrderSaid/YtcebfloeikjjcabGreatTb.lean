/-
  Members and Same of package tour.
-/
import Derived.Test.YtcebfloeikjjcabGreatTa
namespace Go.Proofs.YtcebfloeikjjcabGreat
open Go.RowKit Go.Deep Go.Shelf Go.Sort Go.Lib
open Go.RowKit (Below)
set_option linter.unusedVariables false

variable {w w' : World} {L : Pl} {p : Nat → Nat} {DW DE : DataW Unit} {E : List (Nat × Nat)}

theorem one_in {n : Nat} {a : Int} : allIn n [a] = decide (0 ≤ a ∧ a < n) := by simp [allIn, Bool.decide_and]
theorem two_in {n : Nat} {a b : Int} : allIn n [a, b] = decide ((0 ≤ a ∧ a < n) ∧ 0 ≤ b ∧ b < n) := by simp [allIn, Bool.decide_and]

set_option maxHeartbeats 400000 in
theorem same_no (f : FAt w L E p) (a b : Int) (ha : ¬ ((0 ≤ a ∧ a < L.n) ∧ 0 ≤ b ∧ b < L.n)) :
    Calls Tryz.prog 15 #[.pointer (some ⟨L.g, 0, none⟩), .int .i64 a, .int .i64 b] w fun e w' => e = .returned (.tuple #[.bool false, .iface 50 (.int .i64 1)]) ∧ RowKit.Below w.heap.size w w' := by
  have hb : RowKit.Below w.heap.size w (w.alloc (.cells #[.int .i64 a, .int .i64 b] 3)) := (RowKit.Below.refl _ _).alloc (Nat.le_refl _) _
  obtain ⟨DW, DE, m, -⟩ := (f.below hb).mem
  have hh := has_any m rfl w.heap.size [a, b] (fun i x hx => by match i, hx with | 0, hx => cases hx; simp | 1, hx => cases hx; simp) (by simp) 2
  rw [two_in, decide_eq_false ha] at hh
  clear m
  go_enter Tryz.func15, Tryz.ntmps15
  go_wp2_with fail
  refine hh.mono ?_
  rintro e w1 ⟨rfl, rfl⟩
  go_wp2_with fail
  go_ret2
  exact ⟨rfl, hb⟩

set_option maxHeartbeats 400000 in
theorem same_any (f : FAt w L E p) (a b : Nat) (ha : a < L.n) (hb : b < L.n) :
    Calls Tryz.prog 15 #[.pointer (some ⟨L.g, 0, none⟩), .int .i64 (a : Int), .int .i64 (b : Int)] w fun e w' => e = .returned (.tuple #[.bool (decide (p a = p b)), .nilIface]) ∧ RowKit.Below w.heap.size w w' := by
  have hb0 : RowKit.Below w.heap.size w (w.alloc (.cells #[.int .i64 (a : Int), .int .i64 (b : Int)] 3)) := (RowKit.Below.refl _ _).alloc (Nat.le_refl _) _
  obtain ⟨DW, DE, m, -⟩ := (f.below hb0).mem
  have hh := has_any m rfl w.heap.size [(a : Int), (b : Int)] (fun i x hx => by match i, hx with | 0, hx => cases hx; simp | 1, hx => cases hx; simp) (by simp) 2
  rw [two_in, decide_eq_true (by omega)] at hh
  have c0 := m.c0
  have h1 := m.at ha
  have h2 := m.at hb
  have i0 : (0 : Int) ≤ (a : Int) := by omega
  have i1 : (a : Int) < (L.n : Int) := by omega
  have i2 : (0 : Int) ≤ (b : Int) := by omega
  have i3 : (b : Int) < (L.n : Int) := by omega
  have hdr : RowKit.Below w.heap.size w (w.alloc (.cells #[.int .i64 (a : Int), .int .i64 (b : Int)] 3)).drew := hb0.drew
  obtain ⟨q, hq⟩ : ∃ q, (((p a : Nat) : Int) == ((p b : Nat) : Int)) = q := ⟨_, rfl⟩
  have HQ : Hid (decide (p a = p b) = q) := show _ = _ by rw [← hq, Bool.eq_iff_iff]; simp; omega
  clear m
  go_enter Tryz.func15, Tryz.ntmps15
  go_wp2_with fail
  refine hh.mono ?_
  rintro e w1 ⟨rfl, rfl⟩
  go_wp2_with fail
  go_region
  go_wp2_with fail
  go_ret2
  exact ⟨by rw [HQ.out]; rfl, hdr⟩

end Go.Proofs.YtcebfloeikjjcabGreat
