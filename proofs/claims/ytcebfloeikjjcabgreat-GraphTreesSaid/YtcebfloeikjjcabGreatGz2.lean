/-
  The statement's own graph of three nodes, call by call.
-/
import Derived.Test.YtcebfloeikjjcabGreatGz
namespace Go.Proofs.YtcebfloeikjjcabGreat.Gr
open Go.RowKit Go.Deep Go.Maps
open Go.RowKit (Below)
set_option linter.unusedVariables false

variable {w w' w0 : World} {G : GPl}

theorem ZW.drew {A : List (Nat × Nat)} (h : ZW w0 G A w) : ZW w0 G A w.drew := by
  obtain ⟨lv, tr, gw⟩ := h.gw
  exact ⟨⟨lv, tr, gw.step (Below.refl _ _).drew⟩, h.n3⟩

/-- How far it has come: one, two, three edges; one fewer. -/
def Z1 (w0 : World) (G : GPl) (w : World) : Prop := ∃ A, ZW w0 G A w ∧ (∀ e, e ∈ A ↔ e = (0, 1)) ∧ A.length = 1
def Z2 (w0 : World) (G : GPl) (w : World) : Prop := ∃ A, ZW w0 G A w ∧ (∀ e, e ∈ A ↔ e = (1, 2) ∨ e = (0, 1)) ∧ A.length = 2
def Z3 (w0 : World) (G : GPl) (w : World) : Prop := ∃ A, ZW w0 G A w ∧ (∀ e, e ∈ A ↔ e = (0, 2) ∨ e = (1, 2) ∨ e = (0, 1))
def Z4 (w0 : World) (G : GPl) (w : World) : Prop := ∃ A, ZW w0 G A w ∧ (1, 2) ∈ A ∧ (0, 2) ∈ A

theorem Z4.drew (h : Z4 w0 G w) : Z4 w0 G w.drew := by
  obtain ⟨A, hz, h1, h2⟩ := h
  exact ⟨A, hz.drew, h1, h2⟩

theorem z_add1 (h : ZW w0 G [] w) :
    Calls Tryz.prog 6 #[.pointer (some ⟨G.g, 0, none⟩), .int .i64 0, .int .i64 1] w fun e w' => e = .returned .nilIface ∧ Z1 w0 G w' := by
  refine Calls.mono (z_add h 0 1 (by omega) (by omega) (by simp) (by simp)) ?_
  rintro e w1 ⟨rfl, A, hz, hm, hl⟩
  exact ⟨rfl, A, hz, fun e => by rw [hm]; simp, hl⟩

theorem z_add2 (h : Z1 w0 G w) :
    Calls Tryz.prog 6 #[.pointer (some ⟨G.g, 0, none⟩), .int .i64 1, .int .i64 2] w fun e w' => e = .returned .nilIface ∧ Z2 w0 G w' := by
  obtain ⟨A, hz, hm, hl⟩ := h
  refine Calls.mono (z_add hz 1 2 (by omega) (by omega) (by rw [hm]; simp) (by omega)) ?_
  rintro e w1 ⟨rfl, A', hz', hm', hl'⟩
  exact ⟨rfl, A', hz', fun e => by rw [hm', hm], by omega⟩

theorem z_add3 (h : Z2 w0 G w) :
    Calls Tryz.prog 6 #[.pointer (some ⟨G.g, 0, none⟩), .int .i64 0, .int .i64 2] w fun e w' => e = .returned .nilIface ∧ Z3 w0 G w' := by
  obtain ⟨A, hz, hm, hl⟩ := h
  refine Calls.mono (z_add hz 0 2 (by omega) (by omega) (by rw [hm]; simp) (by omega)) ?_
  rintro e w1 ⟨rfl, A', hz', hm', hl'⟩
  exact ⟨rfl, A', hz', fun e => by rw [hm', hm]⟩

theorem z_drop4 (h : Z3 w0 G w) :
    Calls Tryz.prog 7 #[.pointer (some ⟨G.g, 0, none⟩), .int .i64 0, .int .i64 1] w fun e w' => e = .returned .nilIface ∧ Z4 w0 G w' := by
  obtain ⟨A, hz, hm⟩ := h
  refine Calls.mono (z_drop hz 0 1 (by omega) (by omega) (by rw [hm]; simp)) ?_
  rintro e w1 ⟨rfl, A', hz', hm'⟩
  exact ⟨rfl, A', hz', hm' _ (by rw [hm]; simp) (by simp), hm' _ (by rw [hm]; simp) (by simp)⟩

theorem z_joined4 (h : Z4 w0 G w) :
    Calls Tryz.prog 8 #[.pointer (some ⟨G.g, 0, none⟩), .int .i64 0, .int .i64 1] w fun e w' => e = .returned (.tuple #[.bool true, .nilIface]) ∧ Z4 w0 G w' := by
  obtain ⟨A, hz, h1, h2⟩ := h
  refine Calls.mono (z_joined hz h1 h2) ?_
  rintro e w1 ⟨rfl, hz'⟩
  exact ⟨rfl, A, hz', h1, h2⟩

theorem z_tree4 (h : Z4 w0 G w) :
    Calls Tryz.prog 9 #[.pointer (some ⟨G.g, 0, none⟩)] w fun e w' => ∃ ad c, e = .returned (.slice ad 2 c) ∧ Below w0.heap.size w0 w' := by
  obtain ⟨A, hz, h1, h2⟩ := h
  exact z_tree hz h1 h2

end Go.Proofs.YtcebfloeikjjcabGreat.Gr
