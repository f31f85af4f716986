/-
  A graph of three nodes of the statement's own.
-/
import Derived.Test.YtcebfloeikjjcabGreatMm
namespace Go.Proofs.YtcebfloeikjjcabGreat.Gr
open Go.RowKit Go.Deep Go.Maps
open Go.RowKit (Below)
set_option linter.unusedVariables false

variable {w w' : World} {G : GPl} {A : List (Nat × Nat)} {lv : Nat × Nat → Nat} {tr : Nat × Nat → Bool}

/-- Three nodes that hang together: two edges in the tree. -/
theorem three_tree (h : GOk w G A lv tr) (hn : G.n = 3) (h1 : (1, 2) ∈ A) (h2 : (0, 2) ∈ A) : (Fo A lv tr 0).length = 2 ∧ Conn A 0 1 := by
  have q := conn_eqv A
  have c01 : Conn A 0 1 := q.trans (conn_edge h2) (q.symm (conn_edge h1))
  obtain ⟨p, hp⟩ := rest_of (Fo A lv tr 0)
  have hs : ∀ i j, p i = p j ↔ Conn A i j := fun i j => (hp.same i j).trans (h.lev.tree i j)
  have p0 : p 0 = 0 := by have := hp.le 0; omega
  have p1 : p 1 = 0 := by rw [← p0]; exact ((hs 0 1).2 c01).symm
  have p2 : p 2 = 0 := by rw [← p0]; exact ((hs 0 2).2 (conn_edge h2)).symm
  have hpt := ((forest_parts (n := 3) (fun e he => by have := h.lev.among e (mem_Fo.1 he).1; rw [hn] at this; exact this) hp).2).1 h.lev.forest
  have e : partsOf 3 p = 1 := by
    unfold partsOf
    rw [cnt_succ, cnt_succ, cnt_succ]
    simp [p0, p1, p2, cnt]
  exact ⟨by omega, c01⟩

/-- A graph of three nodes of the statement's own. -/
structure ZW (w0 : World) (G : GPl) (A : List (Nat × Nat)) (w : World) : Prop where
  gw : ∃ lv tr, GW w0 G A lv tr w
  n3 : G.n = 3

theorem z_add {w0 : World} (h : ZW w0 G A w) (a b : Nat) (hab : a < b) (hb : b < 3) (hn : (a, b) ∉ A) (hl : A.length < 100) :
    Calls Tryz.prog 6 #[.pointer (some ⟨G.g, 0, none⟩), .int .i64 (a : Nat), .int .i64 (b : Nat)] w fun e w' => e = .returned .nilIface ∧ ∃ A', ZW w0 G A' w' ∧ (∀ e, e ∈ A' ↔ e = (a, b) ∨ e ∈ A) ∧ A'.length = A.length + 1 := by
  obtain ⟨lv, tr, gw⟩ := h.gw
  have hmin : min a b = a := Nat.min_eq_left (by omega)
  have hmax : max a b = b := Nat.max_eq_right (by omega)
  refine (add_any gw.ok a b (by rw [h.n3]; omega) (by rw [h.n3]; omega) (by omega) (by rw [hmin, hmax]; exact hn) (by omega)).mono ?_
  rw [hmin, hmax]
  rintro e w1 ⟨rfl, t1, P, Q, tr', rfl, h1⟩
  refine ⟨rfl, _, ⟨⟨_, _, gw.turn t1 h1⟩, h.n3⟩, fun e => ?_, by simp; omega⟩
  simp only [List.mem_append, List.mem_cons]
  constructor
  · rintro (q | q | q)
    · exact Or.inr (Or.inl q)
    · exact Or.inl q
    · exact Or.inr (Or.inr q)
  · rintro (q | q | q)
    · exact Or.inr (Or.inl q)
    · exact Or.inl q
    · exact Or.inr (Or.inr q)

theorem z_drop {w0 : World} (h : ZW w0 G A w) (a b : Nat) (hab : a < b) (hb : b < 3) (hn : (a, b) ∈ A) :
    Calls Tryz.prog 7 #[.pointer (some ⟨G.g, 0, none⟩), .int .i64 (a : Nat), .int .i64 (b : Nat)] w fun e w' => e = .returned .nilIface ∧ ∃ A', ZW w0 G A' w' ∧ (∀ e, e ∈ A → e ≠ (a, b) → e ∈ A') := by
  obtain ⟨lv, tr, gw⟩ := h.gw
  have hmin : min a b = a := Nat.min_eq_left (by omega)
  have hmax : max a b = b := Nat.max_eq_right (by omega)
  refine (drop_any gw.ok a b (by rw [h.n3]; omega) (by rw [h.n3]; omega) (by rw [hmin, hmax]; exact hn)).mono ?_
  rw [hmin, hmax]
  rintro e w1 ⟨rfl, t1, P, Q, lv', tr', rfl, h1, _⟩
  refine ⟨rfl, _, ⟨⟨_, _, gw.turn t1 h1⟩, h.n3⟩, fun e he hne => ?_⟩
  simp only [List.mem_append, List.mem_cons] at he ⊢
  rcases he with q | q | q
  · exact Or.inl q
  · exact absurd q hne
  · exact Or.inr q

theorem z_new (w : World) : Calls Tryz.prog 5 #[.int .i64 3] w fun e w' => ∃ G, e = .returned (.tuple #[.pointer (some ⟨G.g, 0, none⟩), .nilIface]) ∧ ZW w G [] w' := by
  refine (gnew_any (w := w) 3 (by omega) (by omega)).mono ?_
  rintro e w1 ⟨G, rfl, hb, h1, hn, hf⟩
  exact ⟨G, rfl, ⟨_, _, h1, hb, hf⟩, hn⟩

theorem z_joined {w0 : World} (h : ZW w0 G A w) (h1 : (1, 2) ∈ A) (h2 : (0, 2) ∈ A) :
    Calls Tryz.prog 8 #[.pointer (some ⟨G.g, 0, none⟩), .int .i64 0, .int .i64 1] w fun e w' => e = .returned (.tuple #[.bool true, .nilIface]) ∧ ZW w0 G A w' := by
  obtain ⟨lv, tr, gw⟩ := h.gw
  obtain ⟨p, f⟩ := gw.ok.mem.zero
  have hc := (three_tree gw.ok h.n3 h1 h2).2
  have hj := joined_any gw.ok.mem f 0 1 (by rw [h.n3]; omega) (by rw [h.n3]; omega)
  rw [decide_eq_true ((f.grown.rest.same 0 1).2 ((gw.ok.lev.tree 0 1).2 hc))] at hj
  refine hj.mono ?_
  rintro e w1 ⟨rfl, hb⟩
  exact ⟨rfl, ⟨_, _, gw.step hb⟩, h.n3⟩

theorem z_tree {w0 : World} (h : ZW w0 G A w) (h1 : (1, 2) ∈ A) (h2 : (0, 2) ∈ A) :
    Calls Tryz.prog 9 #[.pointer (some ⟨G.g, 0, none⟩)] w fun e w' => ∃ ad c, e = .returned (.slice ad 2 c) ∧ Below w0.heap.size w0 w' := by
  obtain ⟨lv, tr, gw⟩ := h.gw
  refine (gtree_any gw.ok 2 (three_tree gw.ok h.n3 h1 h2).1).mono ?_
  rintro e w1 ⟨ad, c, rfl, hb, _⟩
  exact ⟨ad, c, rfl, (gw.step hb).below⟩

end Go.Proofs.YtcebfloeikjjcabGreat.Gr
