/-
  Edges, Tree and Parts of package graph; Add and Drop, whatever they are called with.
-/
import Derived.Test.YthhojlbfnffdeabGreatMh
import Derived.Test.YthhojlbfnffdeabGreatQa
namespace Go.Proofs.YthhojlbfnffdeabGreat.Gr
open Go.RowKit Go.Deep Go.Maps
open Go.RowKit (Below)
set_option linter.unusedVariables false

variable {w wr w' : World} {G : GPl} {A A' P Q : List (Nat × Nat)} {lv lv' : Nat × Nat → Nat} {tr tr' : Nat × Nat → Bool} {a b u v : Nat}

theorem filter_tree : A.filter tr = Fo A lv tr 0 := by unfold Fo; exact List.filter_congr fun e _ => by simp

set_option maxRecDepth 100000 in
theorem gedges_any (h : GOk w G A lv tr) (N : Nat) (hN : A.length = N) :
    Calls Tryz.prog 11 #[.pointer (some ⟨G.g, 0, none⟩)] w fun e w' => ∃ ad c, e = .returned (.slice ad N c) ∧ Below w.heap.size w w' ∧ EdgesAt w' ad A ∧ (∀ c, ad = some ⟨c, 0, none⟩ → w.heap.size ≤ c) ∧ N ≤ c ∧ c ≤ maxLen := by
  have hp := picked_any h.mem (fun _ => true) 32 #[] (enters_of Tryz.func32 (by kernel_rfl) rfl) (fun W _ e _ => pickA_any e.1 e.2 (lv e) (tr e) W)
  rw [List.filter_eq_self.2 (fun _ _ => rfl)] at hp
  rw [hN] at hp
  clear h hN
  go_enter Tryz.func11, Tryz.ntmps11
  go_wp2_with fail
  refine hp.mono ?_
  rintro e w1 ⟨ad, c, rfl, hb, hE, hf, h1, h2⟩
  clear hp
  go_wp2_with fail
  go_ret
  exact ⟨ad, c, rfl, hb, hE, hf, h1, h2⟩

set_option maxRecDepth 100000 in
theorem gtree_any (h : GOk w G A lv tr) (N : Nat) (hN : (Fo A lv tr 0).length = N) :
    Calls Tryz.prog 10 #[.pointer (some ⟨G.g, 0, none⟩)] w fun e w' => ∃ ad c, e = .returned (.slice ad N c) ∧ Below w.heap.size w w' ∧ EdgesAt w' ad (Fo A lv tr 0) ∧ (∀ c, ad = some ⟨c, 0, none⟩ → w.heap.size ≤ c) ∧ N ≤ c ∧ c ≤ maxLen := by
  have hp := picked_any h.mem tr 31 #[] (enters_of Tryz.func31 (by kernel_rfl) rfl) (fun W _ e _ => pickT_any e.1 e.2 (lv e) (tr e) W)
  rw [filter_tree (lv := lv)] at hp
  rw [hN] at hp
  clear h hN
  go_enter Tryz.func10, Tryz.ntmps10
  go_wp2_with fail
  refine hp.mono ?_
  rintro e w1 ⟨ad, c, rfl, hb, hE, hf, h1, h2⟩
  clear hp
  go_wp2_with fail
  go_ret
  exact ⟨ad, c, rfl, hb, hE, hf, h1, h2⟩

theorem GOk.tree_le (h : GOk w G A lv tr) : (Fo A lv tr 0).length ≤ G.n := by
  obtain ⟨p, hp⟩ := rest_of (Fo A lv tr 0)
  have := ((forest_parts (n := G.n) (fun e he => h.lev.among e (mem_Fo.1 he).1) hp).2).1 h.lev.forest
  omega

set_option maxRecDepth 100000 in
set_option maxHeartbeats 1000000 in
theorem gparts_any (h : GOk w G A lv tr) (N : Nat) (hN : (Fo A lv tr 0).length = N) :
    Calls Tryz.prog 19 #[.pointer (some ⟨G.g, 0, none⟩)] w fun e w' => e = .returned (.int .i64 ((G.n - N : Nat) : Int)) ∧ Below w.heap.size w w' := by
  have hd : Below w.heap.size w w.drew := (Below.refl _ _).drew
  have ht := gtree_any (h.below hd) N hN
  have c0 := h.mem.c0
  have hle := h.tree_le
  rw [hN] at hle
  have hn60 := h.mem.n60
  clear h hN
  generalize G.n = n at *
  go_enter Tryz.func19, Tryz.ntmps19
  go_wp2_with fail
  go_region_held3 (fun V => V.cell? ⟨G.g, 0, none⟩ = some (.int .i64 (n : Nat))) (first | (go_keep; done) | exact c0 | exact cell_keep hb c0)
    (first
      | (go_at_call 10; refine ht.mono ?_; rintro e w1 ⟨ad, c, rfl, hb, hE, hf, h1, h2⟩))
  clear hE hf ht
  have hwr : IntKind.i64.wrap ((n : Int) - (N : Int)) = ((n - N : Nat) : Int) := by rw [IntKind.wrap_i64]; omega
  rw [hwr]
  clear hwr
  go_wp2_with fail
  go_ret
  exact ⟨rfl, below_step hd hb⟩

/-- What becomes of edges and levels: no level falls, what is new has level 0; at most one edge more. -/
structure Grew (A : List (Nat × Nat)) (lv : Nat × Nat → Nat) (A' : List (Nat × Nat)) (lv' : Nat × Nat → Nat) : Prop where
  old : ∀ e ∈ A', e ∈ A → lv e ≤ lv' e
  new : ∀ e ∈ A', e ∉ A → lv' e = 0
  len : A'.length ≤ A.length + 1

theorem Grew.refl (A : List (Nat × Nat)) (lv : Nat × Nat → Nat) : Grew A lv A lv := ⟨fun _ _ _ => Nat.le_refl _, fun e h h' => absurd h h', Nat.le_succ _⟩

theorem grew_add (hn : (u, v) ∉ P ++ Q) : Grew (P ++ Q) lv (P ++ (u, v) :: Q) (upd lv (u, v) 0) := by
  refine ⟨fun e _ he => ?_, fun e he hne => ?_, by simp; omega⟩
  · have hne : e ≠ (u, v) := fun q => hn (by rw [← q]; exact he)
    rw [upd_other hne]; exact Nat.le_refl _
  · have : e = (u, v) := by
      rcases List.mem_append.1 he with q | q
      · exact absurd (List.mem_append_left _ q) hne
      · rcases List.mem_cons.1 q with q | q
        · exact q
        · exact absurd (List.mem_append_right _ q) hne
    rw [this]; exact upd_same ..

theorem grew_drop (h : ∀ e ∈ P ++ Q, lv e ≤ lv' e) : Grew (P ++ (u, v) :: Q) lv (P ++ Q) lv' :=
  ⟨fun e he _ => h e he, fun e he hne => absurd (by
    rcases List.mem_append.1 he with q | q
    · exact List.mem_append_left _ q
    · exact List.mem_append_right _ (List.mem_cons_of_mem _ q)) hne, by simp; omega⟩

/-- A graph that a statement made, since w0. -/
structure GW (w0 : World) (G : GPl) (A : List (Nat × Nat)) (lv : Nat × Nat → Nat) (tr : Nat × Nat → Bool) (w : World) : Prop where
  ok : GOk w G A lv tr
  below : Below w0.heap.size w0 w
  foot : ∀ c, GFoot G c → w0.heap.size ≤ c

theorem GW.step {w0 : World} (h : GW w0 G A lv tr w) (hb : Below w.heap.size w w') : GW w0 G A lv tr w' := ⟨h.ok.below hb, h.below.trans (hb.mono h.below.size), h.foot⟩

theorem GW.turn {w0 : World} (h : GW w0 G A lv tr w) (t : Turns (GFoot G) w w') (h' : GOk w' G A' lv' tr') : GW w0 G A' lv' tr' w' := ⟨h', t.below h.below h.below.size h.foot, h.foot⟩

/-- What a change comes to, whatever it was called with. -/
def Changed (w0 w : World) (G : GPl) (A : List (Nat × Nat)) (lv : Nat × Nat → Nat) (e : Ending) (w' : World) : Prop :=
  ∃ err A' lv' tr', e = .returned err ∧ Turns (GFoot G) w w' ∧ GW w0 G A' lv' tr' w' ∧ Grew A lv A' lv'

theorem add_u {w0 : World} (h : GW w0 G A lv tr w) (x y : Int) (hl : A.length < 200) :
    Calls Tryz.prog 7 #[.pointer (some ⟨G.g, 0, none⟩), .int .i64 x, .int .i64 y] w (Changed w0 w G A lv) := by
  by_cases hn : (0 ≤ x ∧ x < G.n) ∧ 0 ≤ y ∧ y < G.n
  · obtain ⟨a, rfl⟩ := Int.eq_ofNat_of_zero_le hn.1.1
    obtain ⟨b, rfl⟩ := Int.eq_ofNat_of_zero_le hn.2.1
    by_cases hab : a = b
    · subst hab
      refine (add_shape h.ok a (by omega)).mono ?_
      rintro e w1 ⟨rfl, hb⟩
      exact ⟨_, A, lv, tr, rfl, Turns.of_below hb, h.step hb, Grew.refl A lv⟩
    · by_cases hin : (min a b, max a b) ∈ A
      · refine (add_clash h.ok a b (by omega) (by omega) hab hin).mono ?_
        rintro e w1 ⟨rfl, hb⟩
        exact ⟨_, A, lv, tr, rfl, Turns.of_below hb, h.step hb, Grew.refl A lv⟩
      · refine (add_any h.ok a b (by omega) (by omega) hab hin hl).mono ?_
        rintro e w1 ⟨rfl, t1, P, Q, tr', rfl, h1⟩
        exact ⟨_, _, _, tr', rfl, t1, h.turn t1 h1, grew_add hin⟩
  · refine (add_no h.ok x y hn).mono ?_
    rintro e w1 ⟨rfl, hb⟩
    exact ⟨_, A, lv, tr, rfl, Turns.of_below hb, h.step hb, Grew.refl A lv⟩

theorem drop_u {w0 : World} (h : GW w0 G A lv tr w) (x y : Int) :
    Calls Tryz.prog 8 #[.pointer (some ⟨G.g, 0, none⟩), .int .i64 x, .int .i64 y] w (Changed w0 w G A lv) := by
  by_cases hn : (0 ≤ x ∧ x < G.n) ∧ 0 ≤ y ∧ y < G.n
  · obtain ⟨a, rfl⟩ := Int.eq_ofNat_of_zero_le hn.1.1
    obtain ⟨b, rfl⟩ := Int.eq_ofNat_of_zero_le hn.2.1
    by_cases hin : (min a b, max a b) ∈ A
    · refine (drop_any h.ok a b (by omega) (by omega) hin).mono ?_
      rintro e w1 ⟨rfl, t1, P, Q, lv', tr', rfl, h1, h2⟩
      exact ⟨_, _, _, tr', rfl, t1, h.turn t1 h1, grew_drop h2⟩
    · refine (drop_none h.ok a b (by omega) (by omega) hin).mono ?_
      rintro e w1 ⟨rfl, hb⟩
      exact ⟨_, A, lv, tr, rfl, Turns.of_below hb, h.step hb, Grew.refl A lv⟩
  · refine (drop_no h.ok x y hn).mono ?_
    rintro e w1 ⟨rfl, hb⟩
    exact ⟨_, A, lv, tr, rfl, Turns.of_below hb, h.step hb, Grew.refl A lv⟩

/-- The script's steps, as they lie in memory: what is done, and the two nodes. -/
def Script (w : World) (a : Option Addr) (n : Nat) (f : Nat → Int × Int × Int) : Prop :=
  ∀ i, i < n → ∃ b o, a = some ⟨b, o, none⟩ ∧ w.cell? ⟨b, o + i * 4, none⟩ = some (.int .i64 (f i).1) ∧ w.cell? ⟨b, o + i * 4 + 1, none⟩ = some (.int .i64 (f i).2.1) ∧ w.cell? ⟨b, o + i * 4 + 2, none⟩ = some (.int .i64 (f i).2.2) ∧ ∃ v, w.cell? ⟨b, o + i * 4 + 3, none⟩ = some v

theorem Script.below {a : Option Addr} {n : Nat} {f : Nat → Int × Int × Int} (h : Script w a n f) (hb : Below w.heap.size w w') : Script w' a n f := fun i hi => by
  obtain ⟨b, o, e, h1, h2, h3, v, h4⟩ := h i hi
  exact ⟨b, o, e, cell_keep hb h1, cell_keep hb h2, cell_keep hb h3, v, cell_keep hb h4⟩

end Go.Proofs.YthhojlbfnffdeabGreat.Gr
