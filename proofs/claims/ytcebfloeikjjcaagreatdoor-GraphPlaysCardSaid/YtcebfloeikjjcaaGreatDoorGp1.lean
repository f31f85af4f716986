/-
  GraphPlays: a graph, and the list of its edges that the statement keeps beside it.
-/
import Derived.Test.YtcebfloeikjjcaaGreatDoorTold
import Derived.Test.YtcebfloeikjjcaaGreatDoorGl
import Derived.Test.YtcebfloeikjjcaaGreatDoorMk
import Derived.Test.YtcebfloeikjjcaaGreatDoorMl
namespace Go.Proofs.YtcebfloeikjjcaaGreatDoor.Gr
open Go.RowKit Go.Deep Go.Maps
open Go.RowKit (Below)
set_option linter.unusedVariables false

variable {w0 w w' : World} {G : GPl} {A A' : List (Nat × Nat)} {lv lv' : Nat × Nat → Nat} {tr tr' : Nat × Nat → Bool} {a : Option Addr} {N c : Nat} {p : Nat → Nat}

theorem EdgesAt.turns {F : Nat → Prop} (h : EdgesAt w a A) (off : ∀ b, a = some b → ∃ g, b = ⟨g, 0, none⟩ ∧ ¬ F g) (t : Turns F w w') : EdgesAt w' a A := ⟨fun i hi => by
  obtain ⟨b, e, h1, h2⟩ := h.cell i hi
  obtain ⟨g, e1, hn⟩ := off _ e
  cases e1
  have hl := t.block b (World.block_lt_of_cell? _ _ h1) hn
  exact ⟨b, e, (World.cell?_of_block (w := w) (a := ⟨b, i * 2, none⟩) hl).trans h1, (World.cell?_of_block (w := w) (a := ⟨b, i * 2 + 1, none⟩) hl).trans h2⟩⟩

/-- A graph, its edges' list as the statement keeps it beside. -/
structure PW (w0 : World) (G : GPl) (A : List (Nat × Nat)) (lv : Nat × Nat → Nat) (tr : Nat × Nat → Bool) (a : Option Addr) (N c : Nat) (w : World) : Prop where
  gw : GW w0 G A lv tr w
  list : EdgesAt w a A
  off : ∀ b, a = some b → ∃ g, b = ⟨g, 0, none⟩ ∧ ¬ GFoot G g
  len : A.length = N
  le : N ≤ c
  max : c ≤ maxLen

/-- The step that is done, in a variable of its own. -/
structure SG (G : GPl) (gs : Nat) (what x y : Int) (w : World) : Prop where
  c0 : w.cell? ⟨gs, 0, none⟩ = some (.int .i64 what)
  c1 : w.cell? ⟨gs, 1, none⟩ = some (.int .i64 x)
  c2 : w.cell? ⟨gs, 2, none⟩ = some (.int .i64 y)
  off : ¬ GFoot G gs

theorem PW.step (h : PW w0 G A lv tr a N c w) (hb : Below w.heap.size w w') : PW w0 G A lv tr a N c w' :=
  ⟨h.gw.step hb, h.list.below hb, h.off, h.len, h.le, h.max⟩

theorem PW.n60 (h : PW w0 G A lv tr a N c w) : G.n ≤ 60 ∧ 1 ≤ G.n := ⟨h.gw.ok.mem.n60, h.gw.ok.mem.n1⟩

theorem SG.step {gs : Nat} {what x y : Int} (h : SG G gs what x y w) (hb : Below w.heap.size w w') : SG G gs what x y w' := ⟨cell_keep hb h.c0, cell_keep hb h.c1, cell_keep hb h.c2, h.off⟩

theorem SG.turn {gs : Nat} {what x y : Int} (h : SG G gs what x y w) (t : Turns (GFoot G) w w') : SG G gs what x y w' := by
  have hl := t.block gs (World.block_lt_of_cell? _ _ h.c0) h.off
  exact ⟨(World.cell?_of_block (w := w) (a := ⟨gs, 0, none⟩) hl).trans h.c0, (World.cell?_of_block (w := w) (a := ⟨gs, 1, none⟩) hl).trans h.c1, (World.cell?_of_block (w := w) (a := ⟨gs, 2, none⟩) hl).trans h.c2, h.off⟩

/-- Behind a change of the graph, a new list beside it. -/
theorem PW.turn {base : Nat} (h : PW w0 G A lv tr a N c w) (t : Turns (GFoot G) w w') (h' : GOk w' G A' lv' tr') {a' : Option Addr} {N' c' : Nat} (ht : There w base a' N' c' A') (hF : ∀ g, base ≤ g → ¬ GFoot G g) : PW w0 G A' lv' tr' a' N' c' w' := by
  have off : ∀ b, a' = some b → ∃ g, b = ⟨g, 0, none⟩ ∧ ¬ GFoot G g := fun b e => by obtain ⟨g, e1, h1⟩ := ht.own b e; exact ⟨g, e1, hF g h1⟩
  exact ⟨h.gw.turn t h', EdgesAt.turns ht.edges off t, off, ht.len, ht.le, ht.max⟩

/-- The tree's least fellows are all edges' least fellows. -/
theorem GOk.rest (h : GOk w G A lv tr) (hp : Rest A p) : ∃ q, FAt w (G.L 0) (Fo A lv tr 0) q ∧ ∀ i, q i = p i := by
  obtain ⟨q, f⟩ := h.mem.fo 0 h.mem.k0
  exact ⟨q, f, fun i => f.grown.rest.one hp (fun i j => h.lev.tree i j) i⟩

theorem joined_p (h : GOk w G A lv tr) (hp : Rest A p) (u v : Nat) (hu : u < G.n) (hv : v < G.n) (q : Bool) (hq : q = true ↔ p u = p v) :
    Calls Tryz.prog 25 #[.pointer (some ⟨G.g, 0, none⟩), .int .i64 (u : Int), .int .i64 (v : Int)] w fun e w' => e = .returned (.tuple #[.bool q, .nilIface]) ∧ Below w.heap.size w w' := by
  obtain ⟨r, f, e⟩ := h.rest hp
  have hj := joined_any h.mem f u v hu hv
  have hd : decide (r u = r v) = q := by rw [e, e, Bool.eq_iff_iff, hq]; simp
  rw [hd] at hj
  exact hj

theorem size_p (h : GOk w G A lv tr) (hp : Rest A p) (u : Nat) (hu : u < G.n) (N : Nat) (hN : cnt G.n (fun x => decide (p x = p u)) = N) :
    Calls Tryz.prog 27 #[.pointer (some ⟨G.g, 0, none⟩), .int .i64 (u : Int)] w fun e w' => e = .returned (.tuple #[.int .i64 (N : Nat), .nilIface]) ∧ Below w.heap.size w w' := by
  obtain ⟨r, f, e⟩ := h.rest hp
  refine gsize_any h.mem f u hu N ?_
  rw [nodesOf_len, ← hN]
  refine cnt_congr _ fun i _ => ?_
  rw [e, e]

theorem parts_p (h : GOk w G A lv tr) (hp : Rest A p) (N : Nat) (hN : partsOf G.n p = N) :
    Calls Tryz.prog 29 #[.pointer (some ⟨G.g, 0, none⟩)] w fun e w' => e = .returned (.int .i64 (N : Nat)) ∧ Below w.heap.size w w' := by
  obtain ⟨r, f, e⟩ := h.rest hp
  have h1 := (forest_parts (n := G.n) (fun e he => h.lev.among e (mem_Fo.1 he).1) f.grown.rest).2.1 h.lev.forest
  have h2 : partsOf G.n r = partsOf G.n p := cnt_congr _ fun i _ => by rw [e]
  have hg := gparts_any h _ rfl
  have h3 : G.n - (Fo A lv tr 0).length = N := by omega
  rw [h3] at hg
  exact hg

/-- A block of a code, by its label. -/
def blockOf (n : Nat) : Code → Option Code
  | .loop c => blockOf n c
  | .seq a b => match blockOf n a with
    | some c => some c
    | none => blockOf n b
  | .block k c => if k = n then some (.block k c) else blockOf n c
  | .scope c => blockOf n c
  | .cond _ a b => match blockOf n a with
    | some c => some c
    | none => blockOf n b
  | _ => none

theorem isOf_is {e : Nat × Nat} {u v : Nat} : IsOf e (u : Nat) (v : Nat) ↔ e = (min u v, max u v) := by
  unfold IsOf
  constructor
  · rintro ⟨h1, h2⟩
    exact Prod.ext (by show e.1 = min u v; omega) (by show e.2 = max u v; omega)
  · rintro rfl
    exact ⟨by show ((min u v : Nat) : Int) = _; omega, by show ((max u v : Nat) : Int) = _; omega⟩

theorem mid_at {E : List (Nat × Nat)} {j : Nat} (h : j < E.length) : ∃ A B, E = A ++ E.getD j (0, 0) :: B ∧ A.length = j := by
  refine ⟨E.take j, E.drop (j + 1), ?_, by simp; omega⟩
  rw [List.getD_eq_getElem?_getD, List.getElem?_eq_getElem h]
  simp

/-- Where an edge is found, or that it is not there. -/
theorem place_w (h : PW w0 G A lv tr a N c w) (hN : N < 1000000) (x y : Int) :
    Calls Tryz.prog 10 #[.slice a N c, .int .i64 x, .int .i64 y] w fun e w' => ∃ r : Int, e = .returned (.int .i64 r) ∧ Below w.heap.size w w' ∧ ((∃ j : Nat, j < N ∧ r = j ∧ IsOf (A.getD j (0, 0)) x y) ∨ (r = -1 ∧ ∀ e ∈ A, ¬ IsOf e x y)) :=
  place_ref h.list h.len hN x y

/-- Where an edge is that is there. -/
theorem place_in (h : PW w0 G A lv tr a N c w) (hN : N < 1000000) (u v : Nat) (hin : (min u v, max u v) ∈ A) :
    Calls Tryz.prog 10 #[.slice a N c, .int .i64 (u : Nat), .int .i64 (v : Nat)] w fun e w' => ∃ j : Nat, e = .returned (.int .i64 (j : Nat)) ∧ Below w.heap.size w w' := by
  refine (place_ref h.list h.len hN u v).mono ?_
  rintro e w1 ⟨r, rfl, hb, ⟨j, _, rfl, _⟩ | ⟨rfl, hno⟩⟩
  · exact ⟨j, rfl, hb⟩
  · exact absurd (isOf_is.2 rfl) (hno _ hin)

theorem place_out (h : PW w0 G A lv tr a N c w) (hN : N < 1000000) (u v : Nat) (hin : (min u v, max u v) ∉ A) :
    Calls Tryz.prog 10 #[.slice a N c, .int .i64 (u : Nat), .int .i64 (v : Nat)] w fun e w' => e = .returned (.int .i64 (-1)) ∧ Below w.heap.size w w' := by
  refine (place_ref h.list h.len hN u v).mono ?_
  rintro e w1 ⟨r, rfl, hb, ⟨j, hj, rfl, hof⟩ | ⟨rfl, _⟩⟩
  · refine absurd ?_ hin
    rw [← isOf_is.1 hof, List.getD_eq_getElem?_getD, List.getElem?_eq_getElem (by rw [h.len]; exact hj)]
    exact List.getElem_mem _
  · exact ⟨rfl, hb⟩

/-- The graph took an edge, and the list beside it has it, too. -/
theorem PW.added {base : Nat} (h : PW w0 G A lv tr a N c w) {P Q : List (Nat × Nat)} {u v c1 : Nat} {a1 : Option Addr} (hA : A = P ++ Q) (hr : Rises (P ++ (u, v) :: Q)) (ht : There w base a1 (N + 1) c1 (P ++ (u, v) :: Q)) (hF : ∀ g, base ≤ g → ¬ GFoot G g) (hd : Added w w' G A lv u v) :
    (∃ A' lv' tr', PW w0 G A' lv' tr' a1 (N + 1) c1 w') ∧ Turns (GFoot G) w w' := by
  obtain ⟨t, P2, Q2, tr', e, h1⟩ := hd
  have hE : P2 ++ (u, v) :: Q2 = P ++ (u, v) :: Q := rises_one h1.mem.rises hr ((List.perm_middle.trans (by rw [← e, hA])).trans List.perm_middle.symm)
  rw [hE] at h1
  exact ⟨⟨_, _, _, h.turn t h1 ht hF⟩, t⟩

/-- The graph dropped an edge, and the list beside it has lost it, too. -/
theorem PW.dropped {base : Nat} (h : PW w0 G A lv tr a N c w) {P Q : List (Nat × Nat)} {u v M c1 : Nat} {a1 : Option Addr} (hA : A = P ++ (u, v) :: Q) (ht : There w base a1 M c1 (P ++ Q)) (hF : ∀ g, base ≤ g → ¬ GFoot G g) (hd : Dropped w w' G A lv u v) :
    (∃ A' lv' tr', PW w0 G A' lv' tr' a1 M c1 w') ∧ Turns (GFoot G) w w' := by
  obtain ⟨t, P2, Q2, lv', tr', e, h1, _⟩ := hd
  have hR : Rises (P ++ Q) := by
    have := h.gw.ok.mem.rises
    rw [hA] at this
    exact List.Pairwise.sublist (List.Sublist.append (List.Sublist.refl _) (List.sublist_cons_self _ _)) this
  have hp : (P2 ++ Q2).Perm (P ++ Q) := by
    have h2 : ((u, v) :: (P2 ++ Q2)).Perm ((u, v) :: (P ++ Q)) := (List.perm_middle.symm.trans (by rw [← e, hA])).trans List.perm_middle
    exact h2.cons_inv
  have hE : P2 ++ Q2 = P ++ Q := rises_one h1.mem.rises hR hp
  rw [hE] at h1
  exact ⟨⟨_, _, _, h.turn t h1 ht hF⟩, t⟩

/-- The script's steps, as they lie in memory. -/
structure S4 (w : World) (a : Option Addr) (n : Nat) : Prop where
  step : ∀ i, i < n → ∃ b o what x y al nl cl, a = some ⟨b, o, none⟩ ∧ w.cell? ⟨b, o + i * 4, none⟩ = some (.int .i64 what) ∧ w.cell? ⟨b, o + i * 4 + 1, none⟩ = some (.int .i64 x) ∧ w.cell? ⟨b, o + i * 4 + 2, none⟩ = some (.int .i64 y) ∧ w.cell? ⟨b, o + i * 4 + 3, none⟩ = some (.slice al nl cl)

end Go.Proofs.YtcebfloeikjjcaaGreatDoor.Gr
