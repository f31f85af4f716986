/-
  What GraphTrees keeps from step to step: the graph, its edges and their levels as they were told.
-/
import Derived.Test.YtcebfloeikjjcabGreatGm2
namespace Go.Proofs.YtcebfloeikjjcabGreat.Gr
open Go.RowKit Go.Deep Go.Maps
open Go.RowKit (Below)
set_option linter.unusedVariables false

variable {w w0 w1 w' : World} {G : GPl} {A T A' : List (Nat × Nat)} {lv lv' : Nat × Nat → Nat} {tr tr' : Nat × Nat → Bool} {aA aT aW aV : Option Addr} {NA NT NW hb0 m : Nat}

/-- The script's steps as they lie in memory, whole. -/
structure Script4 (w : World) (a : Option Addr) (n : Nat) : Prop where
  step : ∀ i, i < n → ∃ b o what x y al nl cl, a = some ⟨b, o, none⟩ ∧ w.cell? ⟨b, o + i * 4, none⟩ = some (.int .i64 what) ∧ w.cell? ⟨b, o + i * 4 + 1, none⟩ = some (.int .i64 x) ∧ w.cell? ⟨b, o + i * 4 + 2, none⟩ = some (.int .i64 y) ∧ w.cell? ⟨b, o + i * 4 + 3, none⟩ = some (.slice al nl cl)

theorem Script4.below {a : Option Addr} {n : Nat} (h : Script4 w a n) (hb : Below w.heap.size w w') : Script4 w' a n := ⟨fun i hi => by
  obtain ⟨b, o, what, x, y, al, nl, cl, e, h1, h2, h3, h4⟩ := h.step i hi
  exact ⟨b, o, what, x, y, al, nl, cl, e, cell_keep hb h1, cell_keep hb h2, cell_keep hb h3, cell_keep hb h4⟩⟩

structure TS (w0 : World) (G : GPl) (hb0 : Nat) (aW aV : Option Addr) (NW : Nat) (A : List (Nat × Nat)) (lv : Nat × Nat → Nat) (tr : Nat × Nat → Bool) (w : World) : Prop where
  gw : GW w0 G A lv tr w
  was : EdgesAt w aW A
  la : A.length = NW
  lev : LvAt w aV A lv NW
  offW : ∀ c, aW = some ⟨c, 0, none⟩ → hb0 ≤ c
  offV : ∀ c, aV = some ⟨c, 0, none⟩ → hb0 ≤ c
  top : hb0 ≤ w.heap.size

theorem TS.step (h : TS w0 G hb0 aW aV NW A lv tr w) (hb : Below w.heap.size w w') : TS w0 G hb0 aW aV NW A lv tr w' :=
  ⟨h.gw.step hb, h.was.below hb, h.la, h.lev.below hb, h.offW, h.offV, Nat.le_trans h.top hb.size⟩

theorem keep_cell {c o : Nat} {v : Value} (hF : ∀ c, GFoot G c → c < hb0) (hc : hb0 ≤ c) (t : Turns (GFoot G) w w') (h : w.cell? ⟨c, o, none⟩ = some v) : w'.cell? ⟨c, o, none⟩ = some v :=
  (World.cell?_of_block (w := w) (a := ⟨c, o, none⟩) (t.block c (World.block_lt_of_cell? _ _ h) (fun q => by have := hF c q; omega))).trans h

/-- The lists, behind a change of the graph. -/
theorem TS.lists (h : TS w0 G hb0 aW aV NW A lv tr w) (hF : ∀ c, GFoot G c → c < hb0) (t : Turns (GFoot G) w w') : EdgesAt w' aW A ∧ LvAt w' aV A lv NW :=
  ⟨⟨fun i hi => by obtain ⟨c, e, h1, h2⟩ := h.was.cell i hi; exact ⟨c, e, keep_cell hF (h.offW c e) t h1, keep_cell hF (h.offW c e) t h2⟩⟩, fun i hi => by obtain ⟨c, e, h1⟩ := h.lev i hi; exact ⟨c, e, keep_cell hF (h.offV c e) t h1⟩⟩

theorem GOk.low (h : GOk w G A lv tr) {e : Nat × Nat} (he : e ∈ A) : lv e ≤ 5 := by
  have h1 := h.lev.level he (by have := h.mem.less e he; omega)
  have h2 := (h.mem.levels (lv e)).2 (by omega)
  have := h.mem.k10
  omega

/-- The two lists, of a graph as it should be. -/
theorem GOk.lists (h : GOk w G A lv tr) (h1 : EdgesAt w aA A) (h2 : EdgesAt w aT (Fo A lv tr 0)) (la : A.length = NA) (lt : (Fo A lv tr 0).length = NT) : TF w G.n A (Fo A lv tr 0) aA aT NA NT :=
  ⟨h1, h2, la, lt, by rw [← la]; exact h.mem.m200, by rw [← lt]; exact Nat.le_trans (List.length_filter_le ..) h.mem.m200, fun e he => (mem_Fo.1 he).1, h.lev.forest, (rises_nodup h.mem.rises).sublist List.filter_sublist, rises_nodup h.mem.rises, h.lev.among, h.mem.less, h.mem.n1, h.mem.n60⟩

/-- All that is joined is joined by the tree. -/
theorem tree_joins (h : GOk w G A lv tr) {p : Nat → Nat} (hp : ∀ i j, p i = p j ↔ Conn ((Fo A lv tr 0).filter fun _ => true) i j) {e : Nat × Nat} (he : e ∈ A) : p e.1 = p e.2 := by
  rw [hp, fo_all]
  exact Fo.down (Nat.zero_le _) (h.lev.joins e he)

/-- The greatest level is small. -/
theorem NowW.small {vn : Value} {tp : Nat} (h : NowW w1 w' A lv m vn tp) (hm : m ≤ A.length) (hb : ∀ e ∈ A, lv e ≤ 5) : tp ≤ 5 := by
  rcases h.some_ with z | ⟨i, hi, z⟩
  · omega
  · have := hb _ (getD_mem (l := A) (j := i) (by omega))
    omega

theorem lvAt_nil (w : World) (A : List (Nat × Nat)) (lv : Nat × Nat → Nat) : LvAt w none A lv 0 := fun i hi => absurd hi (Nat.not_lt_zero _)

/-- A step, whatever it does. -/
theorem step_u {x y : Int} (h : GW w0 G A lv tr w) (hl : A.length < 200) (fn : Nat) (hfn : fn = 6 ∨ fn = 7) :
    Calls Tryz.prog fn #[.pointer (some ⟨G.g, 0, none⟩), .int .i64 x, .int .i64 y] w (Changed w0 w G A lv) := by
  rcases hfn with rfl | rfl
  · exact add_u h x y hl
  · exact drop_u h x y

end Go.Proofs.YtcebfloeikjjcabGreat.Gr
