/-
  The script that the statements read; the loops of a function by their places.
-/
import Derived.Test.YtcebfloeikjjcabGreatTu1
namespace Go.Proofs.YtcebfloeikjjcabGreat
open Go.RowKit Go.Deep
set_option linter.unusedVariables false

/-- The script's pairs, us they lie in memory. -/
def ScriptAt (w : World) (a : Option Addr) (n : Nat) (f : Nat → Int × Int) : Prop :=
  ∀ i, i < n → ∃ b o, a = some ⟨b, o, none⟩ ∧ w.cell? ⟨b, o + i * 4 + 1, none⟩ = some (.int .i64 (f i).1) ∧ w.cell? ⟨b, o + i * 4 + 2, none⟩ = some (.int .i64 (f i).2)

/-- All loops of a code, the outer ones ahead of the inner ones. -/
def loopsOf : Code → List Code
  | .loop c => c :: loopsOf c
  | .seq a b => loopsOf a ++ loopsOf b
  | .block _ c => loopsOf c
  | .scope c => loopsOf c
  | .cond _ a b => loopsOf a ++ loopsOf b
  | _ => []

/-- A loop of a function, by its place. -/
def loopAt (f : Func) (k : Nat) : Code := ((f.body.map loopsOf).getD []).getD k .skip

/-- Some forest, made since w0. -/
structure TW (w0 : World) (L : Pl) (w : World) : Prop where
  f : ∃ E p, FAt w L E p
  below : Below w0.heap.size w0 w
  foot : ∀ k, Foot L k → w0.heap.size ≤ k

/-- A forest, and its edges' list beside it. -/
structure MW (w0 : World) (L : Pl) (E : List (Nat × Nat)) (p : Nat → Nat) (a : Option Addr) (w : World) : Prop where
  f : FAt w L E p
  below : Below w0.heap.size w0 w
  foot : ∀ k, Foot L k → w0.heap.size ≤ k
  list : EdgesAt w a E
  off : ∀ b, a = some ⟨b, 0, none⟩ → ¬ Foot L b

theorem MW.step {w0 : World} {L : Pl} {E : List (Nat × Nat)} {p : Nat → Nat} {a : Option Addr} {w w' : World} (h : MW w0 L E p a w) (hb : Below w.heap.size w w') : MW w0 L E p a w' :=
  ⟨h.f.below hb, h.below.trans (hb.mono h.below.size), h.foot, h.list.below hb, h.off⟩

theorem EdgesAt.turn {w w' : World} {L : Pl} {E : List (Nat × Nat)} {a : Option Addr} (h : EdgesAt w a E) (ho : ∀ b, a = some ⟨b, 0, none⟩ → ¬ Foot L b) (t : Turn L w w') : EdgesAt w' a E :=
  ⟨fun i hi => by
    obtain ⟨b, e, h1, h2⟩ := h.cell i hi
    have hl := t.block b (World.block_lt_of_cell? _ _ h1) (ho b e)
    exact ⟨b, e, (World.cell?_of_block (w := w) (a := ⟨b, i * 2, none⟩) hl).trans h1, (World.cell?_of_block (w := w) (a := ⟨b, i * 2 + 1, none⟩) hl).trans h2⟩⟩

/-- Behind a Cut: the forest, the edges' list, the edge, three lists of nodes. -/
structure CW (w0 : World) (L : Pl) (E E' : List (Nat × Nat)) (p' : Nat → Nat) (a : Option Addr) (bx x1 x2 kw ka kb : Nat) (ws us vs : List Nat) (w : World) : Prop where
  f : FAt w L E' p'
  below : Below w0.heap.size w0 w
  foot : ∀ k, Foot L k → w0.heap.size ≤ k
  list : EdgesAt w a E
  off : ∀ b, a = some ⟨b, 0, none⟩ → ¬ Foot L b
  e1 : w.cell? ⟨bx, 0, none⟩ = some (.int .i64 (x1 : Int))
  e2 : w.cell? ⟨bx, 1, none⟩ = some (.int .i64 (x2 : Int))
  xoff : ¬ Foot L bx
  was : NatsAt w L kw ws
  one : NatsAt w L ka us
  two : NatsAt w L kb vs

theorem CW.step {w0 : World} {L : Pl} {E E' : List (Nat × Nat)} {p' : Nat → Nat} {a : Option Addr} {bx x1 x2 kw ka kb : Nat} {ws us vs : List Nat} {w w' : World} (h : CW w0 L E E' p' a bx x1 x2 kw ka kb ws us vs w) (hb : Below w.heap.size w w') : CW w0 L E E' p' a bx x1 x2 kw ka kb ws us vs w' :=
  ⟨h.f.below hb, h.below.trans (hb.mono h.below.size), h.foot, h.list.below hb, h.off, cell_keep hb h.e1, cell_keep hb h.e2, h.xoff, h.was.below hb, h.one.below hb, h.two.below hb⟩

theorem CW.drew {w0 : World} {L : Pl} {E E' : List (Nat × Nat)} {p' : Nat → Nat} {a : Option Addr} {bx x1 x2 kw ka kb : Nat} {ws us vs : List Nat} {w : World} (h : CW w0 L E E' p' a bx x1 x2 kw ka kb ws us vs w) : CW w0 L E E' p' a bx x1 x2 kw ka kb ws us vs w.drew := h.step (Below.refl _ _).drew

theorem take_count (l : List Nat) (m y : Nat) (h : m < l.length) : (l.take (m + 1)).count y = (l.take m).count y + if l.getD m 0 = y then 1 else 0 := by
  rw [List.take_add_one, List.getElem?_eq_getElem h, List.count_append, List.getD_eq_getElem?_getD, List.getElem?_eq_getElem h]
  simp [List.count_singleton]

end Go.Proofs.YtcebfloeikjjcabGreat
