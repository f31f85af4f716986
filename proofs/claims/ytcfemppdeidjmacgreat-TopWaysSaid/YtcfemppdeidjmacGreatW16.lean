/-
  Oa Ob Oc Od Oi Xo
-/
import Derived.Test.YtcfemppdeidjmacGreatW4
import Derived.WalkKit
import Derived.WalkSpells
import Derived.WalkLawsBesides
import Derived.Deep.RegionHeld3
import Derived.Deep.OwnRows
import Derived.OneCell
import Derived.BigQuiet
import Derived.BigRegion
import Derived.Below
import Derived.Maps.AppendAt
import Derived.Deep.AppendLies
import Derived.Test.YtcfemppdeidjmacGreatChecked
import Derived.ProofKit
import Derived.OpenShut
import Derived.Deep.Slices
import Derived.Stop.Asserts
namespace Go.Proofs.YtcfemppdeidjmacGreat.As
set_option linter.unusedVariables false

variable {f : Nat → Int × Int × Int} {n m t i j k : Nat} {e : Nat × Nat}

def eOf (f : Nat → Int × Int × Int) (i : Nat) : Nat × Nat := ((min (f i).2.1 (f i).2.2).toNat, (max (f i).2.1 (f i).2.2).toNat)

def here (f : Nat → Int × Int × Int) : Nat → List (Nat × Nat)
  | 0 => []
  | k + 1 => if (f k).1 = 1 then here f k ++ [eOf f k] else if (f k).1 = 2 then (here f k).erase (eOf f k) else here f k

structure May (n : Nat) (f : Nat → Int × Int × Int) (k : Nat) : Prop where
  what : 1 ≤ (f k).1 ∧ (f k).1 ≤ 3
  a : 0 ≤ (f k).2.1 ∧ (f k).2.1 < n
  b : 0 ≤ (f k).2.2 ∧ (f k).2.2 < n
  ne : (f k).1 ≠ 3 → (f k).2.1 ≠ (f k).2.2
  add : (f k).1 = 1 → eOf f k ∉ here f k
  drop : (f k).1 = 2 → eOf f k ∈ here f k

end Go.Proofs.YtcfemppdeidjmacGreat.As

namespace Go.Proofs.YtcfemppdeidjmacGreat.As
set_option linter.unusedVariables false

variable {f : Nat → Int × Int × Int} {m t i j k k' : Nat} {e : Nat × Nat} {x x' : Int}

def Sane (n : Nat) (f : Nat → Int × Int × Int) (k : Nat) : Prop := (1 ≤ (f k).1 ∧ (f k).1 ≤ 3) ∧ (0 ≤ (f k).2.1 ∧ (f k).2.1 < n) ∧ 0 ≤ (f k).2.2 ∧ (f k).2.2 < n

end Go.Proofs.YtcfemppdeidjmacGreat.As

namespace Go.Proofs.YtcfemppdeidjmacGreat.As
open Go.RowKit Go.Deep
open Go.RowKit (Below)
set_option linter.unusedVariables false

theorem cell_keep {W w' : World} {p : Addr} {v : Value} (hb : Below W.heap.size W w') (h : W.cell? p = some v) : w'.cell? p = some v :=
  (hb.cell (World.block_lt_of_cell? _ _ h)).trans h
theorem below_step {w a b : World} (h1 : Below w.heap.size w a) (h2 : Below a.heap.size a b) : Below w.heap.size w b := h1.trans (h2.mono h1.size)
def ev (a b : Int) : Value := .agg #[.int .i64 a, .int .i64 b]

variable {w w' : World} {p p' : Nat → Nat} {E E' : List (Nat × Nat)}

def two (e : Nat × Nat) : List Value := [.int .i64 (e.1 : Int), .int .i64 (e.2 : Int)]
def twos (l : List (Nat × Nat)) : List Value := l.flatMap two

theorem twos_snoc (l : List (Nat × Nat)) (e : Nat × Nat) : twos (l ++ [e]) = twos l ++ two e := by simp [twos]

end Go.Proofs.YtcfemppdeidjmacGreat.As

namespace Go.Proofs.YtcfemppdeidjmacGreat.As
open Go.RowKit Go.Deep
open Go.RowKit (Below)
set_option linter.unusedVariables false

variable {w w' : World} {l : List Bool} {E : List (Nat × Nat)}

def bools (l : List Bool) : List Value := l.map Value.bool

def EvAt (w : World) (a : Option Addr) (m : Nat) (f : Nat → Int × Int × Int) : Prop :=
  ∀ i, i < m → ∃ b o, a = some ⟨b, o, none⟩ ∧ w.cell? ⟨b, o + i * 3, none⟩ = some (.int .i64 (f i).1) ∧ w.cell? ⟨b, o + i * 3 + 1, none⟩ = some (.int .i64 (f i).2.1) ∧ w.cell? ⟨b, o + i * 3 + 2, none⟩ = some (.int .i64 (f i).2.2)

theorem EvAt.below {a : Option Addr} {m : Nat} {f : Nat → Int × Int × Int} (h : EvAt w a m f) (hb : Below w.heap.size w w') : EvAt w' a m f := fun i hi => by
  obtain ⟨b, o, e, h1, h2, h3⟩ := h i hi
  exact ⟨b, o, e, cell_keep hb h1, cell_keep hb h2, cell_keep hb h3⟩

def Fits (f : Nat → Int × Int × Int) (m : Nat) : Prop := ∀ i, i < m → (Lit.int .i64 (f i).2.1).wf = true ∧ (Lit.int .i64 (f i).2.2).wf = true

end Go.Proofs.YtcfemppdeidjmacGreat.As

namespace Go.Proofs.YtcfemppdeidjmacGreat.As
open Go.ChangeShapes Go.WideShapes Go.ChangeAt Go.RowKit

theorem Tryz.cellsEvent : Tryz.prog.cellsOf 80 = 3 := by kernel_rfl
theorem Tryz.cellsI : Tryz.prog.cellsOf 3 = 1 := by kernel_rfl

theorem int_cell {H : Type} {enc : TypeId × Value → H} {W : World} {fuel : Nat} {v : Value} {x : DataW H × List MemPlace} (h : DataW.trod enc Tryz.prog W 0 (fun _ => true) true fuel 3 [v] = some x) :
    ∃ n : Int, v = .int .i64 n ∧ (Lit.int .i64 n).wf = true := by
  obtain ⟨n, e, _, hw⟩ := DataW.trod_int Tryz.underlying3 h
  simp at e
  exact ⟨n, e, hw⟩

theorem three_of {α : Type} : ∀ (l : List α), l.length = 3 → ∃ a b c, l = [a, b, c]
  | [a, b, c], _ => ⟨a, b, c, rfl⟩

theorem three_fields {H : Type} {enc : TypeId × Value → H} {W : World} {fuel : Nat} {cs : List Value} {x : DataW H × List MemPlace} {t : TypeId} {f0 f1 f2 : Field} (ht : Tryz.prog.underlying t = some (.struct #[f0, f1, f2])) (h : DataW.trod enc Tryz.prog W 0 (fun _ => true) true fuel t cs = some x) :
    ∃ y0 y1 y2 n, DataW.trod enc Tryz.prog W 0 (fun _ => true) true n f0.type ((cs.drop f0.offset).take (Tryz.prog.cellsOf f0.type)) = some y0 ∧
      DataW.trod enc Tryz.prog W 0 (fun _ => true) true n f1.type ((cs.drop f1.offset).take (Tryz.prog.cellsOf f1.type)) = some y1 ∧ DataW.trod enc Tryz.prog W 0 (fun _ => true) true n f2.type ((cs.drop f2.offset).take (Tryz.prog.cellsOf f2.type)) = some y2 := by
  obtain ⟨xs, n, _, _, _, hlen, hf⟩ := DataW.trod_struct ht h
  obtain ⟨y0, y1, y2, rfl⟩ := three_of xs hlen
  exact ⟨y0, y1, y2, n, by simpa using hf 0 f0 rfl, by simpa using hf 1 f1 rfl, by simpa using hf 2 f2 rfl⟩

theorem event_cells {H : Type} {enc : TypeId × Value → H} {W : World} {b o fuel : Nat} {cs : List Value} {x : DataW H × List MemPlace} (hl : cs.length = 3) (hc : ∀ j, j < 3 → W.cell? ⟨b, o + j, none⟩ = cs[j]?) (h : DataW.trod enc Tryz.prog W 0 (fun _ => true) true fuel 80 cs = some x) :
    ∃ p : Int × Int × Int, W.cell? ⟨b, o, none⟩ = some (.int .i64 p.1) ∧ W.cell? ⟨b, o + 1, none⟩ = some (.int .i64 p.2.1) ∧ W.cell? ⟨b, o + 2, none⟩ = some (.int .i64 p.2.2) ∧ (Lit.int .i64 p.2.1).wf = true ∧ (Lit.int .i64 p.2.2).wf = true := by
  obtain ⟨v0, v1, v2, rfl⟩ := three_of cs hl
  obtain ⟨y0, y1, y2, n, g0, g1, g2⟩ := three_fields Tryz.underlying80 h
  rw [Tryz.cellsI] at g0 g1 g2
  obtain ⟨x0, rfl, _⟩ := int_cell (v := v0) g0
  obtain ⟨x1, rfl, f1⟩ := int_cell (v := v1) g1
  obtain ⟨x2, rfl, f2⟩ := int_cell (v := v2) g2
  exact ⟨(x0, x1, x2), hc 0 (by omega), hc 1 (by omega), hc 2 (by omega), f1, f2⟩

set_option maxRecDepth 100000 in
theorem events_of {H : Type} {enc : TypeId × Value → H} {W : World} {a : Option Addr} {len cap fuel : Nat} {x : DataW H × List MemPlace} (h : DataW.trod enc Tryz.prog W 0 (fun _ => true) true fuel 22 [.slice a len cap] = some x) : ∃ f, EvAt W a len f ∧ Fits f len := by
  have hall : ∀ i, ∃ p : Int × Int × Int, i < len → ∃ b o, a = some ⟨b, o, none⟩ ∧ W.cell? ⟨b, o + i * 3, none⟩ = some (.int .i64 p.1) ∧ W.cell? ⟨b, o + i * 3 + 1, none⟩ = some (.int .i64 p.2.1) ∧ W.cell? ⟨b, o + i * 3 + 2, none⟩ = some (.int .i64 p.2.2) ∧ (Lit.int .i64 p.2.1).wf = true ∧ (Lit.int .i64 p.2.2).wf = true := by
    rcases Go.Deep.open_slice Tryz.underlying22 h with ⟨hcs, _⟩ | ⟨ad, len', cap', m, n, D, Pl, hcs, _, hl, hm, hmm, _, hx⟩
    · simp at hcs
      obtain ⟨rfl, rfl, rfl⟩ := hcs
      exact fun i => ⟨(0, 0, 0), fun hi => absurd hi (Nat.not_lt_zero _)⟩
    · simp at hcs
      obtain ⟨rfl, rfl, rfl⟩ := hcs
      intro i
      by_cases hi : i < len
      · simp only [if_true] at hmm
        obtain ⟨cs', hc, ht⟩ := hx i (by omega)
        obtain ⟨cs0, hc0, _⟩ := hx 0 (by omega)
        rw [Tryz.cellsEvent] at hc hc0
        obtain ⟨_, hlen, hcell⟩ := World.cells?_some hc
        obtain ⟨_, hlen0, hcell0⟩ := World.cells?_some hc0
        obtain ⟨b, o, sp⟩ := ad
        have g0 := hcell0 0 (by omega)
        rw [List.getElem?_eq_getElem (by omega)] at g0
        have hsp : sp = none := by simpa [Addr.add] using World.cell?_spot g0
        subst hsp
        obtain ⟨p, q⟩ := event_cells (b := b) (o := o + i * 3) hlen (fun j hj => by have := hcell j hj; rwa [Addr.add_lit, Addr.add_lit] at this) ht
        exact ⟨p, fun _ => ⟨b, o, rfl, q⟩⟩
      · exact ⟨(0, 0, 0), fun h => absurd h hi⟩
  refine ⟨fun i => Classical.choose (hall i), fun i hi => ?_, fun i hi => ?_⟩
  · obtain ⟨b, o, e, q1, q2, q3, _⟩ := Classical.choose_spec (hall i) hi
    exact ⟨b, o, e, q1, q2, q3⟩
  · obtain ⟨b, o, e, _, _, _, q⟩ := Classical.choose_spec (hall i) hi
    exact q

theorem events_sl {H : Type} {enc : TypeId × Value → H} {W : World} {a : Option Addr} {len cap fuel : Nat} {x : DataW H × List MemPlace} (h : DataW.trod enc Tryz.prog W 0 (fun _ => true) true fuel 22 [.slice a len cap] = some x) : len ≤ cap ∧ cap ≤ maxLen ∧ (a = none → len = 0 ∧ cap = 0) := by
  rcases Go.Deep.open_slice Tryz.underlying22 h with ⟨hcs, _⟩ | ⟨ad, len', cap', m, n, D, Pl, hcs, _, hl, hm, _⟩
  · simp at hcs
    obtain ⟨rfl, rfl, rfl⟩ := hcs
    exact ⟨Nat.le_refl _, Nat.zero_le _, fun _ => ⟨rfl, rfl⟩⟩
  · simp at hcs
    obtain ⟨rfl, rfl, rfl⟩ := hcs
    exact ⟨hl, hm, fun e => by cases e⟩

end Go.Proofs.YtcfemppdeidjmacGreat.As

namespace Go.Proofs.YtcfemppdeidjmacGreat.To
open Go.RowKit Go.Deep
open Go.RowKit (Below)
set_option linter.unusedVariables false

def OneOk : Prop := ∀ {w : World}, Calls Tryz.prog 8 #[] w fun e w' => e = .returned (.bool true) ∧ Below w.heap.size w w'

end Go.Proofs.YtcfemppdeidjmacGreat.To
