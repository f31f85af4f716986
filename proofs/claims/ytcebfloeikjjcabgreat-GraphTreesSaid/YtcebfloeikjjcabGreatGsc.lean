/-
  The script that came in: its steps as they lie in memory, whole.
-/
import Derived.Test.YtcebfloeikjjcabGreatMm
import Derived.ProofKit
import Derived.OpenShut
import Derived.Deep.Slices
namespace Go.Proofs.YtcebfloeikjjcabGreat.Gr
open Go.ChangeShapes Go.WideShapes Go.ChangeAt Go.RowKit
set_option linter.unusedVariables false

theorem Tryz.cellsStep : Tryz.prog.cellsOf 35 = 4 := by kernel_rfl
theorem Tryz.cellsI : Tryz.prog.cellsOf 3 = 1 := by kernel_rfl
theorem Tryz.cellsL : Tryz.prog.cellsOf 33 = 1 := by kernel_rfl

theorem int_cell {H : Type} {enc : TypeId × Value → H} {W : World} {fuel : Nat} {v : Value} {x : DataW H × List MemPlace} (h : DataW.trod enc Tryz.prog W 0 (fun _ => true) true fuel 3 [v] = some x) :
    ∃ n : Int, v = .int .i64 n ∧ -9223372036854775808 ≤ n ∧ n ≤ 9223372036854775807 := by
  obtain ⟨n, e, _, hw⟩ := DataW.trod_int Tryz.underlying3 h
  simp at e
  have hb := bounds_i64 hw
  exact ⟨n, e, hb.1, hb.2⟩

theorem four_of {α : Type} : ∀ (l : List α), l.length = 4 → ∃ a b c d, l = [a, b, c, d]
  | [a, b, c, d], _ => ⟨a, b, c, d, rfl⟩

/-- A struct of four fields, field by field. -/
theorem four_fields {H : Type} {enc : TypeId × Value → H} {W : World} {fuel : Nat} {cs : List Value} {x : DataW H × List MemPlace} {t : TypeId} {f0 f1 f2 f3 : Field} (ht : Tryz.prog.underlying t = some (.struct #[f0, f1, f2, f3])) (h : DataW.trod enc Tryz.prog W 0 (fun _ => true) true fuel t cs = some x) :
    ∃ y0 y1 y2 y3 n, DataW.trod enc Tryz.prog W 0 (fun _ => true) true n f0.type ((cs.drop f0.offset).take (Tryz.prog.cellsOf f0.type)) = some y0 ∧ DataW.trod enc Tryz.prog W 0 (fun _ => true) true n f1.type ((cs.drop f1.offset).take (Tryz.prog.cellsOf f1.type)) = some y1 ∧
      DataW.trod enc Tryz.prog W 0 (fun _ => true) true n f2.type ((cs.drop f2.offset).take (Tryz.prog.cellsOf f2.type)) = some y2 ∧ DataW.trod enc Tryz.prog W 0 (fun _ => true) true n f3.type ((cs.drop f3.offset).take (Tryz.prog.cellsOf f3.type)) = some y3 := by
  obtain ⟨xs, n, _, _, _, hlen, hf⟩ := DataW.trod_struct ht h
  obtain ⟨y0, y1, y2, y3, rfl⟩ := four_of xs hlen
  exact ⟨y0, y1, y2, y3, n, by simpa using hf 0 f0 rfl, by simpa using hf 1 f1 rfl, by simpa using hf 2 f2 rfl, by simpa using hf 3 f3 rfl⟩

theorem step_of {H : Type} {enc : TypeId × Value → H} {W : World} {b o fuel : Nat} {cs : List Value} {x : DataW H × List MemPlace} (hl : cs.length = 4) (hc : ∀ j, j < 4 → W.cell? ⟨b, o + j, none⟩ = cs[j]?) (h : DataW.trod enc Tryz.prog W 0 (fun _ => true) true fuel 35 cs = some x) :
    ∃ what y z al nl cl, W.cell? ⟨b, o, none⟩ = some (.int .i64 what) ∧ W.cell? ⟨b, o + 1, none⟩ = some (.int .i64 y) ∧ W.cell? ⟨b, o + 2, none⟩ = some (.int .i64 z) ∧ W.cell? ⟨b, o + 3, none⟩ = some (.slice al nl cl) := by
  obtain ⟨v0, v1, v2, v3, rfl⟩ := four_of cs hl
  obtain ⟨y0, y1, y2, y3, n, f0, f1, f2, f3⟩ := four_fields Tryz.underlying35 h
  rw [Tryz.cellsI] at f0 f1 f2
  rw [Tryz.cellsL] at f3
  obtain ⟨what, rfl, _⟩ := int_cell (v := v0) f0
  obtain ⟨x1, rfl, r1, r2⟩ := int_cell (v := v1) f1
  obtain ⟨x2, rfl, r3, r4⟩ := int_cell (v := v2) f2
  have f3' : DataW.trod enc Tryz.prog W 0 (fun _ => true) true n 33 [v3] = some y3 := f3
  have g0 := hc 0 (by omega)
  have g1 := hc 1 (by omega)
  have g2 := hc 2 (by omega)
  have g3 := hc 3 (by omega)
  rcases open_ints Tryz.underlying33 Tryz.underlying3 Tryz.cellsI f3' with ⟨hcs, _⟩ | ⟨a, l, c, zs, hcs, _⟩
  · simp at hcs
    subst hcs
    exact ⟨what, x1, x2, none, 0, 0, g0, g1, g2, g3⟩
  · simp at hcs
    subst hcs
    exact ⟨what, x1, x2, some a, l, c, g0, g1, g2, g3⟩

set_option maxRecDepth 100000 in
/-- The script that came in, step by step. -/
theorem script4_of {H : Type} {enc : TypeId × Value → H} {W : World} {a : Option Addr} {len cap fuel : Nat} {x : DataW H × List MemPlace} (h : DataW.trod enc Tryz.prog W 0 (fun _ => true) true fuel 22 [.slice a len cap] = some x) : Script4 W a len := by
  rcases Go.Deep.open_slice Tryz.underlying22 h with ⟨hcs, _⟩ | ⟨ad, len', cap', m, n, D, Pl, hcs, _, hl, hm, hmm, _, hx⟩
  · simp at hcs
    obtain ⟨rfl, rfl, rfl⟩ := hcs
    exact ⟨fun i hi => absurd hi (Nat.not_lt_zero _)⟩
  · simp at hcs
    obtain ⟨rfl, rfl, rfl⟩ := hcs
    refine ⟨fun i hi => ?_⟩
    simp only [if_true] at hmm
    obtain ⟨cs', hc, ht⟩ := hx i (by omega)
    obtain ⟨cs0, hc0, _⟩ := hx 0 (by omega)
    rw [Tryz.cellsStep] at hc hc0
    obtain ⟨_, hlen, hcell⟩ := World.cells?_some hc
    obtain ⟨_, hlen0, hcell0⟩ := World.cells?_some hc0
    obtain ⟨b, o, sp⟩ := ad
    have g0 := hcell0 0 (by omega)
    rw [List.getElem?_eq_getElem (by omega)] at g0
    have hsp : sp = none := by simpa [Addr.add] using World.cell?_spot g0
    subst hsp
    obtain ⟨what, y, z, al, nl, cl, hst⟩ := step_of (b := b) (o := o + i * 4) hlen (fun j hj => by have := hcell j hj; rwa [Addr.add_lit, Addr.add_lit] at this) ht
    exact ⟨b, o, what, y, z, al, nl, cl, rfl, hst⟩

end Go.Proofs.YtcebfloeikjjcabGreat.Gr
