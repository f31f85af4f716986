/-
  The edges that came in: their nodes and weights as they lie in memory.
-/
import Derived.Test.YtcfemppdeidjmadGreatKb
import Derived.ProofKit
import Derived.OpenShut
import Derived.Deep.Slices
namespace Go.Proofs.YtcfemppdeidjmadGreat.Sp
open Go.ChangeShapes Go.WideShapes Go.ChangeAt Go.RowKit

theorem Tryz.cellsHeavy : Tryz.prog.cellsOf 34 = 3 := by kernel_rfl
theorem Tryz.cellsEdge : Tryz.prog.cellsOf 32 = 2 := by kernel_rfl
theorem Tryz.cellsI : Tryz.prog.cellsOf 3 = 1 := by kernel_rfl

theorem int_cell {H : Type} {enc : TypeId × Value → H} {W : World} {fuel : Nat} {v : Value} {x : DataW H × List MemPlace} (h : DataW.trod enc Tryz.prog W 0 (fun _ => true) true fuel 3 [v] = some x) :
    ∃ n : Int, v = .int .i64 n := by
  obtain ⟨n, e, _, hw⟩ := DataW.trod_int Tryz.underlying3 h
  simp at e
  exact ⟨n, e⟩

theorem two_of {α : Type} : ∀ (l : List α), l.length = 2 → ∃ a b, l = [a, b]
  | [a, b], _ => ⟨a, b, rfl⟩
theorem three_of {α : Type} : ∀ (l : List α), l.length = 3 → ∃ a b c, l = [a, b, c]
  | [a, b, c], _ => ⟨a, b, c, rfl⟩

/-- A struct of two fields. -/
theorem two_fields {H : Type} {enc : TypeId × Value → H} {W : World} {fuel : Nat} {cs : List Value} {x : DataW H × List MemPlace} {t : TypeId} {f0 f1 : Field} (ht : Tryz.prog.underlying t = some (.struct #[f0, f1])) (h : DataW.trod enc Tryz.prog W 0 (fun _ => true) true fuel t cs = some x) :
    ∃ y0 y1 n, DataW.trod enc Tryz.prog W 0 (fun _ => true) true n f0.type ((cs.drop f0.offset).take (Tryz.prog.cellsOf f0.type)) = some y0 ∧
      DataW.trod enc Tryz.prog W 0 (fun _ => true) true n f1.type ((cs.drop f1.offset).take (Tryz.prog.cellsOf f1.type)) = some y1 := by
  obtain ⟨xs, n, _, _, _, hlen, hf⟩ := DataW.trod_struct ht h
  obtain ⟨y0, y1, rfl⟩ := two_of xs hlen
  exact ⟨y0, y1, n, by simpa using hf 0 f0 rfl, by simpa using hf 1 f1 rfl⟩

theorem heavy_cells {H : Type} {enc : TypeId × Value → H} {W : World} {b o fuel : Nat} {cs : List Value} {x : DataW H × List MemPlace} (hl : cs.length = 3) (hc : ∀ j, j < 3 → W.cell? ⟨b, o + j, none⟩ = cs[j]?) (h : DataW.trod enc Tryz.prog W 0 (fun _ => true) true fuel 34 cs = some x) :
    ∃ p : Int × Int × Int, W.cell? ⟨b, o, none⟩ = some (.int .i64 p.1) ∧ W.cell? ⟨b, o + 1, none⟩ = some (.int .i64 p.2.1) ∧ W.cell? ⟨b, o + 2, none⟩ = some (.int .i64 p.2.2) := by
  obtain ⟨v0, v1, v2, rfl⟩ := three_of cs hl
  obtain ⟨y0, y1, n, g0, g1⟩ := two_fields Tryz.underlying34 h
  have g0' : DataW.trod enc Tryz.prog W 0 (fun _ => true) true n 32 [v0, v1] = some y0 := by rw [Tryz.cellsEdge] at g0; exact g0
  have g1' : DataW.trod enc Tryz.prog W 0 (fun _ => true) true n 3 [v2] = some y1 := by rw [Tryz.cellsI] at g1; exact g1
  obtain ⟨z0, z1, n', k0, k1⟩ := two_fields Tryz.underlying32 g0'
  have k0' : DataW.trod enc Tryz.prog W 0 (fun _ => true) true n' 3 [v0] = some z0 := by rw [Tryz.cellsI] at k0; exact k0
  have k1' : DataW.trod enc Tryz.prog W 0 (fun _ => true) true n' 3 [v1] = some z1 := by rw [Tryz.cellsI] at k1; exact k1
  obtain ⟨x0, rfl⟩ := int_cell k0'
  obtain ⟨x1, rfl⟩ := int_cell k1'
  obtain ⟨x2, rfl⟩ := int_cell g1'
  exact ⟨(x0, x1, x2), hc 0 (by omega), hc 1 (by omega), hc 2 (by omega)⟩

set_option maxRecDepth 100000 in
theorem heavy_of {H : Type} {enc : TypeId × Value → H} {W : World} {a : Option Addr} {len cap fuel : Nat} {x : DataW H × List MemPlace} (h : DataW.trod enc Tryz.prog W 0 (fun _ => true) true fuel 22 [.slice a len cap] = some x) : ∃ f, HeavyAt W a len f := by
  have hall : ∀ i, ∃ p : Int × Int × Int, i < len → ∃ b o, a = some ⟨b, o, none⟩ ∧ W.cell? ⟨b, o + i * 3, none⟩ = some (.int .i64 p.1) ∧ W.cell? ⟨b, o + i * 3 + 1, none⟩ = some (.int .i64 p.2.1) ∧ W.cell? ⟨b, o + i * 3 + 2, none⟩ = some (.int .i64 p.2.2) := by
    rcases Go.Deep.open_slice Tryz.underlying22 h with ⟨hcs, _⟩ | ⟨ad, len', cap', m, n, D, Pl, hcs, _, hl, hm, hmm, _, hx⟩
    · simp at hcs
      obtain ⟨rfl, rfl, rfl⟩ := hcs
      exact fun i => ⟨(0, 0, 0), fun hi => absurd hi (Nat.not_lt_zero _)⟩
    · simp at hcs
      obtain ⟨rfl, rfl, rfl⟩ := hcs
      intro i
      by_cases hi : i < len
      · simp only [if_true] at hmm
        obtain ⟨cs', hc, ht⟩ := hx i (by omega)
        obtain ⟨cs0, hc0, _⟩ := hx 0 (by omega)
        rw [Tryz.cellsHeavy] at hc hc0
        obtain ⟨_, hlen, hcell⟩ := World.cells?_some hc
        obtain ⟨_, hlen0, hcell0⟩ := World.cells?_some hc0
        obtain ⟨b, o, sp⟩ := ad
        have g0 := hcell0 0 (by omega)
        rw [List.getElem?_eq_getElem (by omega)] at g0
        have hsp : sp = none := by simpa [Addr.add] using World.cell?_spot g0
        subst hsp
        obtain ⟨p, q⟩ := heavy_cells (b := b) (o := o + i * 3) hlen (fun j hj => by have := hcell j hj; rwa [Addr.add_lit, Addr.add_lit] at this) ht
        exact ⟨p, fun _ => ⟨b, o, rfl, q⟩⟩
      · exact ⟨(0, 0, 0), fun h => absurd h hi⟩
  exact ⟨fun i => Classical.choose (hall i), fun i hi => Classical.choose_spec (hall i) hi⟩

end Go.Proofs.YtcfemppdeidjmadGreat.Sp
