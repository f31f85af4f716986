/-
  The events that came in, as they lie in memory.
-/
import Derived.Test.YtcfemppdeidjmadGreatF19
import Derived.ProofKit
import Derived.OpenShut
import Derived.Deep.Slices
namespace Go.Proofs.YtcfemppdeidjmadGreat.As
open Go.ChangeShapes Go.WideShapes Go.ChangeAt Go.RowKit

theorem Tryz.cellsEvent : Tryz.prog.cellsOf 62 = 3 := by kernel_rfl
theorem Tryz.cellsI : Tryz.prog.cellsOf 3 = 1 := by kernel_rfl

theorem int_cell {H : Type} {enc : TypeId × Value → H} {W : World} {fuel : Nat} {v : Value} {x : DataW H × List MemPlace} (h : DataW.trod enc Tryz.prog W 0 (fun _ => true) true fuel 3 [v] = some x) :
    ∃ n : Int, v = .int .i64 n ∧ (Lit.int .i64 n).wf = true := by
  obtain ⟨n, e, _, hw⟩ := DataW.trod_int Tryz.underlying3 h
  simp at e
  exact ⟨n, e, hw⟩

theorem three_of {α : Type} : ∀ (l : List α), l.length = 3 → ∃ a b c, l = [a, b, c]
  | [a, b, c], _ => ⟨a, b, c, rfl⟩

/-- A struct of three fields. -/
theorem three_fields {H : Type} {enc : TypeId × Value → H} {W : World} {fuel : Nat} {cs : List Value} {x : DataW H × List MemPlace} {t : TypeId} {f0 f1 f2 : Field} (ht : Tryz.prog.underlying t = some (.struct #[f0, f1, f2])) (h : DataW.trod enc Tryz.prog W 0 (fun _ => true) true fuel t cs = some x) :
    ∃ y0 y1 y2 n, DataW.trod enc Tryz.prog W 0 (fun _ => true) true n f0.type ((cs.drop f0.offset).take (Tryz.prog.cellsOf f0.type)) = some y0 ∧
      DataW.trod enc Tryz.prog W 0 (fun _ => true) true n f1.type ((cs.drop f1.offset).take (Tryz.prog.cellsOf f1.type)) = some y1 ∧ DataW.trod enc Tryz.prog W 0 (fun _ => true) true n f2.type ((cs.drop f2.offset).take (Tryz.prog.cellsOf f2.type)) = some y2 := by
  obtain ⟨xs, n, _, _, _, hlen, hf⟩ := DataW.trod_struct ht h
  obtain ⟨y0, y1, y2, rfl⟩ := three_of xs hlen
  exact ⟨y0, y1, y2, n, by simpa using hf 0 f0 rfl, by simpa using hf 1 f1 rfl, by simpa using hf 2 f2 rfl⟩

theorem event_cells {H : Type} {enc : TypeId × Value → H} {W : World} {b o fuel : Nat} {cs : List Value} {x : DataW H × List MemPlace} (hl : cs.length = 3) (hc : ∀ j, j < 3 → W.cell? ⟨b, o + j, none⟩ = cs[j]?) (h : DataW.trod enc Tryz.prog W 0 (fun _ => true) true fuel 62 cs = some x) :
    ∃ p : Int × Int × Int, W.cell? ⟨b, o, none⟩ = some (.int .i64 p.1) ∧ W.cell? ⟨b, o + 1, none⟩ = some (.int .i64 p.2.1) ∧ W.cell? ⟨b, o + 2, none⟩ = some (.int .i64 p.2.2) ∧ (Lit.int .i64 p.2.1).wf = true ∧ (Lit.int .i64 p.2.2).wf = true := by
  obtain ⟨v0, v1, v2, rfl⟩ := three_of cs hl
  obtain ⟨y0, y1, y2, n, g0, g1, g2⟩ := three_fields Tryz.underlying62 h
  rw [Tryz.cellsI] at g0 g1 g2
  obtain ⟨x0, rfl, _⟩ := int_cell (v := v0) g0
  obtain ⟨x1, rfl, f1⟩ := int_cell (v := v1) g1
  obtain ⟨x2, rfl, f2⟩ := int_cell (v := v2) g2
  exact ⟨(x0, x1, x2), hc 0 (by omega), hc 1 (by omega), hc 2 (by omega), f1, f2⟩

set_option maxRecDepth 100000 in
theorem events_of {H : Type} {enc : TypeId × Value → H} {W : World} {a : Option Addr} {len cap fuel : Nat} {x : DataW H × List MemPlace} (h : DataW.trod enc Tryz.prog W 0 (fun _ => true) true fuel 38 [.slice a len cap] = some x) : ∃ f, EvAt W a len f ∧ Fits f len := by
  have hall : ∀ i, ∃ p : Int × Int × Int, i < len → ∃ b o, a = some ⟨b, o, none⟩ ∧ W.cell? ⟨b, o + i * 3, none⟩ = some (.int .i64 p.1) ∧ W.cell? ⟨b, o + i * 3 + 1, none⟩ = some (.int .i64 p.2.1) ∧ W.cell? ⟨b, o + i * 3 + 2, none⟩ = some (.int .i64 p.2.2) ∧ (Lit.int .i64 p.2.1).wf = true ∧ (Lit.int .i64 p.2.2).wf = true := by
    rcases Go.Deep.open_slice Tryz.underlying38 h with ⟨hcs, _⟩ | ⟨ad, len', cap', m, n, D, Pl, hcs, _, hl, hm, hmm, _, hx⟩
    · simp at hcs
      obtain ⟨rfl, rfl, rfl⟩ := hcs
      exact fun i => ⟨(0, 0, 0), fun hi => absurd hi (Nat.not_lt_zero _)⟩
    · simp at hcs
      obtain ⟨rfl, rfl, rfl⟩ := hcs
      intro i
      by_cases hi : i < len
      · simp only [if_true] at hmm
        obtain ⟨cs', hc, ht⟩ := hx i (by omega)
        obtain ⟨cs0, hc0, _⟩ := hx 0 (by omega)
        rw [Tryz.cellsEvent] at hc hc0
        obtain ⟨_, hlen, hcell⟩ := World.cells?_some hc
        obtain ⟨_, hlen0, hcell0⟩ := World.cells?_some hc0
        obtain ⟨b, o, sp⟩ := ad
        have g0 := hcell0 0 (by omega)
        rw [List.getElem?_eq_getElem (by omega)] at g0
        have hsp : sp = none := by simpa [Addr.add] using World.cell?_spot g0
        subst hsp
        obtain ⟨p, q⟩ := event_cells (b := b) (o := o + i * 3) hlen (fun j hj => by have := hcell j hj; rwa [Addr.add_lit, Addr.add_lit] at this) ht
        exact ⟨p, fun _ => ⟨b, o, rfl, q⟩⟩
      · exact ⟨(0, 0, 0), fun h => absurd h hi⟩
  refine ⟨fun i => Classical.choose (hall i), fun i hi => ?_, fun i hi => ?_⟩
  · obtain ⟨b, o, e, q1, q2, q3, _⟩ := Classical.choose_spec (hall i) hi
    exact ⟨b, o, e, q1, q2, q3⟩
  · obtain ⟨b, o, e, _, _, _, q⟩ := Classical.choose_spec (hall i) hi
    exact q

theorem events_sl {H : Type} {enc : TypeId × Value → H} {W : World} {a : Option Addr} {len cap fuel : Nat} {x : DataW H × List MemPlace} (h : DataW.trod enc Tryz.prog W 0 (fun _ => true) true fuel 38 [.slice a len cap] = some x) : len ≤ cap ∧ cap ≤ maxLen ∧ (a = none → len = 0 ∧ cap = 0) := by
  rcases Go.Deep.open_slice Tryz.underlying38 h with ⟨hcs, _⟩ | ⟨ad, len', cap', m, n, D, Pl, hcs, _, hl, hm, _⟩
  · simp at hcs
    obtain ⟨rfl, rfl, rfl⟩ := hcs
    exact ⟨Nat.le_refl _, Nat.zero_le _, fun _ => ⟨rfl, rfl⟩⟩
  · simp at hcs
    obtain ⟨rfl, rfl, rfl⟩ := hcs
    exact ⟨hl, hm, fun e => by cases e⟩

end Go.Proofs.YtcfemppdeidjmadGreat.As
