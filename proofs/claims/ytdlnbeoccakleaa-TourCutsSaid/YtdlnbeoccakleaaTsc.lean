/-
  The script that came in: its steps' numbers as they lie in memory.
-/
import Derived.Test.YtdlnbeoccakleaaTv
import Derived.ProofKit
import Derived.OpenShut
import Derived.Deep.Slices
namespace Go.Proofs.Ytdlnbeoccakleaa
open Go.ChangeShapes Go.WideShapes Go.ChangeAt Go.RowKit

theorem Try.cellsStep : Try.prog.cellsOf 44 = 4 := by kernel_rfl
theorem Try.cellsI : Try.prog.cellsOf 3 = 1 := by kernel_rfl

theorem int_cell {H : Type} {enc : TypeId × Value → H} {W : World} {fuel : Nat} {v : Value} {x : DataW H × List MemPlace} (h : DataW.trod enc Try.prog W 0 (fun _ => true) true fuel 3 [v] = some x) :
    ∃ n : Int, v = .int .i64 n := by
  obtain ⟨n, e, _, hw⟩ := DataW.trod_int Try.underlying3 h
  simp at e
  exact ⟨n, e⟩

theorem four_of {α : Type} : ∀ (l : List α), l.length = 4 → ∃ a b c d, l = [a, b, c, d]
  | [a, b, c, d], _ => ⟨a, b, c, d, rfl⟩

/-- A struct of four fields: the second and the third. -/
theorem four_fields {H : Type} {enc : TypeId × Value → H} {W : World} {fuel : Nat} {cs : List Value} {x : DataW H × List MemPlace} {t : TypeId} {f0 f1 f2 f3 : Field} (ht : Try.prog.underlying t = some (.struct #[f0, f1, f2, f3])) (h : DataW.trod enc Try.prog W 0 (fun _ => true) true fuel t cs = some x) :
    ∃ y1 y2 n, DataW.trod enc Try.prog W 0 (fun _ => true) true n f1.type ((cs.drop f1.offset).take (Try.prog.cellsOf f1.type)) = some y1 ∧
      DataW.trod enc Try.prog W 0 (fun _ => true) true n f2.type ((cs.drop f2.offset).take (Try.prog.cellsOf f2.type)) = some y2 := by
  obtain ⟨xs, n, _, _, _, hlen, hf⟩ := DataW.trod_struct ht h
  obtain ⟨y0, y1, y2, y3, rfl⟩ := four_of xs hlen
  exact ⟨y1, y2, n, by simpa using hf 1 f1 rfl, by simpa using hf 2 f2 rfl⟩

theorem step_of {H : Type} {enc : TypeId × Value → H} {W : World} {b o fuel : Nat} {cs : List Value} {x : DataW H × List MemPlace} (hl : cs.length = 4) (hc : ∀ j, j < 4 → W.cell? ⟨b, o + j, none⟩ = cs[j]?) (h : DataW.trod enc Try.prog W 0 (fun _ => true) true fuel 44 cs = some x) :
    ∃ p : Int × Int, W.cell? ⟨b, o + 1, none⟩ = some (.int .i64 p.1) ∧ W.cell? ⟨b, o + 2, none⟩ = some (.int .i64 p.2) := by
  obtain ⟨v0, v1, v2, v3, rfl⟩ := four_of cs hl
  obtain ⟨y1, y2, n, f1, f2⟩ := four_fields Try.underlying44 h
  rw [Try.cellsI] at f1 f2
  obtain ⟨x1, rfl⟩ := int_cell (v := v1) f1
  obtain ⟨x2, rfl⟩ := int_cell (v := v2) f2
  exact ⟨(x1, x2), hc 1 (by omega), hc 2 (by omega)⟩

set_option maxRecDepth 100000 in
theorem script_of {H : Type} {enc : TypeId × Value → H} {W : World} {a : Option Addr} {len cap fuel : Nat} {x : DataW H × List MemPlace} (h : DataW.trod enc Try.prog W 0 (fun _ => true) true fuel 36 [.slice a len cap] = some x) : ∃ f, ScriptAt W a len f := by
  have hall : ∀ i, ∃ p : Int × Int, i < len → ∃ b o, a = some ⟨b, o, none⟩ ∧ W.cell? ⟨b, o + i * 4 + 1, none⟩ = some (.int .i64 p.1) ∧ W.cell? ⟨b, o + i * 4 + 2, none⟩ = some (.int .i64 p.2) := by
    rcases Go.Deep.open_slice Try.underlying36 h with ⟨hcs, _⟩ | ⟨ad, len', cap', m, n, D, Pl, hcs, _, hl, hm, hmm, _, hx⟩
    · simp at hcs
      obtain ⟨rfl, rfl, rfl⟩ := hcs
      exact fun i => ⟨(0, 0), fun hi => absurd hi (Nat.not_lt_zero _)⟩
    · simp at hcs
      obtain ⟨rfl, rfl, rfl⟩ := hcs
      intro i
      by_cases hi : i < len
      · simp only [if_true] at hmm
        obtain ⟨cs', hc, ht⟩ := hx i (by omega)
        obtain ⟨cs0, hc0, _⟩ := hx 0 (by omega)
        rw [Try.cellsStep] at hc hc0
        obtain ⟨_, hlen, hcell⟩ := World.cells?_some hc
        obtain ⟨_, hlen0, hcell0⟩ := World.cells?_some hc0
        obtain ⟨b, o, sp⟩ := ad
        have g0 := hcell0 0 (by omega)
        rw [List.getElem?_eq_getElem (by omega)] at g0
        have hsp : sp = none := by simpa [Addr.add] using World.cell?_spot g0
        subst hsp
        obtain ⟨p, q1, q2⟩ := step_of (b := b) (o := o + i * 4) hlen (fun j hj => by have := hcell j hj; rwa [Addr.add_lit, Addr.add_lit] at this) ht
        exact ⟨p, fun _ => ⟨b, o, rfl, q1, q2⟩⟩
      · exact ⟨(0, 0), fun h => absurd h hi⟩
  exact ⟨fun i => Classical.choose (hall i), fun i hi => Classical.choose_spec (hall i) hi⟩

end Go.Proofs.Ytdlnbeoccakleaa
