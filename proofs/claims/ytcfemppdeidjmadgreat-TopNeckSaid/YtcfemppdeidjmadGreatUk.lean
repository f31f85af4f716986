/-
  The calls of package union, told by the blocks that are a union's; the script that the statements read.
-/
import Derived.Test.YtcfemppdeidjmadGreatUw2
import Derived.Test.YtcfemppdeidjmadGreatUw3
import Derived.Test.YtcfemppdeidjmadGreatUw5
namespace Go.Proofs.YtcfemppdeidjmadGreat.Un
open Go.RowKit Go.Deep
set_option linter.unusedVariables false

theorem new_u {base : Nat} {w : World} (hb : base ≤ w.heap.size) (n : Nat) (h1 : 1 ≤ n) (h2 : n ≤ 60) :
    Calls Tryz.prog 7 #[.int .i64 (n : Nat)] w fun e w' => ∃ g F, e = .returned (.tuple #[.pointer (some ⟨g, 0, none⟩), .nilIface]) ∧ Below w.heap.size w w' ∧ UAt base n w' g F [] ∧ ∀ k, F k → w.heap.size ≤ k := by
  refine (new_any hb n h1 h2).mono ?_
  rintro e w' ⟨g, ba, bs, rfl, hB, hL, q1, q2, q3⟩
  refine ⟨g, Foot g ba bs (.slice none 0 0), rfl, hB, ⟨ba, bs, _, hL, fun _ => Iff.rfl⟩, fun k hk => ?_⟩
  rcases hk with rfl | rfl | rfl | hk
  · exact q1
  · exact q2
  · exact q3
  · cases hk

theorem Moves.iff {F G : Nat → Prop} {w w' : World} {F' : Nat → Prop} (h : Moves G w w' F') (hF : ∀ k, F k ↔ G k) : Moves F w w' F' :=
  ⟨h.os, h.tape, h.output, h.size, fun k hk hn => h.block k hk (fun e => hn ((hF k).2 e)), fun k hk => (h.foot k hk).imp (fun e => (hF k).2 e) id⟩

/-- What Join answers, told by the blocks. -/
def JoinU (base n : Nat) (w : World) (g : Nat) (F : Nat → Prop) (L : List (Nat × Nat)) (a b : Int) (e : Ending) (w' : World) : Prop :=
  ∃ x err F' L', e = .returned (.tuple #[.bool x, err]) ∧ UAt base n w' g F' L' ∧ Moves F w w' F' ∧ Joins n a b L L' ∧ (Nodes n a b → err = .nilIface ∧ (x = true ↔ rt L a.toNat ≠ rt L b.toNat))

theorem join_u {base n : Nat} {w : World} {g : Nat} {F : Nat → Prop} {L : List (Nat × Nat)} (h : UAt base n w g F L) (hbs : base ≤ w.heap.size) (a b : Int) :
    Calls Tryz.prog 8 #[.pointer (some ⟨g, 0, none⟩), .int .i64 a, .int .i64 b] w (JoinU base n w g F L a b) := by
  obtain ⟨ba, bs, vj, h, hF⟩ := h
  refine (join_any h hbs a b).mono ?_
  rintro e w' ⟨x, err, vj', L', rfl, hL, hM, hJ, hx⟩
  exact ⟨x, err, _, L', rfl, ⟨ba, bs, vj', hL, fun _ => Iff.rfl⟩, hM.iff hF, hJ, hx⟩




theorem same_u {base n : Nat} {w : World} {g : Nat} {F : Nat → Prop} {L : List (Nat × Nat)} (h : UAt base n w g F L) (i j : Nat) (hi : i < n) (hj : j < n) :
    Calls Tryz.prog 9 #[.pointer (some ⟨g, 0, none⟩), .int .i64 (i : Nat), .int .i64 (j : Nat)] w fun e w' => e = .returned (.tuple #[.bool (decide (rt L i = rt L j)), .nilIface]) ∧ Below w.heap.size w w' := by
  obtain ⟨ba, bs, vj, h, hF⟩ := h
  exact same_any h i j hi hj


/-- The script's pairs, as they lie in memory. -/
def ScriptAt (w : World) (a : Option Addr) (n : Nat) (f : Nat → Int × Int) : Prop :=
  ∀ i, i < n → ∃ b o, a = some ⟨b, o, none⟩ ∧ w.cell? ⟨b, o + i * 4 + 1, none⟩ = some (.int .i64 (f i).1) ∧ w.cell? ⟨b, o + i * 4 + 2, none⟩ = some (.int .i64 (f i).2)

/-- All loops of a code, the outer ones ahead of the inner ones. -/
def loopsOf : Code → List Code
  | .loop c => c :: loopsOf c
  | .seq a b => loopsOf a ++ loopsOf b
  | .block _ c => loopsOf c
  | .scope c => loopsOf c
  | .cond _ a b => loopsOf a ++ loopsOf b
  | _ => []

/-- A loop of a function, by its place. -/
def loopAt (f : Func) (k : Nat) : Code := ((f.body.map loopsOf).getD []).getD k .skip

end Go.Proofs.YtcfemppdeidjmadGreat.Un
