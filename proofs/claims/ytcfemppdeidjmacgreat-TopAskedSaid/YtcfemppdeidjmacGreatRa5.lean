/-
  The calls of package union, told by the blocks that are a union's; the script that the statements read.
  The solver of package asks, as it lies in memory: a union, the events, and the answers so far.
-/
import Derived.Test.YtcfemppdeidjmacGreatRa1
import Derived.Test.YtcfemppdeidjmacGreatRa2
import Derived.Test.YtcfemppdeidjmacGreatRa3
import Derived.Test.YtcfemppdeidjmacGreatRa4
import Derived.Test.YtcfemppdeidjmacGreatOy
namespace Go.Proofs.YtcfemppdeidjmacGreat.Un
open Go.RowKit Go.Deep
set_option linter.unusedVariables false

theorem new_u {base : Nat} {w : World} (hb : base ≤ w.heap.size) (n : Nat) (h1 : 1 ≤ n) (h2 : n ≤ 60) :
    Calls Tryz.prog 15 #[.int .i64 (n : Nat)] w fun e w' => ∃ g F, e = .returned (.tuple #[.pointer (some ⟨g, 0, none⟩), .nilIface]) ∧ Below w.heap.size w w' ∧ UAt base n w' g F [] ∧ ∀ k, F k → w.heap.size ≤ k := by
  refine (new_any hb n h1 h2).mono ?_
  rintro e w' ⟨g, ba, bs, rfl, hB, hL, q1, q2, q3⟩
  refine ⟨g, Foot g ba bs (.slice none 0 0), rfl, hB, ⟨ba, bs, _, hL, fun _ => Iff.rfl⟩, fun k hk => ?_⟩
  rcases hk with rfl | rfl | rfl | hk
  · exact q1
  · exact q2
  · exact q3
  · cases hk

theorem Moves.iff {F G : Nat → Prop} {w w' : World} {F' : Nat → Prop} (h : Moves G w w' F') (hF : ∀ k, F k ↔ G k) : Moves F w w' F' :=
  ⟨h.os, h.tape, h.output, h.size, fun k hk hn => h.block k hk (fun e => hn ((hF k).2 e)), fun k hk => (h.foot k hk).imp (fun e => (hF k).2 e) id⟩

/-- What Join answers, told by the blocks. -/
def JoinU (base n : Nat) (w : World) (g : Nat) (F : Nat → Prop) (L : List (Nat × Nat)) (a b : Int) (e : Ending) (w' : World) : Prop :=
  ∃ x err F' L', e = .returned (.tuple #[.bool x, err]) ∧ UAt base n w' g F' L' ∧ Moves F w w' F' ∧ Joins n a b L L' ∧ (Nodes n a b → err = .nilIface ∧ (x = true ↔ rt L a.toNat ≠ rt L b.toNat))

theorem join_u {base n : Nat} {w : World} {g : Nat} {F : Nat → Prop} {L : List (Nat × Nat)} (h : UAt base n w g F L) (hbs : base ≤ w.heap.size) (a b : Int) :
    Calls Tryz.prog 17 #[.pointer (some ⟨g, 0, none⟩), .int .i64 a, .int .i64 b] w (JoinU base n w g F L a b) := by
  obtain ⟨ba, bs, vj, h, hF⟩ := h
  refine (join_any h hbs a b).mono ?_
  rintro e w' ⟨x, err, vj', L', rfl, hL, hM, hJ, hx⟩
  exact ⟨x, err, _, L', rfl, ⟨ba, bs, vj', hL, fun _ => Iff.rfl⟩, hM.iff hF, hJ, hx⟩

theorem back_u {base n : Nat} {w : World} {g : Nat} {F : Nat → Prop} {L : List (Nat × Nat)} (h : UAt base n w g F L) (k : Nat) (hk : k ≤ L.length) :
    Calls Tryz.prog 163 #[.pointer (some ⟨g, 0, none⟩), .int .i64 (k : Nat)] w fun e w' => ∃ F' M L', e = .returned .nilIface ∧ L = M ++ L' ∧ L'.length = k ∧ UAt base n w' g F' L' ∧ Moves F w w' F' := by
  obtain ⟨ba, bs, vj, h, hF⟩ := h
  refine (back_any h k hk).mono ?_
  rintro e w' ⟨vj', M, L', rfl, h1, h2, hL, hM⟩
  exact ⟨_, M, L', rfl, h1, h2, ⟨ba, bs, vj', hL, fun _ => Iff.rfl⟩, hM.iff hF⟩

theorem mark_u {base n : Nat} {w : World} {g : Nat} {F : Nat → Prop} {L : List (Nat × Nat)} (h : UAt base n w g F L) :
    Calls Tryz.prog 160 #[.pointer (some ⟨g, 0, none⟩)] w fun e w' => e = .returned (.int .i64 (L.length : Nat)) ∧ w' = w := by
  obtain ⟨ba, bs, vj, h, hF⟩ := h
  exact mark_any h

theorem parts_u {base n : Nat} {w : World} {g : Nat} {F : Nat → Prop} {L : List (Nat × Nat)} (h : UAt base n w g F L) :
    Calls Tryz.prog 24 #[.pointer (some ⟨g, 0, none⟩)] w fun e w' => e = .returned (.int .i64 ((n - L.length : Nat))) ∧ Below w.heap.size w w' := by
  obtain ⟨ba, bs, vj, h, hF⟩ := h
  refine (parts_any h).mono ?_
  rintro e w' ⟨rfl, k, rfl⟩
  exact ⟨rfl, below_drewN rfl⟩

theorem same_u {base n : Nat} {w : World} {g : Nat} {F : Nat → Prop} {L : List (Nat × Nat)} (h : UAt base n w g F L) (i j : Nat) (hi : i < n) (hj : j < n) :
    Calls Tryz.prog 19 #[.pointer (some ⟨g, 0, none⟩), .int .i64 (i : Nat), .int .i64 (j : Nat)] w fun e w' => e = .returned (.tuple #[.bool (decide (rt L i = rt L j)), .nilIface]) ∧ Below w.heap.size w w' := by
  obtain ⟨ba, bs, vj, h, hF⟩ := h
  exact same_any h i j hi hj

theorem size_u {base n : Nat} {w : World} {g : Nat} {F : Nat → Prop} {L : List (Nat × Nat)} (h : UAt base n w g F L) (i : Nat) (hi : i < n) :
    Calls Tryz.prog 21 #[.pointer (some ⟨g, 0, none⟩), .int .i64 (i : Nat)] w fun e w' => e = .returned (.tuple #[.int .i64 (cz L (rt L i) : Nat), .nilIface]) ∧ Below w.heap.size w w' := by
  obtain ⟨ba, bs, vj, h, hF⟩ := h
  exact size_any h i hi

/-- The script's pairs, as they lie in memory. -/
def ScriptAt (w : World) (a : Option Addr) (n : Nat) (f : Nat → Int × Int) : Prop :=
  ∀ i, i < n → ∃ b o, a = some ⟨b, o, none⟩ ∧ w.cell? ⟨b, o + i * 4 + 1, none⟩ = some (.int .i64 (f i).1) ∧ w.cell? ⟨b, o + i * 4 + 2, none⟩ = some (.int .i64 (f i).2)

/-- All loops of a code, the outer ones ahead of the inner ones. -/
def loopsOf : Code → List Code
  | .loop c => c :: loopsOf c
  | .seq a b => loopsOf a ++ loopsOf b
  | .block _ c => loopsOf c
  | .scope c => loopsOf c
  | .cond _ a b => loopsOf a ++ loopsOf b
  | _ => []

/-- A loop of a function, by its place. -/
def loopAt (f : Func) (k : Nat) : Code := ((f.body.map loopsOf).getD []).getD k .skip

end Go.Proofs.YtcfemppdeidjmacGreat.Un

namespace Go.Proofs.YtcfemppdeidjmacGreat.As
open Go.RowKit Go.Deep
open Go.RowKit (Below)
set_option linter.unusedVariables false

variable {w w' w'' w0 : World} {base n gs g m c : Nat} {F F' : Nat → Prop} {L L' : List (Nat × Nat)} {a : Option Addr} {v v' : Value} {l l' : List Bool} {f : Nat → Int × Int × Int}

/-- What kind of cells a block has. -/
def Tg (w : World) (k : Nat) (t : TypeId) : Prop := ∃ cs fr, w.heap[k]? = some (.cells cs t fr)

theorem Tg.one {k : Nat} {t t' : TypeId} (h : Tg w k t) (h' : Tg w k t') : t = t' := by
  obtain ⟨cs, fr, e⟩ := h
  obtain ⟨cs', fr', e'⟩ := h'
  rw [e] at e'
  cases e'
  rfl

theorem Tg.row {k : Nat} {t : TypeId} {s : Nat} {p : Nat → Value} (h : w.rowIs k t s p) : Tg w k t := by
  obtain ⟨cs, e, _⟩ := h
  exact ⟨cs, _, e⟩

theorem Tg.own {k : Nat} {t : TypeId} {s N : Nat} {xs : List Value} (h : w.ownsRow base t s v N xs) (hk : v.ownBlock = some k) : Tg w k t := by
  rcases h.2 with ⟨h0, _⟩ | ⟨g', cap, cur, hv, h1, h2, h3⟩
  · rw [h0] at hk; cases hk
  · rw [hv] at hk
    cases hk
    exact ⟨cur, _, h2⟩

theorem Tg.union {k : Nat} (h : Un.UAt base n w g F L) (hk : F k) : Tg w k 104 ∨ Tg w k 3 := by
  obtain ⟨ba, bs, vj, h, hF⟩ := h
  rcases (hF k).1 hk with rfl | rfl | rfl | e
  · exact Or.inl (Tg.row h.st)
  · exact Or.inr (Tg.row h.above)
  · exact Or.inr (Tg.row h.size)
  · exact Or.inr (Tg.own h.joined e)

def cells3 (g : Nat) (a : Option Addr) (m c : Nat) (v : Value) : Nat → Value := fun i => if i = 0 then .pointer (some ⟨g, 0, none⟩) else if i = 1 then .slice a m c else v

/-- The solver's memory. -/
structure SAt (base n : Nat) (w : World) (gs g : Nat) (F : Nat → Prop) (L : List (Nat × Nat)) (a : Option Addr) (m c : Nat) (v : Value) (l : List Bool) : Prop where
  u : Un.UAt base n w g F L
  st : w.rowIs gs 185 3 (cells3 g a m c v)
  ans : w.ownsRow base 4 1 v l.length (bools l)
  bg : base ≤ gs

/-- Its blocks. -/
def SF (F : Nat → Prop) (gs : Nat) (v : Value) (k : Nat) : Prop := F k ∨ k = gs ∨ v.ownBlock = some k

theorem SAt.lt {k : Nat} (h : SAt base n w gs g F L a m c v l) (hk : SF F gs v k) : k < w.heap.size ∧ base ≤ k := by
  rcases hk with e | rfl | e
  · exact h.u.lt e
  · exact ⟨h.st.lt, h.bg⟩
  · exact (own_bound h.ans e).symm

theorem SAt.off {k : Nat} (h : SAt base n w gs g F L a m c v l) (hk : Tg w k 233) : ¬ SF F gs v k := by
  rintro (e | rfl | e)
  · rcases Tg.union h.u e with q | q
    · exact absurd (hk.one q) (by decide)
    · exact absurd (hk.one q) (by decide)
  · exact absurd (hk.one (Tg.row h.st)) (by decide)
  · exact absurd (hk.one (Tg.own h.ans e)) (by decide)

theorem SAt.keep (h : SAt base n w gs g F L a m c v l) (hk : ∀ k, SF F gs v k → w'.heap[k]? = w.heap[k]?) : SAt base n w' gs g F L a m c v l := by
  refine ⟨?_, h.st.of_block (hk _ (Or.inr (Or.inl rfl))), own_same h.ans fun k e => hk k (Or.inr (Or.inr e)), h.bg⟩
  obtain ⟨ba, bs, vj, hL, hF⟩ := h.u
  exact ⟨ba, bs, vj, hL.keep (fun k e => hk k (Or.inl ((hF k).2 e))), hF⟩

theorem SAt.below (h : SAt base n w gs g F L a m c v l) (hb : Below w.heap.size w w') : SAt base n w' gs g F L a m c v l := h.keep fun k hk => hb.block k (h.lt hk).1

theorem SAt.gs_off (h : SAt base n w gs g F L a m c v l) : ¬ F gs := fun e => by
  rcases Tg.union h.u e with q | q
  · exact absurd (q.one (Tg.row h.st)) (by decide)
  · exact absurd (q.one (Tg.row h.st)) (by decide)

theorem SAt.v_off {k : Nat} (h : SAt base n w gs g F L a m c v l) (hk : v.ownBlock = some k) : ¬ F k ∧ k ≠ gs := by
  have ht := Tg.own h.ans hk
  refine ⟨fun e => ?_, fun e => ?_⟩
  · rcases Tg.union h.u e with q | q
    · exact absurd (ht.one q) (by decide)
    · exact absurd (ht.one q) (by decide)
  · subst e
    exact absurd (ht.one (Tg.row h.st)) (by decide)

/-- The union moves. -/
theorem SAt.moved (h : SAt base n w gs g F L a m c v l) (hu : Un.UAt base n w' g F' L') (hm : Un.Moves F w w' F') : SAt base n w' gs g F' L' a m c v l ∧ Un.Moves (SF F gs v) w w' (SF F' gs v) := by
  refine ⟨⟨hu, h.st.of_block (hm.block _ h.st.lt h.gs_off), own_same h.ans fun k e => hm.block k (own_bound h.ans e).2 (h.v_off e).1, h.bg⟩, ⟨hm.os, hm.tape, hm.output, hm.size, fun k hk hn => hm.block k hk fun e => hn (Or.inl e), fun k hk => ?_⟩⟩
  rcases hk with e | e | e
  · exact (hm.foot k e).imp Or.inl id
  · exact Or.inl (Or.inr (Or.inl e))
  · exact Or.inl (Or.inr (Or.inr e))

/-- A solver that was made since w0. -/
structure SW (w0 w : World) (n gs g : Nat) (F : Nat → Prop) (L : List (Nat × Nat)) (a : Option Addr) (m c : Nat) (f : Nat → Int × Int × Int) (v : Value) (l : List Bool) : Prop where
  s : SAt w0.heap.size n w gs g F L a m c v l
  below : Below w0.heap.size w0 w
  ev : EvAt w0 a m f

theorem SW.step (h : SW w0 w n gs g F L a m c f v l) (hb : Below w.heap.size w w') : SW w0 w' n gs g F L a m c f v l := ⟨h.s.below hb, h.below.trans (hb.mono h.below.size), h.ev⟩

theorem SW.moved (h : SW w0 w n gs g F L a m c f v l) (hu : Un.UAt w0.heap.size n w' g F' L') (hm : Un.Moves F w w' F') : SW w0 w' n gs g F' L' a m c f v l ∧ Un.Moves (SF F gs v) w w' (SF F' gs v) := by
  obtain ⟨h1, h2⟩ := h.s.moved hu hm
  exact ⟨⟨h1, Un.Moves.below h.below h.below.size (fun k hk => (h.s.u.lt hk).2) hm, h.ev⟩, h2⟩

/-- A row of pairs beside it stays. -/
theorem SW.two {b N : Nat} {vs : Value} {xs : List Value} (h : SW w0 w n gs g F L a m c f v l) (hS : w.ownsRow b 233 2 vs N xs) (hm : Un.Moves (SF F gs v) w w' (SF F' gs v')) : w'.ownsRow b 233 2 vs N xs :=
  own_same hS fun k hk => hm.block k (own_bound hS hk).2 (h.s.off (Tg.own hS hk))

theorem own_lower {b b' N s : Nat} {t : TypeId} {vs : Value} {xs : List Value} (h : w.ownsRow b t s vs N xs) (hb : b' ≤ b) : w.ownsRow b' t s vs N xs := by
  refine ⟨h.1, ?_⟩
  rcases h.2 with h0 | ⟨g, cap, cur, hv, h1, h2, h3⟩
  · exact Or.inl h0
  · exact Or.inr ⟨g, cap, cur, hv, by omega, h2, h3⟩

theorem SW.c0 (h : SW w0 w n gs g F L a m c f v l) : w.cell? ⟨gs, 0, none⟩ = some (.pointer (some ⟨g, 0, none⟩)) := h.s.st.cell (i := 0) (by omega)
theorem SW.c1 (h : SW w0 w n gs g F L a m c f v l) : w.cell? ⟨gs, 1, none⟩ = some (.slice a m c) := h.s.st.cell (i := 1) (by omega)
theorem SW.c2 (h : SW w0 w n gs g F L a m c f v l) : w.cell? ⟨gs, 2, none⟩ = some v := h.s.st.cell (i := 2) (by omega)

/-- One row of pairs grows, that was made behind w: the solver stays. -/
theorem SW.grown {wr : World} {N : Nat} {vs : Value} {xs : List Value} (h : SW w0 wr n gs g F' L' a m c f v l) (hm : Un.Moves (SF F gs v) w wr (SF F' gs v)) (hS : wr.ownsRow w.heap.size 233 2 vs N xs) (hg : wr.grownBy w' vs.ownBlock) (hb : w0.heap.size ≤ w.heap.size) : SW w0 w' n gs g F' L' a m c f v l ∧ Un.Moves (SF F gs v) w w' (SF F' gs v) := by
  refine ⟨⟨h.s.keep fun k hk => hg.block k (h.s.lt hk).1 fun e => h.s.off (Tg.own hS e.symm) hk, h.below.grown hg h.below.size fun k e => ?_, h.ev⟩, ⟨hg.os.trans hm.os, hg.tape.trans hm.tape, hg.output.trans hm.output, Nat.le_trans hm.size hg.size, fun k hk hn => ?_, hm.foot⟩⟩
  · have := (own_bound hS e).1
    omega
  · rw [hg.block k (Nat.lt_of_lt_of_le hk hm.size) (fun e => by have := (own_bound hS e.symm).1; omega)]
    exact hm.block k hk hn

end Go.Proofs.YtcfemppdeidjmacGreat.As
