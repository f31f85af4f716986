/-
  The solver of package asks, as it lies in memory: a union, the events, and the answers so far.
-/
import Derived.Test.YthhojlbfnffdeabGreatOy
import Derived.Test.YthhojlbfnffdeabGreatUk
namespace Go.Proofs.YthhojlbfnffdeabGreat.As
open Go.RowKit Go.Deep
open Go.RowKit (Below)
set_option linter.unusedVariables false

variable {w w' w'' w0 : World} {base n gs g m c : Nat} {F F' : Nat → Prop} {L L' : List (Nat × Nat)} {a : Option Addr} {v v' : Value} {l l' : List Bool} {f : Nat → Int × Int × Int}

/-- What kind of cells a block has. -/
def Tg (w : World) (k : Nat) (t : TypeId) : Prop := ∃ cs fr, w.heap[k]? = some (.cells cs t fr)

theorem Tg.one {k : Nat} {t t' : TypeId} (h : Tg w k t) (h' : Tg w k t') : t = t' := by
  obtain ⟨cs, fr, e⟩ := h
  obtain ⟨cs', fr', e'⟩ := h'
  rw [e] at e'
  cases e'
  rfl

theorem Tg.row {k : Nat} {t : TypeId} {s : Nat} {p : Nat → Value} (h : w.rowIs k t s p) : Tg w k t := by
  obtain ⟨cs, e, _⟩ := h
  exact ⟨cs, _, e⟩

theorem Tg.own {k : Nat} {t : TypeId} {s N : Nat} {xs : List Value} (h : w.ownsRow base t s v N xs) (hk : v.ownBlock = some k) : Tg w k t := by
  rcases h.2 with ⟨h0, _⟩ | ⟨g', cap, cur, hv, h1, h2, h3⟩
  · rw [h0] at hk; cases hk
  · rw [hv] at hk
    cases hk
    exact ⟨cur, _, h2⟩

theorem Tg.union {k : Nat} (h : Un.UAt base n w g F L) (hk : F k) : Tg w k 135 ∨ Tg w k 3 := by
  obtain ⟨ba, bs, vj, h, hF⟩ := h
  rcases (hF k).1 hk with rfl | rfl | rfl | e
  · exact Or.inl (Tg.row h.st)
  · exact Or.inr (Tg.row h.above)
  · exact Or.inr (Tg.row h.size)
  · exact Or.inr (Tg.own h.joined e)

def cells3 (g : Nat) (a : Option Addr) (m c : Nat) (v : Value) : Nat → Value := fun i => if i = 0 then .pointer (some ⟨g, 0, none⟩) else if i = 1 then .slice a m c else v

/-- The solver's memory. -/
structure SAt (base n : Nat) (w : World) (gs g : Nat) (F : Nat → Prop) (L : List (Nat × Nat)) (a : Option Addr) (m c : Nat) (v : Value) (l : List Bool) : Prop where
  u : Un.UAt base n w g F L
  st : w.rowIs gs 109 3 (cells3 g a m c v)
  ans : w.ownsRow base 4 1 v l.length (bools l)
  bg : base ≤ gs

/-- Its blocks. -/
def SF (F : Nat → Prop) (gs : Nat) (v : Value) (k : Nat) : Prop := F k ∨ k = gs ∨ v.ownBlock = some k

theorem SAt.lt {k : Nat} (h : SAt base n w gs g F L a m c v l) (hk : SF F gs v k) : k < w.heap.size ∧ base ≤ k := by
  rcases hk with e | rfl | e
  · exact h.u.lt e
  · exact ⟨h.st.lt, h.bg⟩
  · exact (own_bound h.ans e).symm

theorem SAt.off {k : Nat} (h : SAt base n w gs g F L a m c v l) (hk : Tg w k 133) : ¬ SF F gs v k := by
  rintro (e | rfl | e)
  · rcases Tg.union h.u e with q | q
    · exact absurd (hk.one q) (by decide)
    · exact absurd (hk.one q) (by decide)
  · exact absurd (hk.one (Tg.row h.st)) (by decide)
  · exact absurd (hk.one (Tg.own h.ans e)) (by decide)

theorem SAt.keep (h : SAt base n w gs g F L a m c v l) (hk : ∀ k, SF F gs v k → w'.heap[k]? = w.heap[k]?) : SAt base n w' gs g F L a m c v l := by
  refine ⟨?_, h.st.of_block (hk _ (Or.inr (Or.inl rfl))), own_same h.ans fun k e => hk k (Or.inr (Or.inr e)), h.bg⟩
  obtain ⟨ba, bs, vj, hL, hF⟩ := h.u
  exact ⟨ba, bs, vj, hL.keep (fun k e => hk k (Or.inl ((hF k).2 e))), hF⟩

theorem SAt.below (h : SAt base n w gs g F L a m c v l) (hb : Below w.heap.size w w') : SAt base n w' gs g F L a m c v l := h.keep fun k hk => hb.block k (h.lt hk).1

theorem SAt.gs_off (h : SAt base n w gs g F L a m c v l) : ¬ F gs := fun e => by
  rcases Tg.union h.u e with q | q
  · exact absurd (q.one (Tg.row h.st)) (by decide)
  · exact absurd (q.one (Tg.row h.st)) (by decide)

theorem SAt.v_off {k : Nat} (h : SAt base n w gs g F L a m c v l) (hk : v.ownBlock = some k) : ¬ F k ∧ k ≠ gs := by
  have ht := Tg.own h.ans hk
  refine ⟨fun e => ?_, fun e => ?_⟩
  · rcases Tg.union h.u e with q | q
    · exact absurd (ht.one q) (by decide)
    · exact absurd (ht.one q) (by decide)
  · subst e
    exact absurd (ht.one (Tg.row h.st)) (by decide)

/-- The union moves. -/
theorem SAt.moved (h : SAt base n w gs g F L a m c v l) (hu : Un.UAt base n w' g F' L') (hm : Un.Moves F w w' F') : SAt base n w' gs g F' L' a m c v l ∧ Un.Moves (SF F gs v) w w' (SF F' gs v) := by
  refine ⟨⟨hu, h.st.of_block (hm.block _ h.st.lt h.gs_off), own_same h.ans fun k e => hm.block k (own_bound h.ans e).2 (h.v_off e).1, h.bg⟩, ⟨hm.os, hm.tape, hm.output, hm.size, fun k hk hn => hm.block k hk fun e => hn (Or.inl e), fun k hk => ?_⟩⟩
  rcases hk with e | e | e
  · exact (hm.foot k e).imp Or.inl id
  · exact Or.inl (Or.inr (Or.inl e))
  · exact Or.inl (Or.inr (Or.inr e))

/-- A solver that was made since w0. -/
structure SW (w0 w : World) (n gs g : Nat) (F : Nat → Prop) (L : List (Nat × Nat)) (a : Option Addr) (m c : Nat) (f : Nat → Int × Int × Int) (v : Value) (l : List Bool) : Prop where
  s : SAt w0.heap.size n w gs g F L a m c v l
  below : Below w0.heap.size w0 w
  ev : EvAt w0 a m f

theorem SW.step (h : SW w0 w n gs g F L a m c f v l) (hb : Below w.heap.size w w') : SW w0 w' n gs g F L a m c f v l := ⟨h.s.below hb, h.below.trans (hb.mono h.below.size), h.ev⟩

theorem SW.moved (h : SW w0 w n gs g F L a m c f v l) (hu : Un.UAt w0.heap.size n w' g F' L') (hm : Un.Moves F w w' F') : SW w0 w' n gs g F' L' a m c f v l ∧ Un.Moves (SF F gs v) w w' (SF F' gs v) := by
  obtain ⟨h1, h2⟩ := h.s.moved hu hm
  exact ⟨⟨h1, Un.Moves.below h.below h.below.size (fun k hk => (h.s.u.lt hk).2) hm, h.ev⟩, h2⟩

/-- A row of pairs beside it stays. -/
theorem SW.two {b N : Nat} {vs : Value} {xs : List Value} (h : SW w0 w n gs g F L a m c f v l) (hS : w.ownsRow b 133 2 vs N xs) (hm : Un.Moves (SF F gs v) w w' (SF F' gs v')) : w'.ownsRow b 133 2 vs N xs :=
  own_same hS fun k hk => hm.block k (own_bound hS hk).2 (h.s.off (Tg.own hS hk))

theorem own_lower {b b' N s : Nat} {t : TypeId} {vs : Value} {xs : List Value} (h : w.ownsRow b t s vs N xs) (hb : b' ≤ b) : w.ownsRow b' t s vs N xs := by
  refine ⟨h.1, ?_⟩
  rcases h.2 with h0 | ⟨g, cap, cur, hv, h1, h2, h3⟩
  · exact Or.inl h0
  · exact Or.inr ⟨g, cap, cur, hv, by omega, h2, h3⟩

theorem SW.c0 (h : SW w0 w n gs g F L a m c f v l) : w.cell? ⟨gs, 0, none⟩ = some (.pointer (some ⟨g, 0, none⟩)) := h.s.st.cell (i := 0) (by omega)
theorem SW.c1 (h : SW w0 w n gs g F L a m c f v l) : w.cell? ⟨gs, 1, none⟩ = some (.slice a m c) := h.s.st.cell (i := 1) (by omega)
theorem SW.c2 (h : SW w0 w n gs g F L a m c f v l) : w.cell? ⟨gs, 2, none⟩ = some v := h.s.st.cell (i := 2) (by omega)

/-- One row of pairs grows, that was made behind w: the solver stays. -/
theorem SW.grown {wr : World} {N : Nat} {vs : Value} {xs : List Value} (h : SW w0 wr n gs g F' L' a m c f v l) (hm : Un.Moves (SF F gs v) w wr (SF F' gs v)) (hS : wr.ownsRow w.heap.size 133 2 vs N xs) (hg : wr.grownBy w' vs.ownBlock) (hb : w0.heap.size ≤ w.heap.size) : SW w0 w' n gs g F' L' a m c f v l ∧ Un.Moves (SF F gs v) w w' (SF F' gs v) := by
  refine ⟨⟨h.s.keep fun k hk => hg.block k (h.s.lt hk).1 fun e => h.s.off (Tg.own hS e.symm) hk, h.below.grown hg h.below.size fun k e => ?_, h.ev⟩, ⟨hg.os.trans hm.os, hg.tape.trans hm.tape, hg.output.trans hm.output, Nat.le_trans hm.size hg.size, fun k hk hn => ?_, hm.foot⟩⟩
  · have := (own_bound hS e).1
    omega
  · rw [hg.block k (Nat.lt_of_lt_of_le hk hm.size) (fun e => by have := (own_bound hS e.symm).1; omega)]
    exact hm.block k hk hn

end Go.Proofs.YthhojlbfnffdeabGreat.As
