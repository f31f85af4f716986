/-
  A union as it lies in memory: its nodes' tops, sizes and the list of roots that went below another; what holds of it behind a step that leaves its memory alone.
-/
import Derived.Test.YtcfemppdeidjmadGreatMa
import Derived.Test.YtcfemppdeidjmadGreatChecked
import Derived.WalkKit
import Derived.WalkSpells
import Derived.WalkLawsBesides
import Derived.Deep.RegionHeld3
import Derived.Deep.OwnRows
import Derived.OneCell
import Derived.BigQuiet
import Derived.BigRegion
import Derived.Below
import Derived.Maps.AppendAt
import Derived.Deep.AppendLies
namespace Go.Proofs.YtcfemppdeidjmadGreat.Un
open Go.RowKit Go.Deep
set_option linter.unusedVariables false

theorem Tryz.infoInt : (Tryz.prog.info? 3).map (fun i => (i.zero, i.size, i.bytes)) = some (some (.int .i64 0), 1, 8) := by kernel_rfl

theorem cell_keep {W w' : World} {p : Addr} {v : Value} (hb : Below W.heap.size W w') (h : W.cell? p = some v) : w'.cell? p = some v :=
  (hb.cell (World.block_lt_of_cell? _ _ h)).trans h
theorem below_step {w a b : World} (h1 : Below w.heap.size w a) (h2 : Below a.heap.size a b) : Below w.heap.size w b := h1.trans (h2.mono h1.size)
theorem below_drewN {w a : World} {n : Nat} (h : a = w.drewN n) : Below w.heap.size w a := by
  subst h
  induction n with
  | zero => exact Below.refl _ _
  | succ n ih => exact ih.drew

/-- The roots that went below another, the first one first. -/
def fell (L : List (Nat × Nat)) : List Value := (L.map fun x => Value.int .i64 (x.1 : Nat)).reverse

theorem fell_len (L : List (Nat × Nat)) : (fell L).length = L.length := by simp [fell]
theorem fell_cons (l g : Nat) (L : List (Nat × Nat)) : fell ((l, g) :: L) = fell L ++ [Value.int .i64 (l : Nat)] := by simp [fell]

/-- The struct's three cells. -/
def parts3 (n ba bs : Nat) (vj : Value) : Nat → Value := fun i => if i = 0 then .slice (some ⟨ba, 0, none⟩) n n else if i = 1 then .slice (some ⟨bs, 0, none⟩) n n else vj

/-- A union of n nodes lies at block g, with these links. -/
structure Lays (base n : Nat) (w : World) (g ba bs : Nat) (vj : Value) (L : List (Nat × Nat)) : Prop where
  st : w.rowIs g 70 3 (parts3 n ba bs vj)
  above : w.rowIs ba 3 n (fun i => .int .i64 (ab L i : Nat))
  size : w.rowIs bs 3 n (fun i => .int .i64 (cz L i : Nat))
  joined : w.ownsRow base 3 1 vj L.length (fell L)
  linked : Lnkd n L
  n1 : 1 ≤ n
  n60 : n ≤ 60
  ne1 : g ≠ ba
  ne2 : g ≠ bs
  ne3 : ba ≠ bs
  apart : ∀ k, vj.ownBlock = some k → k ≠ g ∧ k ≠ ba ∧ k ≠ bs
  bg : base ≤ g
  bb : base ≤ ba
  bz : base ≤ bs

/-- The blocks that are a union's. -/
def Foot (g ba bs : Nat) (vj : Value) (k : Nat) : Prop := k = g ∨ k = ba ∨ k = bs ∨ vj.ownBlock = some k

theorem own_heap {w : World} {base : Nat} {e : TypeId} {v : Value} {n : Nat} {xs : List Value} (h : w.ownsRow base e 1 v n xs) {k : Nat} (hk : v.ownBlock = some k) : base ≤ k ∧ k < w.heap.size := by
  rcases h.2 with ⟨h0, _⟩ | ⟨g', cap, cur, hv, h1, h2, h3⟩
  · rw [h0] at hk; cases hk
  · rw [hv] at hk
    cases hk
    exact ⟨h1, (Array.getElem?_eq_some_iff.1 h2).1⟩

theorem ownsRow_keep {w w' : World} {base : Nat} {e : TypeId} {v : Value} {n : Nat} {xs : List Value} (h : w.ownsRow base e 1 v n xs) (hb : ∀ g, v.ownBlock = some g → w'.heap[g]? = w.heap[g]?) : w'.ownsRow base e 1 v n xs := by
  refine ⟨h.1, ?_⟩
  rcases h.2 with h0 | ⟨g, cap, cur, hv, h1, h2, h3⟩
  · exact Or.inl h0
  · refine Or.inr ⟨g, cap, cur, hv, h1, ?_, h3⟩
    rw [hb g (by rw [hv]; rfl)]; exact h2

theorem own_form {w : World} {base : Nat} {e : TypeId} {v : Value} {n : Nat} {xs : List Value} (h : w.ownsRow base e 1 v n xs) : ∃ a c, v = .slice a n c := by
  rcases h.2 with ⟨rfl, rfl⟩ | ⟨g, cap, cur, rfl, _⟩
  · exact ⟨none, 0, rfl⟩
  · exact ⟨_, cap, rfl⟩

theorem Lays.lt {base n : Nat} {w : World} {g ba bs : Nat} {vj : Value} {L : List (Nat × Nat)} (h : Lays base n w g ba bs vj L) {k : Nat} (hk : Foot g ba bs vj k) : k < w.heap.size ∧ base ≤ k := by
  rcases hk with rfl | rfl | rfl | hk
  · exact ⟨h.st.lt, h.bg⟩
  · exact ⟨h.above.lt, h.bb⟩
  · exact ⟨h.size.lt, h.bz⟩
  · exact ⟨(own_heap h.joined hk).2, (own_heap h.joined hk).1⟩

theorem Lays.keep {base n : Nat} {w w' : World} {g ba bs : Nat} {vj : Value} {L : List (Nat × Nat)} (h : Lays base n w g ba bs vj L) (hk : ∀ k, Foot g ba bs vj k → w'.heap[k]? = w.heap[k]?) : Lays base n w' g ba bs vj L :=
  ⟨h.st.of_block (hk _ (Or.inl rfl)), h.above.of_block (hk _ (Or.inr (Or.inl rfl))), h.size.of_block (hk _ (Or.inr (Or.inr (Or.inl rfl)))), ownsRow_keep h.joined (fun k e => hk k (Or.inr (Or.inr (Or.inr e)))),
    h.linked, h.n1, h.n60, h.ne1, h.ne2, h.ne3, h.apart, h.bg, h.bb, h.bz⟩

theorem Lays.below {base n : Nat} {w w' : World} {g ba bs : Nat} {vj : Value} {L : List (Nat × Nat)} (h : Lays base n w g ba bs vj L) (hb : Below w.heap.size w w') : Lays base n w' g ba bs vj L :=
  h.keep fun k hk => hb.block k (h.lt hk).1

/-- A union, its blocks told by F. -/
def UAt (base n : Nat) (w : World) (g : Nat) (F : Nat → Prop) (L : List (Nat × Nat)) : Prop := ∃ ba bs vj, Lays base n w g ba bs vj L ∧ ∀ k, F k ↔ Foot g ba bs vj k

/-- What a step does that may write to the blocks of F alone. -/
structure Moves (F : Nat → Prop) (w w' : World) (F' : Nat → Prop) : Prop where
  os : w'.os = w.os
  tape : w'.tape = w.tape
  output : w'.output = w.output
  size : w.heap.size ≤ w'.heap.size
  block : ∀ k, k < w.heap.size → ¬ F k → w'.heap[k]? = w.heap[k]?
  foot : ∀ k, F' k → F k ∨ w.heap.size ≤ k

theorem Moves.of_below {F : Nat → Prop} {w w' : World} (h : Below w.heap.size w w') : Moves F w w' F := ⟨h.os, h.tape, h.output, h.size, fun k hk _ => h.block k hk, fun _ h => Or.inl h⟩

theorem Moves.trans {F F' F'' : Nat → Prop} {w w' w'' : World} (h : Moves F w w' F') (h' : Moves F' w' w'' F'') : Moves F w w'' F'' :=
  ⟨h'.os.trans h.os, h'.tape.trans h.tape, h'.output.trans h.output, Nat.le_trans h.size h'.size, fun k hk hn => (h'.block k (Nat.lt_of_lt_of_le hk h.size) (fun hf => by
      rcases h.foot k hf with h1 | h1
      · exact hn h1
      · omega)).trans (h.block k hk hn), fun k hk => by
      rcases h'.foot k hk with h1 | h1
      · exact h.foot k h1
      · exact Or.inr (Nat.le_trans h.size h1)⟩

theorem Moves.below {F F' : Nat → Prop} {base : Nat} {w0 w w' : World} (hb : Below base w0 w) (hs : base ≤ w.heap.size) (hF : ∀ k, F k → base ≤ k) (h : Moves F w w' F') : Below base w0 w' :=
  hb.trans ⟨h.os, h.tape, h.output, h.size, fun k hk => h.block k (by omega) (fun e => by have := hF k e; omega)⟩

theorem UAt.lt {base n : Nat} {w : World} {g : Nat} {F : Nat → Prop} {L : List (Nat × Nat)} (h : UAt base n w g F L) {k : Nat} (hk : F k) : k < w.heap.size ∧ base ≤ k := by
  obtain ⟨ba, bs, vj, h, hF⟩ := h
  exact h.lt ((hF k).1 hk)

theorem UAt.below {base n : Nat} {w w' : World} {g : Nat} {F : Nat → Prop} {L : List (Nat × Nat)} (h : UAt base n w g F L) (hb : Below w.heap.size w w') : UAt base n w' g F L := by
  obtain ⟨ba, bs, vj, h, hF⟩ := h
  exact ⟨ba, bs, vj, h.below hb, hF⟩

theorem UAt.linked {base n : Nat} {w : World} {g : Nat} {F : Nat → Prop} {L : List (Nat × Nat)} (h : UAt base n w g F L) : Lnkd n L ∧ 1 ≤ n ∧ n ≤ 60 := by
  obtain ⟨ba, bs, vj, h, hF⟩ := h
  exact ⟨h.linked, h.n1, h.n60⟩

/-- Another union, of other blocks, stays as it is. -/
theorem UAt.apart {base n : Nat} {w w' : World} {g : Nat} {F G F' : Nat → Prop} {L : List (Nat × Nat)} (h : UAt base n w g G L) (hm : Moves F w w' F') (ha : ∀ k, F k → ¬ G k) : UAt base n w' g G L ∧ ∀ k, F' k → ¬ G k := by
  refine ⟨?_, fun k hk hG => ?_⟩
  · obtain ⟨ba, bs, vj, h, hF⟩ := h
    exact ⟨ba, bs, vj, h.keep (fun k hk => hm.block k (h.lt hk).1 (fun hf => ha k hf ((hF k).2 hk))), hF⟩
  · rcases hm.foot k hk with h1 | h1
    · exact ha k h1 hG
    · have := (h.lt hG).1; omega

end Go.Proofs.YtcfemppdeidjmadGreat.Un
