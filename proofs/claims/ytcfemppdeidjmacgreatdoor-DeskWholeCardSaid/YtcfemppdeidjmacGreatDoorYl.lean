/-
  Lists of edges and answers that stand beside a desk.
-/
import Derived.Test.YtcfemppdeidjmacGreatDoorF21
import Derived.Test.YtcfemppdeidjmacGreatDoorF20
import Derived.Test.YtcfemppdeidjmacGreatDoorTold
namespace Go.Proofs.YtcfemppdeidjmacGreatDoor.Ds
open Go.RowKit Go.Deep Go.Proofs.YtcfemppdeidjmacGreatDoor.Br
open Go.Proofs.YtcfemppdeidjmacGreatDoor.Dk (EvAt NumAt ScAt Stp StpAt Er Same)
open Go.Proofs.YtcfemppdeidjmacGreatDoor.Sk (SW Apart)
open Go.RowKit (Below)
set_option linter.unusedVariables false

variable {w w' wr : World} {D : DFace} {B n t : Nat} {d k : Value} {A S : List (Nat × Nat)} {g : Option Nat} {X : Nat → Prop} {a : Option Addr} {m c : Nat} {f : Nat → Stp}

/-- A list of edges that the statement keeps. -/
structure Ls (w wr : World) (X : Nat → Prop) (a : Option Addr) (N c : Nat) (A : List (Nat × Nat)) : Prop where
  ap : Ap w wr X a A
  len : A.length = N
  le : N ≤ c
  max : c ≤ maxLen
theorem Ls.same {N : Nat} (h : Ls w wr X a N c A) (hB : Below w.heap.size w wr) (hB2 : Below w.heap.size w w') (hS : Same X wr w') : Ls w w' X a N c A := ⟨h.ap.same hB hB2 hS, h.len, h.le, h.max⟩
theorem Ls.more {N : Nat} {Y : Nat → Prop} (h : Ls w wr X a N c A) (hY : ∀ b, X b → Y b) : Ls w wr Y a N c A := ⟨h.ap.more hY, h.len, h.le, h.max⟩
theorem Ls.below {N : Nat} (h : Ls w wr X a N c A) (hb : Below wr.heap.size wr w') : Ls w w' X a N c A := ⟨⟨h.ap.edges.below hb, h.ap.apart⟩, h.len, h.le, h.max⟩

theorem ev_apart {f : Nat → Ev} (h : EvAt w a m f) (hm : 0 < m) : Apart w X a := fun b o e => Or.inl (by
  obtain ⟨b', o', e', hc, _⟩ := h 0 hm
  rw [e] at e'
  simp only [Option.some.injEq, Addr.mk.injEq, and_true] at e'
  have := World.block_lt_of_cell? _ _ hc
  simp at this
  omega)
theorem BlAt.same {a : Option Addr} {l : List Bool} (h : BlAt wr a l) (hS : Same X wr w') (hX : l ≠ [] → ∀ b o, a = some ⟨b, o, none⟩ → X b) : BlAt w' a l := fun i hi => by
  obtain ⟨b, o, e, hc⟩ := h i hi
  exact ⟨b, o, e, (World.cell?_of_block (w := wr) (a := ⟨b, o + i, none⟩) (hS b (hX (fun q => by rw [q] at hi; cases hi) b o e))).trans hc⟩
theorem One.len {e : Ev} {A' : List (Nat × Nat)} {o : List Bool} (h : One n A e 0 A' o) : o.length ≤ 1 := by
  rcases h with ⟨_, h⟩ | ⟨_, _, h⟩ | ⟨_, _, _, h⟩ | ⟨_, _, _, _, h⟩ | ⟨_, _, _, _, _, _, _, rfl⟩ | ⟨_, _, h⟩ | ⟨_, _, _, _, _, rfl⟩ | ⟨_, _, _, q, _, rfl⟩
  · omega
  · omega
  · omega
  · omega
  · exact Nat.zero_le _
  · omega
  · exact Nat.zero_le _
  · exact Nat.le_refl _
theorem All.len : ∀ {l : List Ev} {A A' : List (Nat × Nat)} {o : List Bool}, All n l A 0 A' o → o.length ≤ l.length
  | [], A, A', o, ⟨_, _, h⟩ => by rw [h]; exact Nat.le_refl _
  | e :: r, A, A', o, h => by
    rcases h with ⟨h1, _⟩ | ⟨B, o1, o2, h1, h2, h3⟩
    · exact absurd rfl h1
    · have g1 := h1.len
      have g2 := h2.len
      rw [h3, List.length_append, List.length_cons]
      omega
theorem Does.len {l : List Ev} {err : Int} {A' : List (Nat × Nat)} {o : List Bool} (h : Does n A l err A' o) : o.length ≤ 120 := by
  rcases h with ⟨_, _, _, rfl⟩ | ⟨h1, ⟨_, _, rfl, _⟩ | ⟨_, h⟩⟩
  · exact Nat.zero_le _
  · exact Nat.zero_le _
  · have := h.len; omega
theorem er_is {v : Value} {x : Int} (h : Er v x) : ErrIs v x := ⟨h.imp id fun q => q.1⟩
theorem bl_at {a : Option Addr} {l : List Bool} {M : Nat} (h : BlAt w a l) (hM : l.length = M) : As.BoolsAt w a M l := ⟨hM, fun i hi => h i (by omega)⟩

end Go.Proofs.YtcfemppdeidjmacGreatDoor.Ds
