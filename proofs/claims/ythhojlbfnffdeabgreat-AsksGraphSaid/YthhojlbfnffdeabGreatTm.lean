/-
  A forest as it lies in memory: where each node is at home, the ways by their least nodes, the edges; what a step does that may write to these alone.
-/
import Derived.Test.YthhojlbfnffdeabGreatWalks5
import Derived.Test.YthhojlbfnffdeabGreatTk
import Derived.WalkKit
import Derived.WalkSpells
import Derived.WalkLawsBesides
import Derived.Deep.RegionHeld3
import Derived.Deep.OwnRows
import Derived.Deep.LoopGhost
import Derived.OneCell
import Derived.BigQuiet
import Derived.BigRegion
import Derived.Below
import Derived.Deep.AppendLies
namespace Go.Proofs.YthhojlbfnffdeabGreat
open Go.RowKit Go.Deep
set_option linter.unusedVariables false

/-- Where a forest lies: its struct, the row of homes, the two maps; how many nodes it has. -/
structure Pl where
  g : Nat
  hb : Nat
  wb : Nat
  eb : Nat
  n : Nat

/-- The struct's three cells. -/
def cells3 (L : Pl) : Nat → Value := fun i => if i = 0 then .slice (some ⟨L.hb, 0, none⟩) L.n L.n else if i = 1 then .map (some L.wb) else .map (some L.eb)

structure Mem (w : World) (L : Pl) (p : Nat → Nat) (DW DE : DataW Unit) (E : List (Nat × Nat)) : Prop where
  st : w.rowIs L.g 74 3 (cells3 L)
  home : w.rowIs L.hb 3 L.n (fun i => .int .i64 (p i : Nat))
  ways : w.ownsMap Tryz.prog 3 ptrElem L.wb L.n DW
  keys : ∀ kl, Maps.has DW kl = true → ∃ r : Nat, r < L.n ∧ kl = .int .i64 (r : Int)
  edges : ESet w L.eb DE E
  n1 : 1 ≤ L.n
  n60 : L.n ≤ 60
  we : L.wb ≠ L.eb

variable {w w' w'' : World} {L : Pl} {p : Nat → Nat} {DW DE : DataW Unit} {E : List (Nat × Nat)}

theorem Mem.c0 (h : Mem w L p DW DE E) : w.cell? ⟨L.g, 0, none⟩ = some (.slice (some ⟨L.hb, 0, none⟩) L.n L.n) := h.st.cell (i := 0) (by omega)
theorem Mem.c1 (h : Mem w L p DW DE E) : w.cell? ⟨L.g, 1, none⟩ = some (.map (some L.wb)) := h.st.cell (i := 1) (by omega)
theorem Mem.c2 (h : Mem w L p DW DE E) : w.cell? ⟨L.g, 2, none⟩ = some (.map (some L.eb)) := h.st.cell (i := 2) (by omega)
theorem Mem.at (h : Mem w L p DW DE E) {i : Nat} (hi : i < L.n) : w.cell? ⟨L.hb, i, none⟩ = some (.int .i64 (p i : Nat)) := h.home.cell hi

/-- A map's block. -/
def IsMapAt (w : World) (b : Nat) : Prop := ∃ es c, w.heap[b]? = some (.map es c)

theorem Mem.wm (h : Mem w L p DW DE E) : IsMapAt w L.wb := by obtain ⟨es, c, hb, _⟩ := h.ways; exact ⟨es, c, hb⟩
theorem Mem.em (h : Mem w L p DW DE E) : IsMapAt w L.eb := by obtain ⟨m, es, c, hb, _⟩ := h.edges.own; exact ⟨es, c, hb⟩

theorem rowIs_tag {b : Nat} {t : TypeId} {n : Nat} {f : Nat → Value} (h : w.rowIs b t n f) : Tag w b t := by
  obtain ⟨c, hb, _⟩ := h; exact ⟨c, _, hb⟩

theorem tag_one {b : Nat} {t t' : TypeId} (h : Tag w b t) (h' : Tag w b t') : t = t' := by
  obtain ⟨c, z, h⟩ := h
  obtain ⟨c', z', h'⟩ := h'
  rw [h] at h'
  injection h' with h'
  injection h'

theorem tag_map {b : Nat} {t : TypeId} (h : Tag w b t) (h' : IsMapAt w b) : False := by
  obtain ⟨c, z, h⟩ := h
  obtain ⟨c', z', h'⟩ := h'
  rw [h] at h'
  cases h'

theorem tag_lt {b : Nat} {t : TypeId} (h : Tag w b t) : b < w.heap.size := by
  obtain ⟨c, z, h⟩ := h
  exact (Array.getElem?_eq_some_iff.1 h).1

theorem map_lt {b : Nat} (h : IsMapAt w b) : b < w.heap.size := by
  obtain ⟨c, z, h⟩ := h
  exact (Array.getElem?_eq_some_iff.1 h).1

/-- The blocks that may be written to. -/
def Foot (L : Pl) (k : Nat) : Prop := k = L.hb ∨ k = L.wb ∨ k = L.eb

theorem Mem.foot_lt (h : Mem w L p DW DE E) {k : Nat} (hk : Foot L k) : k < w.heap.size := by
  rcases hk with rfl | rfl | rfl
  · exact h.home.lt
  · exact map_lt h.wm
  · exact map_lt h.em

/-- A block of another type is none of them. -/
theorem Mem.off (h : Mem w L p DW DE E) {b : Nat} {t : TypeId} (ht : Tag w b t) (hn : t ≠ 3) : ¬ Foot L b := by
  rintro (rfl | rfl | rfl)
  · exact hn (tag_one ht (rowIs_tag h.home))
  · exact tag_map ht h.wm
  · exact tag_map ht h.em

theorem Mem.g_off (h : Mem w L p DW DE E) : ¬ Foot L L.g := h.off (rowIs_tag h.st) (by decide)
theorem Mem.hw (h : Mem w L p DW DE E) : L.hb ≠ L.wb := fun e => tag_map (rowIs_tag h.home) (e ▸ h.wm)
theorem Mem.he (h : Mem w L p DW DE E) : L.hb ≠ L.eb := fun e => tag_map (rowIs_tag h.home) (e ▸ h.em)

/-- What a step does that may write to a forest's blocks alone. -/
structure Turn (L : Pl) (w w' : World) : Prop where
  os : w'.os = w.os
  tape : w'.tape = w.tape
  output : w'.output = w.output
  size : w.heap.size ≤ w'.heap.size
  block : ∀ k, k < w.heap.size → ¬ Foot L k → w'.heap[k]? = w.heap[k]?

theorem Turn.of_below (h : Below w.heap.size w w') : Turn L w w' := ⟨h.os, h.tape, h.output, h.size, fun k hk _ => h.block k hk⟩
theorem Turn.refl (w : World) : Turn L w w := ⟨rfl, rfl, rfl, Nat.le_refl _, fun _ _ _ => rfl⟩

theorem Turn.trans (h : Turn L w w') (h' : Turn L w' w'') : Turn L w w'' :=
  ⟨h'.os.trans h.os, h'.tape.trans h.tape, h'.output.trans h.output, Nat.le_trans h.size h'.size, fun k hk hn => (h'.block k (Nat.lt_of_lt_of_le hk h.size) hn).trans (h.block k hk hn)⟩

theorem Turn.grown {row : Nat} (h : w.grownBy w' (some row)) (hf : Foot L row) : Turn L w w' :=
  ⟨h.os, h.tape, h.output, h.size, fun k hk hn => h.block k hk (fun e => by cases e; exact hn hf)⟩

theorem Turn.below {base : Nat} {w0 : World} (hb : Below base w0 w) (hs : base ≤ w.heap.size) (hF : ∀ k, Foot L k → base ≤ k) (h : Turn L w w') : Below base w0 w' :=
  hb.trans ⟨h.os, h.tape, h.output, h.size, fun k hk => h.block k (by omega) (fun e => by have := hF k e; omega)⟩

theorem Turn.drew (h : Turn L w w') : Turn L w w'.drew := ⟨h.os, h.tape, h.output, h.size, h.block⟩

/-- The same is there behind a step that writes to none of it. -/
theorem Mem.keep (h : Mem w L p DW DE E) (e1 : w'.heap[L.g]? = w.heap[L.g]?) (e2 : w'.heap[L.hb]? = w.heap[L.hb]?) (e3 : w'.heap[L.wb]? = w.heap[L.wb]?) (e4 : w'.heap[L.eb]? = w.heap[L.eb]?) : Mem w' L p DW DE E :=
  ⟨h.st.of_block e1, h.home.of_block e2, own_block h.ways e3, h.keys, h.edges.of_block e4, h.n1, h.n60, h.we⟩

theorem Mem.below (h : Mem w L p DW DE E) (hb : Below w.heap.size w w') : Mem w' L p DW DE E :=
  h.keep (hb.block _ h.st.lt) (hb.block _ h.home.lt) (hb.block _ (map_lt h.wm)) (hb.block _ (map_lt h.em))

theorem Mem.drew (h : Mem w L p DW DE E) : Mem w.drew L p DW DE E := h.below (Below.refl _ _).drew

theorem lies_turn (m : Mem w L p DW DE E) (t : Turn L w w') : ∀ {T : BT Int}, Lies w T → Lies w' T
  | .nil, _ => trivial
  | .node b o a l r, ⟨ht, h0, h1, h2, h3, h4, hl, hr⟩ => by
    have e := t.block b (tag_lt ht) (m.off ht (by decide))
    have c : ∀ i v, w.cell? ⟨b, i, none⟩ = some v → w'.cell? ⟨b, i, none⟩ = some v := fun i v hc => (World.cell?_of_block (w := w) (a := ⟨b, i, none⟩) e).trans hc
    obtain ⟨x, z, hx⟩ := ht
    exact ⟨⟨x, z, e.trans hx⟩, c _ _ h0, c _ _ h1, c _ _ h2, c _ _ h3, c _ _ h4, lies_turn m t hl, lies_turn m t hr⟩

theorem RowAt.turn {v : Option Addr} {T : BT Int} (h : RowAt w v T) (m : Mem w L p DW DE E) (t : Turn L w w') : RowAt w' v T := by
  rcases h.or with h | ⟨b, u, rfl, hc, ha, ht⟩
  · exact ⟨Or.inl h⟩
  · have e := t.block b (tag_lt ht) (m.off ht (by decide))
    obtain ⟨x, z, hx⟩ := ht
    exact ⟨Or.inr ⟨b, u, rfl, (World.cell?_of_block (w := w) (a := ⟨b, 0, none⟩) e).trans hc, ⟨lies_turn m t ha.lies, ha.at_⟩, ⟨x, z, e.trans hx⟩⟩⟩

theorem row_some {v : Option Addr} {T : BT Int} (h : RowAt w v T) (hs : 0 < sz T) : ∃ b, v = some ⟨b, 0, none⟩ := by
  rcases h.or with ⟨_, rfl⟩ | ⟨b, u, rfl, _⟩
  · simp [sz] at hs
  · exact ⟨b, rfl⟩

end Go.Proofs.YthhojlbfnffdeabGreat
