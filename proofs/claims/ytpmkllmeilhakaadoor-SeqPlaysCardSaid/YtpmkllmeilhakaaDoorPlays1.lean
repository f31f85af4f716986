/-
  What holds of the rows that SeqPlays has made so far, and how it is kept when one more comes.
-/
import Derived.Test.YtpmkllmeilhakaaDoorWalks4
import Derived.Test.YtpmkllmeilhakaaDoorWalks5
import Derived.Test.YtpmkllmeilhakaaDoorTold
import Derived.Deep.AppendLies
namespace Go.Proofs.YtpmkllmeilhakaaDoor
open Go.RowKit Go.Deep

/-- A row with its tree, and the list that it is to be. -/
structure El where
  r : Option Addr
  T : BT Int
  a : Option Addr
  n : Nat
  c : Nat

theorem Tag.one {w : World} {b : Nat} {t t' : TypeId} (h : Tag w b t) (h' : Tag w b t') : t = t' := by
  obtain ⟨c, z, h⟩ := h
  obtain ⟨c', z', h'⟩ := h'
  rw [h] at h'
  injection h' with h'
  injection h'

theorem Tag.lt {w : World} {b : Nat} {t : TypeId} (h : Tag w b t) : b < w.heap.size := by
  obtain ⟨c, z, h⟩ := h
  rcases Nat.lt_or_ge b w.heap.size with h1 | h1
  · exact h1
  · rw [Array.getElem?_eq_none h1] at h; cases h

/-- All but the two rows of the statement's own is as it was. -/
structure Kept (base : Nat) (w w' : World) : Prop where
  size : w.heap.size ≤ w'.heap.size
  block : ∀ k, k < w.heap.size → (k < base ∨ (¬ Tag w k 30 ∧ ¬ Tag w k 25)) → w'.heap[k]? = w.heap[k]?

theorem Kept.of_below {base : Nat} {w w' : World} (h : Below w.heap.size w w') : Kept base w w' := ⟨h.size, fun k hk _ => h.block k hk⟩

theorem Kept.of_grown {base : Nat} {w w' : World} {row : Option Nat} (h : w.grownBy w' row) (hr : ∀ g, row = some g → base ≤ g ∧ (Tag w g 30 ∨ Tag w g 25)) : Kept base w w' :=
  ⟨h.size, fun k hk hn => h.block k hk (fun e => by
    obtain ⟨hb, ht⟩ := hr k e.symm
    rcases hn with hn | ⟨h1, h2⟩
    · omega
    · rcases ht with ht | ht
      · exact h1 ht
      · exact h2 ht)⟩

theorem Kept.trans {base : Nat} {w w' w'' : World} (h : Kept base w w') (h' : Kept base w' w'') : Kept base w w'' :=
  ⟨Nat.le_trans h.size h'.size, fun k hk hn => by
    have e := h.block k hk hn
    refine (h'.block k (Nat.lt_of_lt_of_le hk h.size) ?_).trans e
    rcases hn with hn | ⟨h1, h2⟩
    · exact Or.inl hn
    · refine Or.inr ⟨fun ⟨c, z, ht⟩ => h1 ⟨c, z, e.symm.trans ht⟩, fun ⟨c, z, ht⟩ => h2 ⟨c, z, e.symm.trans ht⟩⟩⟩

theorem Kept.cell {base : Nat} {w w' : World} (h : Kept base w w') {b o : Nat} {v : Value} {t : TypeId} (ht : Tag w b t) (h1 : t ≠ 30) (h2 : t ≠ 25) (hc : w.cell? ⟨b, o, none⟩ = some v) : w'.cell? ⟨b, o, none⟩ = some v :=
  (World.cell?_of_block (w := w) (a := ⟨b, o, none⟩) (h.block b ht.lt (Or.inr ⟨fun e => h1 (ht.one e), fun e => h2 (ht.one e)⟩))).trans hc

theorem Kept.tag {base : Nat} {w w' : World} (h : Kept base w w') {b : Nat} {t : TypeId} (ht : Tag w b t) (h1 : t ≠ 30) (h2 : t ≠ 25) : Tag w' b t := by
  have e := h.block b ht.lt (Or.inr ⟨fun e => h1 (ht.one e), fun e => h2 (ht.one e)⟩)
  obtain ⟨c, z, hc⟩ := ht
  exact ⟨c, z, e.trans hc⟩

theorem lies_kept {base : Nat} {w w' : World} (h : Kept base w w') : ∀ {T : BT Int}, Lies w T → Lies w' T
  | .nil, _ => trivial
  | .node b o a l r, ⟨ht, h0, h1, h2, h3, h4, hl, hr⟩ =>
    ⟨h.tag ht (by decide) (by decide), h.cell ht (by decide) (by decide) h0, h.cell ht (by decide) (by decide) h1, h.cell ht (by decide) (by decide) h2, h.cell ht (by decide) (by decide) h3, h.cell ht (by decide) (by decide) h4, lies_kept h hl, lies_kept h hr⟩

theorem At.kept {base : Nat} {w w' : World} {u : Option Addr} {T : BT Int} (h : At w u T) (hk : Kept base w w') : At w' u T := ⟨lies_kept hk h.lies, h.at_⟩

theorem RowAt.kept {base : Nat} {w w' : World} {v : Option Addr} {T : BT Int} (h : RowAt w v T) (hk : Kept base w w') : RowAt w' v T := by
  rcases h.or with h | ⟨b, u, rfl, hc, ha, ht⟩
  · exact ⟨Or.inl h⟩
  · exact ⟨Or.inr ⟨b, u, rfl, hk.cell ht (by decide) (by decide) hc, ha.kept hk, hk.tag ht (by decide) (by decide)⟩⟩

/-- Where a list of the statement's lies: it was there, or it is a row of numbers of its own. -/
def Own (base : Nat) (w : World) (a : Option Addr) (n : Nat) : Prop := ∀ b o, a = some ⟨b, o, none⟩ → n = 0 ∨ b < base ∨ Tag w b 3

theorem ints_kept {base : Nat} {w w' : World} {a : Option Addr} {n c : Nat} {xs : List Int} (h : IntsAt w a n c xs) (ho : Own base w a n) (hk : Kept base w w') : IntsAt w' a n c xs ∧ Own base w' a n := by
  refine ⟨⟨h.len, h.le, fun i hi => ?_⟩, fun b o e => ?_⟩
  · obtain ⟨b, o, e, hc⟩ := h.cell i hi
    refine ⟨b, o, e, ?_⟩
    rcases ho b o e with h0 | h0 | h0
    · omega
    · exact (World.cell?_of_block (w := w) (a := ⟨b, o + i, none⟩) (hk.block b (World.block_lt_of_cell? _ _ hc) (Or.inl h0))).trans hc
    · exact hk.cell h0 (by decide) (by decide) hc
  · rcases ho b o e with h0 | h0 | h0
    · exact Or.inl h0
    · exact Or.inr (Or.inl h0)
    · exact Or.inr (Or.inr (hk.tag h0 (by decide) (by decide)))

/-- One row is what it is to be. -/
structure ElOk (base : Nat) (w : World) (x : El) : Prop where
  row : RowAt w x.r x.T
  bal : Bal x.T
  sz : sz x.T ≤ 400
  ints : IntsAt w x.a x.n x.c (items x.T)
  cap : x.c ≤ maxLen
  own : Own base w x.a x.n

theorem ElOk.kept {base : Nat} {w w' : World} {x : El} (h : ElOk base w x) (hk : Kept base w w') : ElOk base w' x :=
  ⟨h.row.kept hk, h.bal, h.sz, (ints_kept h.ints h.own hk).1, h.cap, (ints_kept h.ints h.own hk).2⟩

/-- What holds between two rounds: rows and lists stand side by side, and each row is its list. -/
structure Stand (w0 w : World) (vr vw : Value) (es : List El) : Prop where
  below : Below w0.heap.size w0 w
  rows : w.ownsRow w0.heap.size 30 1 vr es.length (es.map fun x => .pointer x.r)
  want : w.ownsRow w0.heap.size 25 1 vw es.length (es.map fun x => .slice x.a x.n x.c)
  ok : ∀ x ∈ es, ElOk w0.heap.size w x
  err : ErrType w

theorem ownsRow_keep {w w' : World} {base : Nat} {e : TypeId} {v : Value} {n : Nat} {xs : List Value} (h : w.ownsRow base e 1 v n xs) (hb : ∀ g, v.ownBlock = some g → w'.heap[g]? = w.heap[g]?) : w'.ownsRow base e 1 v n xs := by
  refine ⟨h.1, ?_⟩
  rcases h.2 with h0 | ⟨g, cap, cur, hv, h1, h2, h3⟩
  · exact Or.inl h0
  · refine Or.inr ⟨g, cap, cur, hv, h1, ?_, h3⟩
    rw [hb g (by rw [hv]; rfl)]; exact h2

theorem own_tag {w : World} {base : Nat} {e : TypeId} {v : Value} {n : Nat} {xs : List Value} (h : w.ownsRow base e 1 v n xs) {g : Nat} (hg : v.ownBlock = some g) : base ≤ g ∧ Tag w g e := by
  rcases h.2 with ⟨h0, _⟩ | ⟨g', cap, cur, hv, h1, h2, h3⟩
  · rw [h0] at hg; cases hg
  · rw [hv] at hg
    cases hg
    exact ⟨h1, cur, _, h2⟩

theorem ownsRow_below {w w' : World} {base : Nat} {e : TypeId} {v : Value} {n : Nat} {xs : List Value} (h : w.ownsRow base e 1 v n xs) (hb : Below w.heap.size w w') : w'.ownsRow base e 1 v n xs :=
  ownsRow_keep h fun _ hg => hb.block _ (own_tag h hg).2.lt

theorem Stand.step {w0 w w' : World} {vr vw : Value} {es : List El} (h : Stand w0 w vr vw es) (hb : Below w.heap.size w w') : Stand w0 w' vr vw es :=
  ⟨below_step h.below hb, ownsRow_below h.rows hb, ownsRow_below h.want hb, fun x hx => (h.ok x hx).kept (Kept.of_below hb), h.err.below hb⟩

/-- Cell j of an own row. -/
theorem own_cell {w : World} {base : Nat} {e : TypeId} {v : Value} {n : Nat} {xs : List Value} (h : w.ownsRow base e 1 v n xs) (hn : 0 < n) :
    ∃ g cap, v = .slice (some ⟨g, 0, none⟩) n cap ∧ n ≤ cap ∧ cap ≤ maxLen ∧ ∀ j u, xs[j]? = some u → w.cell? ⟨g, j, none⟩ = some u := by
  rcases h.2 with ⟨_, h0⟩ | ⟨g, cap, cur, hv, h1, h2, h3, h4, h5, h6⟩
  · omega
  · refine ⟨g, cap, hv, h3, h4, fun j u hu => ?_⟩
    rw [cell_of_row w g j cur e _ h2]
    rw [← h6, Nat.mul_one] at hu
    rw [List.getElem?_take] at hu
    split at hu
    · simpa using hu
    · cases hu

end Go.Proofs.YtpmkllmeilhakaaDoor
