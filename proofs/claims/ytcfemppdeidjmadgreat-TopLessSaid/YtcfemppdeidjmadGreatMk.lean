/-
  What TourCuts asks of a forest: lists that stay through a Link and a Cut; a tree that falls in two; two lists of edges that are one.
  The script that the statements read; the loops of a function by their places.
-/
import Derived.Test.YtcfemppdeidjmadGreatF7
namespace Go.Proofs.YtcfemppdeidjmadGreat
set_option linter.unusedSectionVars false
variable [Inhabited Zed]
open Go.RowKit Go.Deep
set_option linter.unusedVariables false

variable {w w' : World} {L : Pl} {p p' : Nat → Nat} {E E' : List (Nat × Nat)}

theorem link_u (f : FAt w L E p) (a b : Int) :
    Calls Tryz.prog 84 #[.pointer (some ⟨L.g, 0, none⟩), .int .i64 a, .int .i64 b] w fun e w' => ∃ err E' p', e = .returned err ∧ Turn L w w' ∧ FAt w' L E' p' := by
  by_cases h : (0 ≤ a ∧ a < L.n) ∧ 0 ≤ b ∧ b < L.n
  · obtain ⟨x, rfl⟩ := Int.eq_ofNat_of_zero_le h.1.1
    obtain ⟨y, rfl⟩ := Int.eq_ofNat_of_zero_le h.2.1
    by_cases hp : p x = p y
    · refine (link_clash f x y (by omega) (by omega) hp).mono ?_
      rintro e w' ⟨rfl, hb⟩
      exact ⟨_, E, p, rfl, Turn.of_below hb, f.below hb⟩
    · refine (flink_any f x y (by omega) (by omega) hp).mono ?_
      rintro e w' ⟨rfl, t, A, B, p', _, _, hf⟩
      exact ⟨_, _, p', rfl, t, hf⟩
  · refine (link_no f a b h).mono ?_
    rintro e w' ⟨rfl, hb⟩
    exact ⟨_, E, p, rfl, Turn.of_below hb, f.below hb⟩

/-- A list of nodes lies apart from the forest. -/
structure NatsAt (w : World) (L : Pl) (k : Nat) (xs : List Nat) : Prop where
  cell : ∀ j, j < xs.length → w.cell? ⟨k, j, none⟩ = some (.int .i64 (xs.getD j 0 : Nat))
  off : ¬ Foot L k

theorem NatsAt.turn {k : Nat} {xs : List Nat} (h : NatsAt w L k xs) (t : Turn L w w') : NatsAt w' L k xs :=
  ⟨fun j hj => (World.cell?_of_block (w := w) (a := ⟨k, j, none⟩) (t.block k (World.block_lt_of_cell? _ _ (h.cell j hj)) h.off)).trans (h.cell j hj), h.off⟩
theorem NatsAt.below {k : Nat} {xs : List Nat} (h : NatsAt w L k xs) (hb : Below w.heap.size w w') : NatsAt w' L k xs := h.turn (Turn.of_below hb)

theorem NatsAt.ints {k c : Nat} {xs : List Nat} (h : NatsAt w L k xs) (hc : xs.length ≤ c) : IntsAt w (some ⟨k, 0, none⟩) xs.length c (xs.map Int.ofNat) :=
  ⟨List.length_map .., hc, fun i hi => ⟨k, 0, rfl, by
    rw [Nat.zero_add, h.cell i hi]
    congr 2
    rw [List.getD_eq_getElem?_getD, List.getD_eq_getElem?_getD, List.getElem?_map, List.getElem?_eq_getElem hi]; rfl⟩⟩

theorem FAt.foot_lt (f : FAt w L E p) {k : Nat} (hk : Foot L k) : k < w.heap.size := by
  obtain ⟨DW, DE, m, -⟩ := f.mem
  exact m.foot_lt hk

theorem nodes_small (f : FAt w L E p) (a : Nat) : (nodesOf L.n p a).length ≤ 60 := by
  obtain ⟨DW, DE, m, -⟩ := f.mem
  have := (nodesOf_nodup L.n p a).length_le_of_subset (l₂ := List.range L.n) (fun x hx => List.mem_range.2 (mem_nodesOf.1 hx).1)
  have := m.n60
  simp at *
  omega

theorem count_nodup : ∀ {l : List Nat}, l.Nodup → ∀ y, l.count y = if y ∈ l then 1 else 0
  | [], _, y => by simp
  | x :: l, h, y => by
    rw [List.nodup_cons] at h
    rw [List.count_cons, count_nodup h.2 y]
    by_cases e : x = y
    · subst e; simp [h.1]
    · have : y ≠ x := fun e1 => e e1.symm
      simp [e, this]

/-- A tree that is cut falls in two, of which together are its nodes. -/
theorem cut_once {n a b y : Nat} (mo : More E' a b E) (g : Rest E p) (g' : Rest E' p') (hy : y ∈ nodesOf n p (p a)) : (nodesOf n p' (p' a)).count y + (nodesOf n p' (p' b)).count y = 1 := by
  obtain ⟨h1, h2⟩ := mem_nodesOf.1 hy
  have h3 := (mo.joined g' g y).1 h2
  have hap := mo.apart g'
  rw [count_nodup (nodesOf_nodup _ _ _), count_nodup (nodesOf_nodup _ _ _)]
  simp only [mem_nodesOf, h1, true_and]
  rcases h3 with h3 | h3
  · rw [if_pos h3, if_neg (by rw [h3]; exact hap)]
  · rw [if_pos h3, if_neg (by rw [h3]; exact fun e => hap e.symm)]

theorem cut_count {n a b : Nat} (mo : More E' a b E) (g : Rest E p) (g' : Rest E' p') : (nodesOf n p' (p' a)).length + (nodesOf n p' (p' b)).length = (nodesOf n p (p a)).length := by
  rw [nodesOf_len, nodesOf_len, nodesOf_len]
  refine (cnt_or n (fun i _ => ?_) (fun i _ => ?_)).symm
  · rw [Bool.eq_iff_iff]
    simp only [decide_eq_true_eq, Bool.or_eq_true]
    exact mo.joined g' g i
  · have hap := mo.apart g'
    by_cases e : p' i = p' a
    · simp [e, hap]
    · simp [e]

theorem rises_one {A B : List (Nat × Nat)} (h1 : Rises A) (h2 : Rises B) (hp : A.Perm B) : A = B := by
  refine List.Perm.eq_of_pairwise (le := fun x y : Nat × Nat => x.1 < y.1 ∨ x.1 = y.1 ∧ x.2 < y.2) (fun a b _ _ q1 q2 => ?_) h1 h2 hp
  omega

theorem nodes_same {n r : Nat} (h : ∀ i, i < n → p i = p' i) : nodesOf n p r = nodesOf n p' r := by
  unfold nodesOf
  refine List.filter_congr fun x hx => ?_
  rw [h x (List.mem_range.1 hx)]

theorem neg_tmod_lt (c : Int) (n : Nat) (h : c < 0) (hn : 0 < n) : ∃ k : Nat, k < n ∧ -(c + 1).tmod (n : Int) = (k : Int) := by
  obtain ⟨m, hm⟩ : ∃ m : Nat, c + 1 = -(m : Int) := ⟨(-(c + 1)).toNat, by omega⟩
  refine ⟨m % n, Nat.mod_lt _ hn, ?_⟩
  rw [hm, Int.neg_tmod, Int.neg_neg, Int.tmod_eq_emod_of_nonneg (by omega)]
  exact (Int.natCast_emod m n).symm

theorem emod_lt (c : Int) (n : Nat) (h : 0 ≤ c) (hn : 0 < n) : ∃ k : Nat, k < n ∧ c % (n : Int) = (k : Int) := by
  obtain ⟨m, rfl⟩ := Int.eq_ofNat_of_zero_le h
  exact ⟨m % n, Nat.mod_lt _ hn, (Int.natCast_emod m n).symm⟩

end Go.Proofs.YtcfemppdeidjmadGreat

namespace Go.Proofs.YtcfemppdeidjmadGreat
set_option linter.unusedSectionVars false
variable [Inhabited Zed]
open Go.RowKit Go.Deep
set_option linter.unusedVariables false

/-- The script's pairs, us they lie in memory. -/
def ScriptAt (w : World) (a : Option Addr) (n : Nat) (f : Nat → Int × Int) : Prop :=
  ∀ i, i < n → ∃ b o, a = some ⟨b, o, none⟩ ∧ w.cell? ⟨b, o + i * 4 + 1, none⟩ = some (.int .i64 (f i).1) ∧ w.cell? ⟨b, o + i * 4 + 2, none⟩ = some (.int .i64 (f i).2)

/-- All loops of a code, the outer ones ahead of the inner ones. -/
def loopsOf : Code → List Code
  | .loop c => c :: loopsOf c
  | .seq a b => loopsOf a ++ loopsOf b
  | .block _ c => loopsOf c
  | .scope c => loopsOf c
  | .cond _ a b => loopsOf a ++ loopsOf b
  | _ => []

/-- A loop of a function, by its place. -/
def loopAt (f : Func) (k : Nat) : Code := ((f.body.map loopsOf).getD []).getD k .skip

/-- Some forest, made since w0. -/
structure TW (w0 : World) (L : Pl) (w : World) : Prop where
  f : ∃ E p, FAt w L E p
  below : Below w0.heap.size w0 w
  foot : ∀ k, Foot L k → w0.heap.size ≤ k

/-- A forest, and its edges' list beside it. -/
structure MW (w0 : World) (L : Pl) (E : List (Nat × Nat)) (p : Nat → Nat) (a : Option Addr) (w : World) : Prop where
  f : FAt w L E p
  below : Below w0.heap.size w0 w
  foot : ∀ k, Foot L k → w0.heap.size ≤ k
  list : EdgesAt w a E
  off : ∀ b, a = some ⟨b, 0, none⟩ → ¬ Foot L b

theorem MW.step {w0 : World} {L : Pl} {E : List (Nat × Nat)} {p : Nat → Nat} {a : Option Addr} {w w' : World} (h : MW w0 L E p a w) (hb : Below w.heap.size w w') : MW w0 L E p a w' :=
  ⟨h.f.below hb, h.below.trans (hb.mono h.below.size), h.foot, h.list.below hb, h.off⟩

theorem EdgesAt.turn {w w' : World} {L : Pl} {E : List (Nat × Nat)} {a : Option Addr} (h : EdgesAt w a E) (ho : ∀ b, a = some ⟨b, 0, none⟩ → ¬ Foot L b) (t : Turn L w w') : EdgesAt w' a E :=
  ⟨fun i hi => by
    obtain ⟨b, e, h1, h2⟩ := h.cell i hi
    have hl := t.block b (World.block_lt_of_cell? _ _ h1) (ho b e)
    exact ⟨b, e, (World.cell?_of_block (w := w) (a := ⟨b, i * 2, none⟩) hl).trans h1, (World.cell?_of_block (w := w) (a := ⟨b, i * 2 + 1, none⟩) hl).trans h2⟩⟩

/-- Behind a Cut: the forest, the edges' list, the edge, three lists of nodes. -/
structure CW (w0 : World) (L : Pl) (E E' : List (Nat × Nat)) (p' : Nat → Nat) (a : Option Addr) (bx x1 x2 kw ka kb : Nat) (ws us vs : List Nat) (w : World) : Prop where
  f : FAt w L E' p'
  below : Below w0.heap.size w0 w
  foot : ∀ k, Foot L k → w0.heap.size ≤ k
  list : EdgesAt w a E
  off : ∀ b, a = some ⟨b, 0, none⟩ → ¬ Foot L b
  e1 : w.cell? ⟨bx, 0, none⟩ = some (.int .i64 (x1 : Int))
  e2 : w.cell? ⟨bx, 1, none⟩ = some (.int .i64 (x2 : Int))
  xoff : ¬ Foot L bx
  was : NatsAt w L kw ws
  one : NatsAt w L ka us
  two : NatsAt w L kb vs

theorem CW.step {w0 : World} {L : Pl} {E E' : List (Nat × Nat)} {p' : Nat → Nat} {a : Option Addr} {bx x1 x2 kw ka kb : Nat} {ws us vs : List Nat} {w w' : World} (h : CW w0 L E E' p' a bx x1 x2 kw ka kb ws us vs w) (hb : Below w.heap.size w w') : CW w0 L E E' p' a bx x1 x2 kw ka kb ws us vs w' :=
  ⟨h.f.below hb, h.below.trans (hb.mono h.below.size), h.foot, h.list.below hb, h.off, cell_keep hb h.e1, cell_keep hb h.e2, h.xoff, h.was.below hb, h.one.below hb, h.two.below hb⟩

theorem CW.drew {w0 : World} {L : Pl} {E E' : List (Nat × Nat)} {p' : Nat → Nat} {a : Option Addr} {bx x1 x2 kw ka kb : Nat} {ws us vs : List Nat} {w : World} (h : CW w0 L E E' p' a bx x1 x2 kw ka kb ws us vs w) : CW w0 L E E' p' a bx x1 x2 kw ka kb ws us vs w.drew := h.step (Below.refl _ _).drew

theorem take_count (l : List Nat) (m y : Nat) (h : m < l.length) : (l.take (m + 1)).count y = (l.take m).count y + if l.getD m 0 = y then 1 else 0 := by
  rw [List.take_add_one, List.getElem?_eq_getElem h, List.count_append, List.getD_eq_getElem?_getD, List.getElem?_eq_getElem h]
  simp [List.count_singleton]

end Go.Proofs.YtcfemppdeidjmadGreat
