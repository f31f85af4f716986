/-
  The keys of a map of edges, one by one.
-/
import Derived.Test.YtcebfloeikjjcaaGreatDoorMe
import Derived.RangeFuncNested
import Derived.RangeFuncBound
import Derived.RangeFuncCalls
import Derived.RangeFuncLeaves
import Derived.RangeFuncBox
import Derived.Sort.MapsRangeIn
import Derived.Shelf.Abstract
import Derived.Shelf.RegionOpen
import Derived.WalkKit
import Derived.OwnWalkIn
import Derived.TacticsInMore
import Derived.RegionIn
import Derived.LoopNIn
import Derived.LoopIn
namespace Go.Proofs.YtcebfloeikjjcaaGreatDoor
open Go.RowKit Go.Deep Go.Shelf Go.Sort Go.Lib Go.Maps
open Go.RowKit (Below)
set_option linter.unusedVariables false
attribute [local go_sem] Oper.semAt_some

/-- What has come so far: no edge twice; an edge, just if it is one of the map's that is no longer to come. -/
def Coll (E : List (Nat × Nat)) (left : Lit → Bool) (ss : List (Nat × Nat)) : Prop :=
  ss.Nodup ∧ ∀ e, e ∈ ss ↔ e ∈ E ∧ ∀ kl, keyOf Tryz.prog 67 (ev (e.1 : Nat) (e.2 : Nat)) = some kl → left kl = false

theorem Coll.perm {E : List (Nat × Nat)} {left : Lit → Bool} {ss : List (Nat × Nat)} (h : Coll E left ss) (hE : E.Nodup) (hl : ∀ kl, left kl = false) : ss.Perm E := by
  rw [List.perm_ext_iff_of_nodup h.1 hE]
  intro e
  rw [h.2 e]
  exact ⟨fun h => h.1, fun h => ⟨h, fun kl _ => hl kl⟩⟩

theorem Coll.step {E : List (Nat × Nat)} {left : Lit → Bool} {ss : List (Nat × Nat)} (h : Coll E left ss) {e : Nat × Nat} (he : e ∈ E) {kl : Lit} (hk : keyOf Tryz.prog 67 (ev (e.1 : Nat) (e.2 : Nat)) = some kl) (hl : left kl = true) :
    Coll E (fun z => left z && !z.sameKey kl) (ss ++ [e]) := by
  have hn : e ∉ ss := fun hm => by have := ((h.2 e).1 hm).2 kl hk; rw [hl] at this; cases this
  refine ⟨List.nodup_append.2 ⟨h.1, by simp, fun a ha b hb => by simp at hb; subst hb; exact fun e1 => hn (e1 ▸ ha)⟩, fun x => ?_⟩
  rw [List.mem_append, List.mem_singleton, h.2 x]
  constructor
  · rintro (⟨h1, h2⟩ | rfl)
    · exact ⟨h1, fun k hk2 => by show (left k && !k.sameKey kl) = false; rw [h2 k hk2]; rfl⟩
    · exact ⟨he, fun k hk2 => by rw [hk] at hk2; cases hk2; show (left kl && !kl.sameKey kl) = false; rw [WideAt.sameKey_self (Tryz.lawEdge.key hk)]; simp⟩
  · rintro ⟨h1, h2⟩
    by_cases c : x = e
    · exact Or.inr c
    · refine Or.inl ⟨h1, fun k hk2 => ?_⟩
      have : (left k && !k.sameKey kl) = false := h2 k hk2
      have hne : k ≠ kl := fun e1 => by
        subst e1
        have := ev_inj (Tryz.lawEdge.inj hk2 hk)
        exact c (Prod.ext (by omega) (by omega))
      rw [sameKey_ne hne] at this
      simpa using this

set_option maxRecDepth 100000 in
set_option maxHeartbeats 2000000 in
theorem keys_stops {w : World} {n Bm eb : Nat} {D : DataW Unit} {E : List (Nat × Nat)} (hn : 1 ≤ n) (hm : w.cell? ⟨Bm, 0, none⟩ = some (.map (some eb))) (hES : ESet w eb D E) (hE : E.Nodup) (hb : ∀ e ∈ E, e.1 < 1000000 ∧ e.2 < 1000000) :
    SeqStopsK Fence.wide n Tryz.prog 72 #[.pointer (some ⟨Bm, 0, none⟩)] (fun e : Nat × Nat => #[ev (e.1 : Nat) (e.2 : Nat)]) KeepsWalks (fun xs => xs.Perm E) (fun _ => True) E.length w := fun l J Jx W hW hJ hJx hY h0 => by
  have hmW := (hW.cell (p := ⟨Bm, 0, none⟩) (World.block_lt_of_cell? _ _ hm)).trans hm
  have hES' : ESet W eb D E := by
    obtain ⟨m, hown⟩ := hES.own
    exact hES.of_block (hW.block _ hown.lt)
  obtain ⟨nn, hown⟩ := hES'.own
  have hsz := hES'.size
  have hro : Fence.wide.round = none := rfl
  refine callsIn_of_wp Tryz.func72 rfl trivial ?_ hro
  simp only [Tryz.ntmps72, List.size_toArray, List.length_cons, List.length_nil, Nat.reduceAdd, Nat.reduceSub, Array.replicate_succ, Array.replicate_zero, List.push_toArray, List.append_toArray, List.nil_append, List.cons_append]
  gi_wp2_with (first
    | (gi_at_range; refine wpListIn_range_own _ rfl _ 59 rfl 67 72 Tryz.lawEdge Tryz.underlying59 _ eb nn _ rfl hown ?_; intro w0 hrg0 hg0 hs0)
    | gi_in)
  try go_frame
  gi_loopw [3] (fun _ wr => ∃ (left : Lit → Bool) (cnt : Nat) (ss : List (Nat × Nat)), wr.ranges Tryz.prog 67 unitElem eb W.heap.size nn D left cnt ∧ ss.length + cnt ≤ E.length ∧ Coll E left ss ∧ J ss wr)
    (fun _ wr => wr.rangeLeft eb W.heap.size)
  case atStart =>
    refine ⟨_, _, [], hrg0, by rw [hsz]; simp, ⟨List.nodup_nil, fun e => ?_⟩, hJ [] W w0 none h0 hg0 (fun r e => by cases e)⟩
    simp only [List.not_mem_nil, false_iff]
    rintro ⟨he, h2⟩
    obtain ⟨kl, hk⟩ := key_some e.1 e.2 (hb e he).1 (hb e he).2
    have h3 := h2 kl hk
    rw [(hES'.has _ kl hk).2 ⟨e, he, rfl⟩] at h3
    cases h3
  case round =>
    obtain ⟨left, cnt, ss, hrg, hcs, hC, hJs⟩ := hrel
    gi_wp2_with (first
      | (gi_at_next; refine wpListIn_next_ranges _ rfl _ rfl 67 Tryz.lawEdge unitElem (fun x : Int × Int => ev x.1 x.2) id (fun key kl hk => by obtain ⟨a, b, h⟩ := key_form hk; exact ⟨(a, b), h⟩) (fun v _ _ => ⟨v, rfl⟩) eb W.heap.size nn _ _ _ rfl hrg ?_ ?_)
      | gi_in)
    · intro hc0 hl0
      gi_wp2
      go_end0
      exact ⟨⟨_, rfl⟩, Or.inl ⟨ss, hC.perm hE hl0, hJs⟩⟩
    · intro x1 x2 c kl yd yp w2 cnt2 hkey hlk hv hat hrg2 hlt hg2 hs2 hen
      obtain ⟨⟨e1, e2⟩, he, hev⟩ := (hES'.has _ kl hkey).1 (has_true_of_atKey hat)
      obtain ⟨hx1, hx2⟩ := ev_inj hev
      dsimp only at hx1 hx2
      subst hx1
      subst hx2
      have hJ2 : J ss w2 := hJ ss wr w2 (some W.heap.size) hJs hg2 (fun r e => by cases e; exact ⟨Nat.le_refl _, hrg.iter_walk⟩)
      have hJ3 : J ss (w2.alloc (.cells #[.int .i64 (e1 : Int), .int .i64 (e2 : Int)] 67)) := hJ ss w2 _ none hJ2 (World.grownBy_alloc _ _ _) (fun r e => by cases e)
      have hrg3 := hrg2.alloc (.cells #[.int .i64 (e1 : Int), .int .i64 (e2 : Int)] 67)
      obtain ⟨fn, tmps, assign, body, hy, hR⟩ := hY ss (e1, e2) _ hJ3 (by omega)
      have hC2 := hC.step he hkey hlk
      clear hs2
      dsimp only [ev] at hy hen
      gi_wp2
      refine hR.mono ?_
      rintro e W3 (⟨rfl, hJ4, hk3⟩ | ⟨rfl, hJx3⟩)
      · gi_wp2
        have hrg4 := hrg3.of_walks hk3
        go_roundw
        case rel => exact ⟨_, cnt2, ss ++ [(e1, e2)], hrg4, by simp; omega, hC2, hJ4⟩
        case measure => rw [hrg4.left_eq, hrg.left_eq]; exact hlt
      · gi_wp2
        refine bodyPost_ret (results_none rfl _ _ _) rfl ?_
        exact ⟨⟨_, rfl⟩, Or.inr ⟨_, trivial, hJx3⟩⟩

end Go.Proofs.YtcebfloeikjjcaaGreatDoor
