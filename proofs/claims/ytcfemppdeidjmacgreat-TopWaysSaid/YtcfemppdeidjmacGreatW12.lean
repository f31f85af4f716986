/-
  Tg1 Tg2
-/
import Derived.RangeFuncNested
import Derived.RangeFuncBound
import Derived.RangeFuncCalls
import Derived.RangeFuncLeaves
import Derived.RangeFuncBox
import Derived.Sort.MapsRangeIn
import Derived.Shelf.Abstract
import Derived.Shelf.RegionOpen
import Derived.WalkKit
import Derived.OwnWalkIn
import Derived.TacticsInMore
import Derived.RegionIn
import Derived.LoopNIn
import Derived.LoopIn
import Derived.Test.YtcfemppdeidjmacGreatW9
import Derived.Maps.AppendAt
namespace Go.Proofs.YtcfemppdeidjmacGreat
set_option linter.unusedSectionVars false
variable [Inhabited Zed]
open Go.RowKit Go.Deep Go.Shelf Go.Sort Go.Lib Go.Maps
open Go.RowKit (Below)
set_option linter.unusedVariables false
attribute [local go_sem] Oper.semAt_some

def Coll (E : List (Nat × Nat)) (left : Lit → Bool) (ss : List (Nat × Nat)) : Prop :=
  ss.Nodup ∧ ∀ e, e ∈ ss ↔ e ∈ E ∧ ∀ kl, keyOf Tryz.prog 44 (ev (e.1 : Nat) (e.2 : Nat)) = some kl → left kl = false

theorem Coll.perm {E : List (Nat × Nat)} {left : Lit → Bool} {ss : List (Nat × Nat)} (h : Coll E left ss) (hE : E.Nodup) (hl : ∀ kl, left kl = false) : ss.Perm E := by
  rw [List.perm_ext_iff_of_nodup h.1 hE]
  intro e
  rw [h.2 e]
  exact ⟨fun h => h.1, fun h => ⟨h, fun kl _ => hl kl⟩⟩

theorem Coll.step {E : List (Nat × Nat)} {left : Lit → Bool} {ss : List (Nat × Nat)} (h : Coll E left ss) {e : Nat × Nat} (he : e ∈ E) {kl : Lit} (hk : keyOf Tryz.prog 44 (ev (e.1 : Nat) (e.2 : Nat)) = some kl) (hl : left kl = true) :
    Coll E (fun z => left z && !z.sameKey kl) (ss ++ [e]) := by
  have hn : e ∉ ss := fun hm => by have := ((h.2 e).1 hm).2 kl hk; rw [hl] at this; cases this
  refine ⟨List.nodup_append.2 ⟨h.1, by simp, fun a ha b hb => by simp at hb; subst hb; exact fun e1 => hn (e1 ▸ ha)⟩, fun x => ?_⟩
  rw [List.mem_append, List.mem_singleton, h.2 x]
  constructor
  · rintro (⟨h1, h2⟩ | rfl)
    · exact ⟨h1, fun k hk2 => by show (left k && !k.sameKey kl) = false; rw [h2 k hk2]; rfl⟩
    · exact ⟨he, fun k hk2 => by rw [hk] at hk2; cases hk2; show (left kl && !kl.sameKey kl) = false; rw [WideAt.sameKey_self (Tryz.lawEdge.key hk)]; simp⟩
  · rintro ⟨h1, h2⟩
    by_cases c : x = e
    · exact Or.inr c
    · refine Or.inl ⟨h1, fun k hk2 => ?_⟩
      have : (left k && !k.sameKey kl) = false := h2 k hk2
      have hne : k ≠ kl := fun e1 => by
        subst e1
        have := ev_inj (Tryz.lawEdge.inj hk2 hk)
        exact c (Prod.ext (by omega) (by omega))
      rw [sameKey_ne hne] at this
      simpa using this

set_option maxRecDepth 100000 in
set_option maxHeartbeats 2000000 in
theorem keys_stops {w : World} {n Bm eb : Nat} {D : DataW Unit} {E : List (Nat × Nat)} (hn : 1 ≤ n) (hm : w.cell? ⟨Bm, 0, none⟩ = some (.map (some eb))) (hES : ESet w eb D E) (hE : E.Nodup) (hb : ∀ e ∈ E, e.1 < 1000000 ∧ e.2 < 1000000) :
    SeqStopsK Fence.wide n Tryz.prog 103 #[.pointer (some ⟨Bm, 0, none⟩)] (fun e : Nat × Nat => #[ev (e.1 : Nat) (e.2 : Nat)]) KeepsWalks (fun xs => xs.Perm E) (fun _ => True) E.length w := fun l J Jx W hW hJ hJx hY h0 => by
  have hmW := (hW.cell (p := ⟨Bm, 0, none⟩) (World.block_lt_of_cell? _ _ hm)).trans hm
  have hES' : ESet W eb D E := by
    obtain ⟨m, hown⟩ := hES.own
    exact hES.of_block (hW.block _ hown.lt)
  obtain ⟨nn, hown⟩ := hES'.own
  have hsz := hES'.size
  have hro : Fence.wide.round = none := rfl
  refine callsIn_of_wp Tryz.func103 rfl trivial ?_ hro
  simp only [Tryz.ntmps103, List.size_toArray, List.length_cons, List.length_nil, Nat.reduceAdd, Nat.reduceSub, Array.replicate_succ, Array.replicate_zero, List.push_toArray, List.append_toArray, List.nil_append, List.cons_append]
  gi_wp2_with (first
    | (gi_at_range; refine wpListIn_range_own _ rfl _ 106 rfl 44 115 Tryz.lawEdge Tryz.underlying106 _ eb nn _ rfl hown ?_; intro w0 hrg0 hg0 hs0)
    | gi_in)
  try go_frame
  gi_loopw [3] (fun _ wr => ∃ (left : Lit → Bool) (cnt : Nat) (ss : List (Nat × Nat)), wr.ranges Tryz.prog 44 unitElem eb W.heap.size nn D left cnt ∧ ss.length + cnt ≤ E.length ∧ Coll E left ss ∧ J ss wr)
    (fun _ wr => wr.rangeLeft eb W.heap.size)
  case atStart =>
    refine ⟨_, _, [], hrg0, by rw [hsz]; simp, ⟨List.nodup_nil, fun e => ?_⟩, hJ [] W w0 none h0 hg0 (fun r e => by cases e)⟩
    simp only [List.not_mem_nil, false_iff]
    rintro ⟨he, h2⟩
    obtain ⟨kl, hk⟩ := key_some e.1 e.2 (hb e he).1 (hb e he).2
    have h3 := h2 kl hk
    rw [(hES'.has _ kl hk).2 ⟨e, he, rfl⟩] at h3
    cases h3
  case round =>
    obtain ⟨left, cnt, ss, hrg, hcs, hC, hJs⟩ := hrel
    gi_wp2_with (first
      | (gi_at_next; refine wpListIn_next_ranges _ rfl _ rfl 44 Tryz.lawEdge unitElem (fun x : Int × Int => ev x.1 x.2) id (fun key kl hk => by obtain ⟨a, b, h⟩ := key_form hk; exact ⟨(a, b), h⟩) (fun v _ _ => ⟨v, rfl⟩) eb W.heap.size nn _ _ _ rfl hrg ?_ ?_)
      | gi_in)
    · intro hc0 hl0
      gi_wp2
      go_end0
      exact ⟨⟨_, rfl⟩, Or.inl ⟨ss, hC.perm hE hl0, hJs⟩⟩
    · intro x1 x2 c kl yd yp w2 cnt2 hkey hlk hv hat hrg2 hlt hg2 hs2 hen
      obtain ⟨⟨e1, e2⟩, he, hev⟩ := (hES'.has _ kl hkey).1 (has_true_of_atKey hat)
      obtain ⟨hx1, hx2⟩ := ev_inj hev
      dsimp only at hx1 hx2
      subst hx1
      subst hx2
      have hJ2 : J ss w2 := hJ ss wr w2 (some W.heap.size) hJs hg2 (fun r e => by cases e; exact ⟨Nat.le_refl _, hrg.iter_walk⟩)
      have hJ3 : J ss (w2.alloc (.cells #[.int .i64 (e1 : Int), .int .i64 (e2 : Int)] 44)) := hJ ss w2 _ none hJ2 (World.grownBy_alloc _ _ _) (fun r e => by cases e)
      have hrg3 := hrg2.alloc (.cells #[.int .i64 (e1 : Int), .int .i64 (e2 : Int)] 44)
      obtain ⟨fn, tmps, assign, body, hy, hR⟩ := hY ss (e1, e2) _ hJ3 (by omega)
      have hC2 := hC.step he hkey hlk
      clear hs2
      dsimp only [ev] at hy hen
      gi_wp2
      refine hR.mono ?_
      rintro e W3 (⟨rfl, hJ4, hk3⟩ | ⟨rfl, hJx3⟩)
      · gi_wp2
        have hrg4 := hrg3.of_walks hk3
        go_roundw
        case rel => exact ⟨_, cnt2, ss ++ [(e1, e2)], hrg4, by simp; omega, hC2, hJ4⟩
        case measure => rw [hrg4.left_eq, hrg.left_eq]; exact hlt
      · gi_wp2
        refine bodyPost_ret (results_none rfl _ _ _) rfl ?_
        exact ⟨⟨_, rfl⟩, Or.inr ⟨_, trivial, hJx3⟩⟩

end Go.Proofs.YtcfemppdeidjmacGreat

namespace Go.Proofs.YtcfemppdeidjmacGreat
set_option linter.unusedSectionVars false
variable [Inhabited Zed]
open Go.RowKit Go.Deep Go.Shelf Go.Sort Go.Lib Go.Maps
open Go.RowKit (Below)
set_option linter.unusedVariables false
attribute [local go_sem] Oper.semAt_some

def two (e : Nat × Nat) : List Value := [.int .i64 (e.1 : Int), .int .i64 (e.2 : Int)]
def twos (l : List (Nat × Nat)) : List Value := l.flatMap two

theorem twos_snoc (l : List (Nat × Nat)) (e : Nat × Nat) : twos (l ++ [e]) = twos l ++ two e := by simp [twos]

set_option maxRecDepth 1000000 in
theorem Tryz.infoEdge : (Tryz.prog.info? 44).map (fun i => (i.zero, i.size, i.bytes)) = some (some (.agg #[.int .i64 0, .int .i64 0]), 2, 16) := by kernel_rfl

set_option maxRecDepth 100000 in
set_option maxHeartbeats 4000000 in
theorem appendSeq_in {n Bm N : Nat} (hn : 6 ≤ n) {S : List (Nat × Nat) → Prop} (hN : N ≤ 1000000) {w : World} (hseq : SeqStopsK Fence.wide (n - 1) Tryz.prog 103 #[.pointer (some ⟨Bm, 0, none⟩)] (fun e : Nat × Nat => #[ev (e.1 : Nat) (e.2 : Nat)]) KeepsWalks S (fun _ => True) N w) :
    CallsIn Fence.wide n Tryz.prog 139 #[.slice none 0 0, .func (.func 103) #[] #[.pointer (some ⟨Bm, 0, none⟩)]] w fun e w' => ∃ (v : Value) (ss : List (Nat × Nat)), e = .returned v ∧ S ss ∧ w'.ownsRow w.heap.size 44 2 v ss.length (twos ss) ∧ (v = .slice none 0 0 ↔ ss = []) ∧ RowKit.Below w.heap.size w w' := by
  have h1 : 1 ≤ n := by omega
  have hro : Fence.wide.round = none := rfl
  obtain ⟨z0, hi, hz0, hz1, hz2⟩ := info_parts Tryz.infoEdge
  refine callsIn_of_wp_marks Tryz.func139 rfl trivial ?_ hro
  simp only [Tryz.ntmps139, List.size_toArray, List.length_cons, List.length_nil, Nat.reduceAdd, Nat.reduceSub, Array.replicate_succ, Array.replicate_zero, List.push_toArray, List.append_toArray, List.nil_append, List.cons_append]
  gi_wp2
  have bS := Boxed.new w 31 (.slice none 0 0)
  have hB0 : RowKit.Below w.heap.size w (w.alloc (.cells #[.slice none 0 0] 31)) := (RowKit.Below.refl _ w).alloc (Nat.le_refl _) _
  have hsz : (w.alloc (.cells #[.slice none 0 0] 31)).heap.size = w.heap.size + 1 := by simp
  obtain ⟨W0, hW0⟩ : ∃ W0, w.alloc (.cells #[.slice none 0 0] 31) = W0 := ⟨_, rfl⟩
  rw [hW0] at bS hB0 hsz ⊢
  clear hW0
  refine wpIn_rangeFunc_ownH hro h1 (gf := 103) (lb := #[.pointer (some ⟨Bm, 0, none⟩)]) rfl trivial (enters_of Tryz.func103 (by kernel_rfl) rfl)
    hseq walksK_t walksK_b hB0 (fun _ => rfl)
    (fun pre W => (∃ v, Boxed W w.heap.size 31 v ∧ W.ownsRow w.heap.size 44 2 v pre.length (twos pre) ∧ (v = .slice none 0 0 ↔ pre = [])) ∧ RowKit.Below w.heap.size w W)
    (fun _ _ _ => False)
    (OwnFrom.and (Own.from (holdsRow_own w.heap.size w.heap.size 31 44 2 (fun pre => pre.length) (fun pre => twos pre) (fun pre v => (v = .slice none 0 0 ↔ pre = []))) _) (ownFrom_below (Nat.le_refl _) (by omega)))
    (fun _ _ _ _ _ hs _ _ => hs)
    ⟨⟨_, bS, World.ownsRow_nil .., by simp⟩, hB0⟩
    (fun x a' W => ∃ Bx, w.heap.size < Bx ∧ W.heap[Bx]? = some (.cells #[.int .i64 (x.1 : Int), .int .i64 (x.2 : Int)] 44 (0, 0)) ∧ a' = { tmps := #[.slice none 0 0, .func (.func 103) #[] #[.pointer (some ⟨Bm, 0, none⟩)], .pointer (some ⟨w.heap.size, 0, none⟩), undef, .slice none 0 0, .pointer (some ⟨Bx, 0, none⟩), .func (.func 103) #[] #[.pointer (some ⟨Bm, 0, none⟩)], Value.agg #[.int .i64 (x.1 : Int), .int .i64 (x.2 : Int)], undef, undef, undef, undef, undef], defers := [] })
    (fun x a' _ X Y row hs hg hr => by
      obtain ⟨Bx, q1, q2, q3⟩ := hs
      refine ⟨Bx, q1, ?_, q3⟩
      rw [hg.block Bx (Array.getElem?_eq_some_iff.1 q2).1 (fun e => by
        obtain ⟨_, o, ho, hc⟩ := hr Bx e.symm
        rw [q2] at ho
        cases ho
        cases hc)]
      exact q2)
    ?assign ?body ?done ?stop
  case assign =>
    rintro l pre ⟨x1, x2⟩ W K ⟨⟨v, hv, hrow, hnil⟩, hB1⟩ hK
    dsimp only [ev]
    gi_wp2
    have hs1 := hB1.size
    exact hK _ _ ((KeepsOthers.alloc _ _).from _) (KeepsWalks.alloc _ _) ⟨⟨v, hv.alloc _, hrow.alloc _, hnil⟩, hB1.alloc hs1 _⟩ ⟨W.heap.size, hv.lt, World.alloc_heap_new W _, rfl⟩
  case body =>
    rintro l pre ⟨x1, x2⟩ a' W hl ⟨r, hr⟩ ⟨⟨v, hv, hrow, hnil⟩, hB1⟩ ⟨Bx, hBx, bX, rfl⟩ hlt
    have cB := hv.cell
    have fB := hv.frozen
    have x0 : W.cell? ⟨Bx, 0, none⟩ = some (.int .i64 (x1 : Int)) := by simp [World.cell?, bX]
    have x1' : W.cell? ⟨Bx, 1, none⟩ = some (.int .i64 (x2 : Int)) := by simp [World.cell?, bX]
    have hs1 := hB1.size
    have hcn : ∀ j u, (two (x1, x2))[j]? = some u → (W.alloc (.cells #[.int .i64 (x1 : Int), .int .i64 (x2 : Int)] 44)).cell? (Addr.add ⟨W.heap.size, 0, none⟩ j) = some u := fun j u hj => by
      match j, hj with
      | 0, hj => cases hj; simp [Addr.add]
      | 1, hj => cases hj; simp [Addr.add]
    gi_wp2_with (first
      | (gi_at_builtin; refine wpListIn_append_own _ rfl _ _ 31 rfl w.heap.size 44 z0 (.agg #[.int .i64 0, .int .i64 0]) 2 16 Tryz.underlying31 hi hz0 hz1 hz2 rfl (by decide) _ _ _ rfl (hrow.alloc _) ⟨W.heap.size, 0, none⟩ 1 1 (two (x1, x2)) rfl rfl hcn (by simp [two, Value.oneCell']) (by unfold maxLen; omega) (by omega) (by simp; omega) ?_
         intro v' w1 hown' hgrow _
         obtain ⟨g', cap', rfl⟩ := ownsRow_succ hown'
         obtain ⟨hv1, hv2, hr2, hk2, hb2⟩ := hv.appended (by decide) hrow hs1 (Nat.le_refl _) hown' hgrow
         have hc1 := hv1.cell
         have hf1 := hv1.frozen)
      | gi_in)
    refine ⟨hk2.from _, hk2.walks, ⟨_, hv2, ?_, by simp⟩, hB1.trans hb2⟩
    rw [twos_snoc]
    simpa using hr2
  case done =>
    rintro D zs W hD hS ⟨⟨v, hv, hrow, hnil⟩, hB1⟩ hK
    have cS := hv.cell
    gi_wp2
    refine ⟨by simp, .inl ⟨_, _, rfl, run_takeDeferred hK, ?_⟩⟩
    exact ⟨_, results_tmp rfl _ _ _, v, zs, rfl, hS, ownsRow_putObj hrow _ hK rfl, hnil, hB1.trans (belowK_b (w := w) (Nat.le_refl _) W D _ _ (by omega) hK rfl rfl)⟩
  case stop =>
    rintro D c pre W _ _ h _
    exact h.elim

end Go.Proofs.YtcfemppdeidjmacGreat
