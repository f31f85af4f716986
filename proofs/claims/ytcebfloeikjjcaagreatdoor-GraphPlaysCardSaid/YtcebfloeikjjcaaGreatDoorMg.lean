/-
  Edges are put in order: by the first node, then the second.
  Edges of package tour: all, rising.
-/
import Derived.Test.YtcebfloeikjjcaaGreatDoorTg2
import Derived.Test.YtcebfloeikjjcaaGreatDoorSh2
namespace Go.Proofs.YtcebfloeikjjcaaGreatDoor
open Go.RowKit Go.Deep Go.Shelf Go.Sort Go.Lib Go.Maps
open Go.RowKit (Below)
set_option linter.unusedVariables false

set_option maxHeartbeats 400000 in
theorem compare_any (a b : Int) (w : World) : Calls Tryz.prog 49 #[.int .i64 a, .int .i64 b] w fun e w' => e = .returned (.int .i64 (Lib.compareInt a b)) ∧ w' = w := by
  unfold Lib.compareInt
  rcases Int.lt_trichotomy a b with h | h | h
  · rw [if_pos h]
    go_enter Tryz.func49, Tryz.ntmps49
    go_wp2
    all_goals (go_ret; exact ⟨rfl, rfl⟩)
  · subst h
    rw [if_neg (by omega), if_neg (by omega)]
    go_enter Tryz.func49, Tryz.ntmps49
    go_wp2
    all_goals (go_ret; exact ⟨rfl, rfl⟩)
  · have h' : ¬ a < b := by omega
    rw [if_neg h', if_pos h]
    go_enter Tryz.func49, Tryz.ntmps49
    go_wp2
    all_goals (go_ret; exact ⟨rfl, rfl⟩)

/-- The first that is no nought. -/
def orOf (a b : Int) : Int := if a = 0 then b else a

set_option maxHeartbeats 1000000 in
theorem or_any {g : Nat} (a b : Int) (w : World) (h0 : w.cell? ⟨g, 0, none⟩ = some (.int .i64 a)) (h1 : w.cell? ⟨g, 1, none⟩ = some (.int .i64 b)) :
    Calls Tryz.prog 48 #[.slice (some ⟨g, 0, none⟩) 2 2] w fun e w' => e = .returned (.int .i64 (orOf a b)) ∧ w' = w := by
  have HA : Hid (w.cell? ⟨g, 0, none⟩ = some (.int .i64 a) ∧ w.cell? ⟨g, 1, none⟩ = some (.int .i64 b)) := ⟨h0, h1⟩
  clear h0 h1
  go_enter Tryz.func48, Tryz.ntmps48
  go_wp2_with fail
  go_loopw [5, 8] (fun _ i wr => ∃ j : Nat, j ≤ 2 ∧ i = .int .i64 (j : Nat) ∧ (0 < j → a = 0) ∧ (1 < j → b = 0) ∧ wr = w) (fun _ i _ => 2 - (intOf i).toNat)
  case atStart => exact ⟨0, by omega, rfl, fun h => absurd h (by omega), fun h => absurd h (by omega), rfl⟩
  case round =>
    obtain ⟨j, hj, rfl, ha, hb, rfl⟩ := hrel
    obtain ⟨h0, h1⟩ := HA.out
    match j, hj with
    | 0, _ =>
      by_cases c : a = 0
      · have e : (a != 0) = false := by simp [c]
        clear ha hb
        go_wp2_with fail
        go_roundw
        case rel => exact ⟨1, by omega, by go_num, fun _ => c, fun h => absurd h (by omega), by first | rfl | exact trivial⟩
        case measure => simp [intOf]
      · have e : (a != 0) = true := by simp [c]
        have HE : Hid (orOf a b = a) := show _ = _ by rw [orOf, if_neg c]
        clear ha hb c
        go_wp2_with fail
        go_ret
        exact ⟨by rw [HE.out]; rfl, rfl⟩
    | 1, _ =>
      have ha' := ha (by omega)
      by_cases c : b = 0
      · have e : (b != 0) = false := by simp [c]
        clear ha hb
        go_wp2_with fail
        go_roundw
        case rel => exact ⟨2, by omega, by go_num, fun _ => ha', fun _ => c, by first | rfl | exact trivial⟩
        case measure => simp [intOf]
      · have e : (b != 0) = true := by simp [c]
        have HE : Hid (orOf a b = b) := show _ = _ by rw [orOf, if_pos ha']
        clear ha hb c ha'
        go_wp2_with fail
        go_ret
        exact ⟨by rw [HE.out]; rfl, rfl⟩
    | 2, _ =>
      have HE : Hid (orOf a b = 0) := show _ = _ by rw [orOf, if_pos (ha (by omega)), hb (by omega)]
      clear ha hb
      go_wp2_with fail
      go_ret
      exact ⟨by rw [HE.out]; rfl, rfl⟩

/-- How two edges stand to each other. -/
def cmpE (x y : Nat × Nat) : Int := orOf (Lib.compareInt x.1 y.1) (Lib.compareInt x.2 y.2)

theorem lt_cmpE (x y : Nat × Nat) : ltOf cmpE x y = decide (x.1 < y.1 ∨ x.1 = y.1 ∧ x.2 < y.2) := by
  unfold ltOf cmpE orOf Lib.compareInt
  rcases Nat.lt_trichotomy x.1 y.1 with h | h | h
  · have h1 : ((x.1 : Nat) : Int) < (y.1 : Nat) := by omega
    simp [h1, h]
  · have h1 : ¬ ((x.1 : Nat) : Int) < (y.1 : Nat) := by omega
    have h2 : ¬ ((x.1 : Nat) : Int) > (y.1 : Nat) := by omega
    rcases Nat.lt_trichotomy x.2 y.2 with k | k | k
    · have k1 : ((x.2 : Nat) : Int) < (y.2 : Nat) := by omega
      simp [h, k1, k]
    · have k1 : ¬ ((x.2 : Nat) : Int) < (y.2 : Nat) := by omega
      have k2 : ¬ ((x.2 : Nat) : Int) > (y.2 : Nat) := by omega
      simp [h, k]
    · have k1 : ¬ ((x.2 : Nat) : Int) < (y.2 : Nat) := by omega
      have k2 : ((x.2 : Nat) : Int) > (y.2 : Nat) := by omega
      have k3 : ¬ x.2 < y.2 := by omega
      simp [h, k1, k2, k3]
  · have h1 : ¬ ((x.1 : Nat) : Int) < (y.1 : Nat) := by omega
    have h2 : ((x.1 : Nat) : Int) > (y.1 : Nat) := by omega
    have h3 : ¬ x.1 < y.1 := by omega
    have h4 : ¬ x.1 = y.1 := by omega
    simp [h1, h2, h3, h4]

theorem swoE : SWO (ltOf cmpE) where
  irrefl x := by rw [lt_cmpE]; simp
  trans x y z h1 h2 := by rw [lt_cmpE] at *; simp at *; omega
  ntrans x y z h1 h2 := by rw [lt_cmpE] at *; simp only [decide_eq_false_iff_not] at *; omega

theorem cmp_total (x y : Nat × Nat) (h1 : ltOf cmpE x y = false) (h2 : ltOf cmpE y x = false) : x = y := by
  rw [lt_cmpE] at h1 h2
  simp only [decide_eq_false_iff_not] at h1 h2
  exact Prod.ext (by omega) (by omega)

/-- Edges that rise are what sorting makes of them, in whatever order they came. -/
theorem sorted_rises {E ss : List (Nat × Nat)} (hE : Rises E) (hp : ss.Perm E) : ss.mergeSort (fun x y => !ltOf cmpE y x) = E := by
  have tr : ∀ a b c : Nat × Nat, (!ltOf cmpE b a) = true → (!ltOf cmpE c b) = true → (!ltOf cmpE c a) = true := fun a b c h1 h2 => by
    rw [lt_cmpE] at *; simp only [Bool.not_eq_true', decide_eq_false_iff_not] at *; omega
  have to : ∀ a b : Nat × Nat, ((!ltOf cmpE b a) || (!ltOf cmpE a b)) = true := fun a b => by
    rw [lt_cmpE, lt_cmpE]; simp only [Bool.or_eq_true, Bool.not_eq_true', decide_eq_false_iff_not]; omega
  refine List.Perm.eq_of_pairwise (le := fun a b : Nat × Nat => (!ltOf cmpE b a) = true) (fun a b _ _ h1 h2 => ?_) (List.pairwise_mergeSort tr to ss) ?_ ((List.mergeSort_perm _ _).trans hp)
  · rw [Bool.not_eq_true'] at h1 h2
    exact cmp_total a b h2 h1
  · refine hE.imp fun {a b} h => ?_
    rw [lt_cmpE, Bool.not_eq_true', decide_eq_false_iff_not]; omega

set_option maxRecDepth 100000 in
set_option maxHeartbeats 400000 in
theorem edges1_any (x y : Nat × Nat) (W : World) : Calls Tryz.prog 47 #[.agg (two x).toArray, .agg (two y).toArray] W fun e w' => e = .returned (.int .i64 (cmpE x y)) ∧ ∃ q os', w' = grow (W.drewN q) os' := by
  obtain ⟨x1, x2⟩ := x
  obtain ⟨y1, y2⟩ := y
  have hc : cmpE (x1, x2) (y1, y2) = orOf (Lib.compareInt x1 y1) (Lib.compareInt x2 y2) := rfl
  rw [hc]
  clear hc
  show Calls Tryz.prog 47 #[.agg #[.int .i64 (x1 : Int), .int .i64 (x2 : Int)], .agg #[.int .i64 (y1 : Int), .int .i64 (y2 : Int)]] W _
  have q := compare_any
  generalize Lib.compareInt = c at q ⊢
  obtain ⟨W2, hW2⟩ : ∃ W2, (W.alloc (.cells #[.int .i64 (x1 : Int), .int .i64 (x2 : Int)] 67)).alloc (.cells #[.int .i64 (y1 : Int), .int .i64 (y2 : Int)] 67) = W2 := ⟨_, rfl⟩
  have a1 : W2.cell? ⟨W.heap.size, 0, none⟩ = some (.int .i64 (x1 : Int)) := by rw [← hW2]; simp
  have a2 : W2.cell? ⟨W.heap.size, 1, none⟩ = some (.int .i64 (x2 : Int)) := by rw [← hW2]; simp
  have a3 : W2.cell? ⟨W.heap.size + 1, 0, none⟩ = some (.int .i64 (y1 : Int)) := by rw [← hW2]; simp
  have a4 : W2.cell? ⟨W.heap.size + 1, 1, none⟩ = some (.int .i64 (y2 : Int)) := by rw [← hW2]; simp
  have hor : Calls Tryz.prog 48 #[.slice (some ⟨W2.heap.size, 0, none⟩) 2 2] (W2.alloc (.cells #[.int .i64 (c x1 y1), .int .i64 (c x2 y2)] 3)).drew fun e w' => e = .returned (.int .i64 (orOf (c x1 y1) (c x2 y2))) ∧ w' = (W2.alloc (.cells #[.int .i64 (c x1 y1), .int .i64 (c x2 y2)] 3)).drew := or_any (c x1 y1) (c x2 y2) _ (by simp) (by simp)
  have HW : Hid ((W2.alloc (.cells #[.int .i64 (c x1 y1), .int .i64 (c x2 y2)] 3)).drew = grow (W.drewN 1) #[.cells #[.int .i64 (x1 : Int), .int .i64 (x2 : Int)] 67, .cells #[.int .i64 (y1 : Int), .int .i64 (y2 : Int)] 67, .cells #[.int .i64 (c x1 y1), .int .i64 (c x2 y2)] 3]) := show _ = _ by
    rw [← hW2, alloc_eq_grow, alloc_eq_grow, alloc_eq_grow, grow_grow, grow_grow, drew_grow]; rfl
  have hl2 : W.heap.size + 1 < W2.heap.size := World.block_lt_of_cell? _ _ a3
  go_enter Tryz.func47, Tryz.ntmps47
  go_wp2_with fail
  clear hW2
  generalize W.heap.size = B1 at *
  go_region_held3 (fun V => V.cell? ⟨B1, 0, none⟩ = some (.int .i64 (x1 : Int)) ∧ V.cell? ⟨B1, 1, none⟩ = some (.int .i64 (x2 : Int)) ∧ V.cell? ⟨B1 + 1, 0, none⟩ = some (.int .i64 (y1 : Int)) ∧ V.cell? ⟨B1 + 1, 1, none⟩ = some (.int .i64 (y2 : Int))) (first | (go_keep; done))
    (first
      | (go_at_call 48; refine hor.mono ?_; rintro e w1 ⟨rfl, rfl⟩)
      | (go_at_call 49; refine (q _ _ _).mono ?_; rintro e w1 ⟨rfl, rfl⟩))
  go_wp2_with fail
  go_ret
  exact ⟨rfl, 1, _, HW.out⟩

end Go.Proofs.YtcebfloeikjjcaaGreatDoor

namespace Go.Proofs.YtcebfloeikjjcaaGreatDoor
open Go.RowKit Go.Deep Go.Shelf Go.Sort Go.Lib Go.Maps
open Go.RowKit (Below)
set_option linter.unusedVariables false

variable {w w' : World} {L : Pl} {p : Nat → Nat} {E : List (Nat × Nat)}

theorem twos_get : ∀ (ss : List (Nat × Nat)) (j : Nat), j < ss.length * 2 → (twos ss)[j]? = some ((two (ss.getD (j / 2) (0, 0))).getD (j % 2) undef)
  | [], j, h => by simp at h
  | e :: l, 0, _ => rfl
  | e :: l, 1, _ => rfl
  | e :: l, j + 2, h => by
    have ih := twos_get l j (by simp at h; omega)
    rw [show twos (e :: l) = two e ++ twos l by simp [twos], List.getElem?_append_right (by simp [two]), show j + 2 - (two e).length = j by simp [two], ih]
    rw [show (j + 2) / 2 = j / 2 + 1 by omega, show (j + 2) % 2 = j % 2 by omega]
    rfl

theorem flat_get (ss : List (Nat × Nat)) (j : Nat) (h : j < ss.length * 2) : (flatK two 2 ss.toArray)[j]! = (two (ss.getD (j / 2) (0, 0))).getD (j % 2) undef := by
  rw [get_flatK _ _ _ _ (by simpa using h)]
  have h2 : j / 2 < ss.length := by omega
  have e : ss.toArray[j / 2]! = ss.getD (j / 2) (0, 0) := by simp [h2]
  rw [e]
  have h3 : j % 2 < 2 := Nat.mod_lt _ (by omega)
  generalize ss.getD (j / 2) (0, 0) = x
  generalize j % 2 = m at h3
  match m, h3 with
  | 0, _ => rfl
  | 1, _ => rfl

theorem holds_two {g cap : Nat} {base : Nat} {ss : List (Nat × Nat)} (h : w.ownsRow base 67 2 (.slice (some ⟨g, 0, none⟩) ss.length cap) ss.length (twos ss)) (hne : ss ≠ []) : HoldsK two 2 w g 0 ss.toArray ∧ g < w.heap.size ∧ base ≤ g ∧ cap ≤ maxLen := by
  rcases h.2 with ⟨_, h0⟩ | ⟨g', cap', cur, hv, hb, hg, h1, h2, h3, h4⟩
  · exact absurd (List.length_eq_zero_iff.1 h0) hne
  · simp only [Value.slice.injEq, Option.some.injEq, Addr.mk.injEq, and_true, true_and] at hv
    obtain ⟨rfl, rfl⟩ := hv
    refine ⟨fun j hj => ?_, (Array.getElem?_eq_some_iff.1 hg).1, hb, h2⟩
    have hj' : j < ss.length * 2 := by simpa using hj
    rw [Nat.zero_add, flat_get ss j hj']
    refine ⟨?_, by simp [World.frozen?, hg]⟩
    have e := twos_get ss j hj'
    rw [← h4, List.getElem?_take, if_pos hj'] at e
    simp only [World.cell?, hg]
    simpa using e

theorem cmpLaysE (blk off size : Nat) (w : World) : CmpLays Tryz.prog 47 #[] two 2 cmpE blk off size w := fun _ _ _ _ x y => edges1_any x y _

theorem sortf_any {blk cap : Nat} (d : List (Nat × Nat)) (w : World) (hH : HoldsK two 2 w blk 0 d.toArray) (hblk : blk < w.heap.size) (hsz : d.length < 1000000) :
    Calls Tryz.prog 71 #[.slice (some ⟨blk, 0, none⟩) d.length cap, .func (.func 47) #[] #[]] w fun e w' => e = .returned (.tuple #[]) ∧ ∃ n os, w' = sortWorldK two 2 w blk 0 n (d.mergeSort fun x y => !ltOf cmpE y x).toArray os := by
  have eg : ∀ args w, (callFunc 47 args).run Tryz.prog w = .ok (.enter 47 args) w := enters_of Tryz.func47 (by kernel_rfl) rfl
  have := AnyQ.slices_SortFunc_total Tryz.lSortF 2 Tryz.isAgg67 Tryz.sizeOf67 two (fun _ => rfl) (fun x v hv => by simp [two] at hv; rcases hv with rfl | rfl <;> rfl) cmpE swoE 47 #[] blk 0 cap d.toArray w eg (cmpLaysE _ _ _ _) hH hblk (by simp; omega) cmp_total
  change Calls Tryz.prog 71 _ _ _ at this
  simpa using this

/-- A list of edges lies in memory. -/
structure EdgesAt (w : World) (a : Option Addr) (E : List (Nat × Nat)) : Prop where
  cell : ∀ i, i < E.length → ∃ b, a = some ⟨b, 0, none⟩ ∧ w.cell? ⟨b, i * 2, none⟩ = some (.int .i64 ((E.getD i (0, 0)).1 : Nat)) ∧ w.cell? ⟨b, i * 2 + 1, none⟩ = some (.int .i64 ((E.getD i (0, 0)).2 : Nat))

theorem EdgesAt.below {a : Option Addr} (h : EdgesAt w a E) (hb : RowKit.Below w.heap.size w w') : EdgesAt w' a E :=
  ⟨fun i hi => by obtain ⟨b, e, h1, h2⟩ := h.cell i hi; exact ⟨b, e, cell_keep hb h1, cell_keep hb h2⟩⟩

theorem edgesAt_of {g : Nat} (h : HoldsK two 2 w g 0 E.toArray) : EdgesAt w (some ⟨g, 0, none⟩) E := by
  refine ⟨fun i hi => ⟨g, rfl, ?_, ?_⟩⟩
  · have := (h (i * 2) (by simp; omega)).1
    rw [Nat.zero_add, flat_get E _ (by omega), show i * 2 / 2 = i by omega, show i * 2 % 2 = 0 by omega] at this
    exact this
  · have := (h (i * 2 + 1) (by simp; omega)).1
    rw [Nat.zero_add, flat_get E _ (by omega), show (i * 2 + 1) / 2 = i by omega, show (i * 2 + 1) % 2 = 1 by omega] at this
    exact this

theorem below_putK {base blk q : Nat} (d : Array (Nat × Nat)) (h : base ≤ blk) : RowKit.Below base w (putRowK two 2 (Sort.ahead w q) blk 0 d) :=
  ⟨rfl, rfl, rfl, by simp [putRowK], fun k hk => by
    unfold putRowK putRow mapBlock
    show ((Sort.ahead w q).heap.modify blk _)[k]? = _
    rw [Array.getElem?_modify, if_neg (by omega)]
    rfl⟩

set_option maxHeartbeats 400000 in
theorem keys_any (mb : Option Nat) (w : World) : Calls Tryz.prog 46 #[.map mb] w fun e w' => e = .returned (.func (.func 72) #[] #[.pointer (some ⟨w.heap.size, 0, none⟩)]) ∧ w' = w.alloc (.cells #[.map mb] 59) := by
  go_enter Tryz.func46, Tryz.ntmps46
  go_wp2
  go_ret
  exact ⟨rfl, rfl⟩

set_option maxHeartbeats 1000000 in
theorem collect_any {Bm eb : Nat} {D : DataW Unit} (hm : w.cell? ⟨Bm, 0, none⟩ = some (.map (some eb))) (hES : ESet w eb D E) (hE : E.Nodup) (hb : ∀ e ∈ E, e.1 < 1000000 ∧ e.2 < 1000000) (hl : E.length < 1000000) :
    Calls Tryz.prog 70 #[.func (.func 72) #[] #[.pointer (some ⟨Bm, 0, none⟩)]] w fun e w' => ∃ (v : Value) (ss : List (Nat × Nat)), e = .returned v ∧ ss.Perm E ∧ w'.ownsRow w.heap.size 67 2 v ss.length (twos ss) ∧ (v = .slice none 0 0 ↔ ss = []) ∧ RowKit.Below w.heap.size w w' := by
  have h := (callsIn_wide (n := 8)).1 (appendSeq_in (n := 8) (by omega) (N := E.length) (by omega) (keys_stops (n := 7) (by omega) hm hES hE hb))
  go_enter Tryz.func70, Tryz.ntmps70
  go_wp2_with fail
  refine h.mono ?_
  rintro e w1 ⟨v, ss, rfl, hp, hrow, hnil, hbl⟩
  go_wp2_with fail
  go_ret
  exact ⟨v, ss, rfl, hp, hrow, hnil, hbl⟩

set_option maxRecDepth 100000 in
set_option maxHeartbeats 1000000 in
theorem sortedFunc_any {Bm eb : Nat} {D : DataW Unit} (hm : w.cell? ⟨Bm, 0, none⟩ = some (.map (some eb))) (hES : ESet w eb D E) (hE : Rises E) (hN : E.Nodup) (hb : ∀ e ∈ E, e.1 < 1000000 ∧ e.2 < 1000000) (hl : E.length < 1000000) :
    Calls Tryz.prog 45 #[.func (.func 72) #[] #[.pointer (some ⟨Bm, 0, none⟩)], .func (.func 47) #[] #[]] w fun e w' => ∃ a c, e = .returned (.slice a E.length c) ∧ RowKit.Below w.heap.size w w' ∧ EdgesAt w' a E ∧ (∀ b, a = some ⟨b, 0, none⟩ → w.heap.size ≤ b) ∧ E.length ≤ c ∧ c ≤ maxLen := by
  have hc := collect_any hm hES hN hb hl
  clear hm hES
  go_enter Tryz.func45, Tryz.ntmps45
  go_wp2_with fail
  refine hc.mono ?_
  rintro e w1 ⟨v, ss, rfl, hp, hrow, hnil, hbl⟩
  clear hc
  have hlen := hp.length_eq
  by_cases c : ss = []
  · obtain rfl := hnil.2 c
    have hE0 : E = [] := by rw [c] at hp; exact List.nil_perm.1 hp
    have hs := fun fv => AnyF.slices_SortFunc_none Tryz.lSortF none 0 fv w1
    have hs' : ∀ fv, Calls Tryz.prog 71 #[.slice none 0 0, fv] w1 fun e w' => e = .returned (.tuple #[]) ∧ w' = w1 := hs
    clear hs hp hrow hnil
    go_wp2_with fail
    refine (hs' _).mono ?_
    rintro e w2 ⟨rfl, rfl⟩
    go_wp2_with fail
    go_ret
    refine ⟨none, 0, by rw [hE0]; rfl, hbl, ⟨fun i hi => by rw [hE0] at hi; simp at hi⟩, (fun b e => by cases e), by rw [hE0]; simp, Nat.zero_le _⟩
  · obtain ⟨g, cap, rfl⟩ : ∃ g cap, v = .slice (some ⟨g, 0, none⟩) ss.length cap := by
      rcases hrow.2 with ⟨_, h0⟩ | ⟨g, cap, _, hv, _⟩
      · exact absurd (List.length_eq_zero_iff.1 h0) c
      · exact ⟨g, cap, hv⟩
    obtain ⟨hH, hg, hbg, hcm⟩ := holds_two hrow c
    have hcap : ss.length ≤ cap := by
      rcases hrow.2 with ⟨_, h0⟩ | ⟨g', cap', cur, hv, _, _, h1, _⟩
      · omega
      · simp only [Value.slice.injEq, Option.some.injEq, Addr.mk.injEq, and_true, true_and] at hv
        omega
    have hs := sortf_any (cap := cap) ss w1 hH hg (by omega)
    rw [sorted_rises hE hp] at hs
    have HH : Hid (HoldsK two 2 w1 g 0 ss.toArray) := hH
    have HL : Hid (ss.length = E.length) := hlen
    clear hH hrow hnil c hlen
    go_wp2_with fail
    refine hs.mono ?_
    rintro e w2 ⟨rfl, q, os, hw2⟩
    have hlen := HL.out
    have h2 : HoldsK two 2 w2 g 0 E.toArray ∧ RowKit.Below w.heap.size w1 w2 := by
      rw [hw2]
      have hsz := hbl.size
      refine ⟨holdsK_grow two 2 _ _ _ _ _ (by simpa [putRowK] using hg) (holdsK_putRowK two 2 _ _ _ ss.toArray _ (holdsK_ahead two 2 _ _ _ _ _ HH.out) (by simp; omega)), (below_putK _ hbg).trans (below_grows _ (by simp [putRowK]; omega))⟩
    clear hw2 hs hlen
    go_wp2_with fail
    go_ret
    have hlen := HL.out
    refine ⟨some ⟨g, 0, none⟩, cap, by rw [← hlen]; rfl, hbl.trans h2.2, edgesAt_of h2.1, (fun b e => by cases e; exact hbg), by omega, hcm⟩

set_option maxHeartbeats 1000000 in
theorem fedges_any (f : FAt w L E p) : Calls Tryz.prog 20 #[.pointer (some ⟨L.g, 0, none⟩)] w fun e w' => ∃ a c, e = .returned (.slice a E.length c) ∧ RowKit.Below w.heap.size w w' ∧ EdgesAt w' a E ∧ (∀ b, a = some ⟨b, 0, none⟩ → w.heap.size ≤ b) ∧ E.length ≤ c ∧ c ≤ maxLen := by
  obtain ⟨DW, DE, m, -⟩ := f.mem
  have c2 := m.c2
  have hb0 : RowKit.Below w.heap.size w (w.alloc (.cells #[.map (some L.eb)] 59)) := (RowKit.Below.refl _ _).alloc (Nat.le_refl _) _
  have hlt : ∀ e ∈ E, e.1 < 1000000 ∧ e.2 < 1000000 := fun e he => by
    have := f.grown.among e he
    have := m.n60
    omega
  have hl : E.length < 1000000 := by
    have h1 := (forest_parts f.grown.among f.grown.rest).2.1 f.grown.forest
    have := m.n60
    omega
  have hs := sortedFunc_any (w := w.alloc (.cells #[.map (some L.eb)] 59)) (Bm := w.heap.size) (by simp) ((m.below hb0).edges) f.grown.rises (forest_nodup f.grown.forest) hlt hl
  clear m
  go_enter Tryz.func20, Tryz.ntmps20
  go_wp2_with fail
  refine (keys_any _ _).mono ?_
  rintro e w1 ⟨rfl, rfl⟩
  go_wp2_with fail
  refine hs.mono ?_
  rintro e w2 ⟨a, c, rfl, hb2, hE2, ha, hc1, hc2⟩
  clear hs
  go_wp2_with fail
  go_ret
  refine ⟨a, c, rfl, below_step hb0 hb2, hE2, fun b e => ?_, hc1, hc2⟩
  have := ha b e
  simp at this
  omega

end Go.Proofs.YtcebfloeikjjcaaGreatDoor
