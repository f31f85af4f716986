/-
  Edges are put in order: by the first node, then the second.
  Edges of package tour: all, rising.
-/
import Derived.Test.YthhojlbfnffdeabGreatTg2
import Derived.Test.YthhojlbfnffdeabGreatSh2
namespace Go.Proofs.YthhojlbfnffdeabGreat
open Go.RowKit Go.Deep Go.Shelf Go.Sort Go.Lib Go.Maps
open Go.RowKit (Below)
set_option linter.unusedVariables false

set_option maxHeartbeats 400000 in
theorem compare_any (a b : Int) (w : World) : Calls Tryz.prog 49 #[.int .i64 a, .int .i64 b] w fun e w' => e = .returned (.int .i64 (Lib.compareInt a b)) ∧ w' = w := by
  unfold Lib.compareInt
  rcases Int.lt_trichotomy a b with h | h | h
  · rw [if_pos h]
    go_enter Tryz.func49, Tryz.ntmps49
    go_wp2
    all_goals (go_ret; exact ⟨rfl, rfl⟩)
  · subst h
    rw [if_neg (by omega), if_neg (by omega)]
    go_enter Tryz.func49, Tryz.ntmps49
    go_wp2
    all_goals (go_ret; exact ⟨rfl, rfl⟩)
  · have h' : ¬ a < b := by omega
    rw [if_neg h', if_pos h]
    go_enter Tryz.func49, Tryz.ntmps49
    go_wp2
    all_goals (go_ret; exact ⟨rfl, rfl⟩)

/-- The first that is no nought. -/
def orOf (a b : Int) : Int := if a = 0 then b else a

set_option maxHeartbeats 1000000 in
theorem or_any {g : Nat} (a b : Int) (w : World) (h0 : w.cell? ⟨g, 0, none⟩ = some (.int .i64 a)) (h1 : w.cell? ⟨g, 1, none⟩ = some (.int .i64 b)) :
    Calls Tryz.prog 48 #[.slice (some ⟨g, 0, none⟩) 2 2] w fun e w' => e = .returned (.int .i64 (orOf a b)) ∧ w' = w := by
  have HA : Hid (w.cell? ⟨g, 0, none⟩ = some (.int .i64 a) ∧ w.cell? ⟨g, 1, none⟩ = some (.int .i64 b)) := ⟨h0, h1⟩
  clear h0 h1
  go_enter Tryz.func48, Tryz.ntmps48
  go_wp2_with fail
  go_loopw [5, 8] (fun _ i wr => ∃ j : Nat, j ≤ 2 ∧ i = .int .i64 (j : Nat) ∧ (0 < j → a = 0) ∧ (1 < j → b = 0) ∧ wr = w) (fun _ i _ => 2 - (intOf i).toNat)
  case atStart => exact ⟨0, by omega, rfl, fun h => absurd h (by omega), fun h => absurd h (by omega), rfl⟩
  case round =>
    obtain ⟨j, hj, rfl, ha, hb, rfl⟩ := hrel
    obtain ⟨h0, h1⟩ := HA.out
    match j, hj with
    | 0, _ =>
      by_cases c : a = 0
      · have e : (a != 0) = false := by simp [c]
        clear ha hb
        go_wp2_with fail
        go_roundw
        case rel => exact ⟨1, by omega, by go_num, fun _ => c, fun h => absurd h (by omega), by first | rfl | exact trivial⟩
        case measure => simp [intOf]
      · have e : (a != 0) = true := by simp [c]
        have HE : Hid (orOf a b = a) := show _ = _ by rw [orOf, if_neg c]
        clear ha hb c
        go_wp2_with fail
        go_ret
        exact ⟨by rw [HE.out]; rfl, rfl⟩
    | 1, _ =>
      have ha' := ha (by omega)
      by_cases c : b = 0
      · have e : (b != 0) = false := by simp [c]
        clear ha hb
        go_wp2_with fail
        go_roundw
        case rel => exact ⟨2, by omega, by go_num, fun _ => ha', fun _ => c, by first | rfl | exact trivial⟩
        case measure => simp [intOf]
      · have e : (b != 0) = true := by simp [c]
        have HE : Hid (orOf a b = b) := show _ = _ by rw [orOf, if_pos ha']
        clear ha hb c ha'
        go_wp2_with fail
        go_ret
        exact ⟨by rw [HE.out]; rfl, rfl⟩
    | 2, _ =>
      have HE : Hid (orOf a b = 0) := show _ = _ by rw [orOf, if_pos (ha (by omega)), hb (by omega)]
      clear ha hb
      go_wp2_with fail
      go_ret
      exact ⟨by rw [HE.out]; rfl, rfl⟩

/-- How two edges stand to each other. -/
def cmpE (x y : Nat × Nat) : Int := orOf (Lib.compareInt x.1 y.1) (Lib.compareInt x.2 y.2)

theorem lt_cmpE (x y : Nat × Nat) : ltOf cmpE x y = decide (x.1 < y.1 ∨ x.1 = y.1 ∧ x.2 < y.2) := by
  unfold ltOf cmpE orOf Lib.compareInt
  rcases Nat.lt_trichotomy x.1 y.1 with h | h | h
  · have h1 : ((x.1 : Nat) : Int) < (y.1 : Nat) := by omega
    simp [h1, h]
  · have h1 : ¬ ((x.1 : Nat) : Int) < (y.1 : Nat) := by omega
    have h2 : ¬ ((x.1 : Nat) : Int) > (y.1 : Nat) := by omega
    rcases Nat.lt_trichotomy x.2 y.2 with k | k | k
    · have k1 : ((x.2 : Nat) : Int) < (y.2 : Nat) := by omega
      simp [h, k1, k]
    · have k1 : ¬ ((x.2 : Nat) : Int) < (y.2 : Nat) := by omega
      have k2 : ¬ ((x.2 : Nat) : Int) > (y.2 : Nat) := by omega
      simp [h, k]
    · have k1 : ¬ ((x.2 : Nat) : Int) < (y.2 : Nat) := by omega
      have k2 : ((x.2 : Nat) : Int) > (y.2 : Nat) := by omega
      have k3 : ¬ x.2 < y.2 := by omega
      simp [h, k1, k2, k3]
  · have h1 : ¬ ((x.1 : Nat) : Int) < (y.1 : Nat) := by omega
    have h2 : ((x.1 : Nat) : Int) > (y.1 : Nat) := by omega
    have h3 : ¬ x.1 < y.1 := by omega
    have h4 : ¬ x.1 = y.1 := by omega
    simp [h1, h2, h3, h4]

theorem swoE : SWO (ltOf cmpE) where
  irrefl x := by rw [lt_cmpE]; simp
  trans x y z h1 h2 := by rw [lt_cmpE] at *; simp at *; omega
  ntrans x y z h1 h2 := by rw [lt_cmpE] at *; simp only [decide_eq_false_iff_not] at *; omega

theorem cmp_total (x y : Nat × Nat) (h1 : ltOf cmpE x y = false) (h2 : ltOf cmpE y x = false) : x = y := by
  rw [lt_cmpE] at h1 h2
  simp only [decide_eq_false_iff_not] at h1 h2
  exact Prod.ext (by omega) (by omega)

/-- Edges that rise are what sorting makes of them, in whatever order they came. -/
theorem sorted_rises {E ss : List (Nat × Nat)} (hE : Rises E) (hp : ss.Perm E) : ss.mergeSort (fun x y => !ltOf cmpE y x) = E := by
  have tr : ∀ a b c : Nat × Nat, (!ltOf cmpE b a) = true → (!ltOf cmpE c b) = true → (!ltOf cmpE c a) = true := fun a b c h1 h2 => by
    rw [lt_cmpE] at *; simp only [Bool.not_eq_true', decide_eq_false_iff_not] at *; omega
  have to : ∀ a b : Nat × Nat, ((!ltOf cmpE b a) || (!ltOf cmpE a b)) = true := fun a b => by
    rw [lt_cmpE, lt_cmpE]; simp only [Bool.or_eq_true, Bool.not_eq_true', decide_eq_false_iff_not]; omega
  refine List.Perm.eq_of_pairwise (le := fun a b : Nat × Nat => (!ltOf cmpE b a) = true) (fun a b _ _ h1 h2 => ?_) (List.pairwise_mergeSort tr to ss) ?_ ((List.mergeSort_perm _ _).trans hp)
  · rw [Bool.not_eq_true'] at h1 h2
    exact cmp_total a b h2 h1
  · refine hE.imp fun {a b} h => ?_
    rw [lt_cmpE, Bool.not_eq_true', decide_eq_false_iff_not]; omega

end Go.Proofs.YthhojlbfnffdeabGreat

namespace Go.Proofs.YthhojlbfnffdeabGreat
open Go.RowKit Go.Deep Go.Shelf Go.Sort Go.Lib Go.Maps
open Go.RowKit (Below)
set_option linter.unusedVariables false

variable {w w' : World} {L : Pl} {p : Nat → Nat} {E : List (Nat × Nat)}

theorem twos_get : ∀ (ss : List (Nat × Nat)) (j : Nat), j < ss.length * 2 → (twos ss)[j]? = some ((two (ss.getD (j / 2) (0, 0))).getD (j % 2) undef)
  | [], j, h => by simp at h
  | e :: l, 0, _ => rfl
  | e :: l, 1, _ => rfl
  | e :: l, j + 2, h => by
    have ih := twos_get l j (by simp at h; omega)
    rw [show twos (e :: l) = two e ++ twos l by simp [twos], List.getElem?_append_right (by simp [two]), show j + 2 - (two e).length = j by simp [two], ih]
    rw [show (j + 2) / 2 = j / 2 + 1 by omega, show (j + 2) % 2 = j % 2 by omega]
    rfl

theorem flat_get (ss : List (Nat × Nat)) (j : Nat) (h : j < ss.length * 2) : (flatK two 2 ss.toArray)[j]! = (two (ss.getD (j / 2) (0, 0))).getD (j % 2) undef := by
  rw [get_flatK _ _ _ _ (by simpa using h)]
  have h2 : j / 2 < ss.length := by omega
  have e : ss.toArray[j / 2]! = ss.getD (j / 2) (0, 0) := by simp [h2]
  rw [e]
  have h3 : j % 2 < 2 := Nat.mod_lt _ (by omega)
  generalize ss.getD (j / 2) (0, 0) = x
  generalize j % 2 = m at h3
  match m, h3 with
  | 0, _ => rfl
  | 1, _ => rfl

theorem holds_two {g cap : Nat} {base : Nat} {ss : List (Nat × Nat)} (h : w.ownsRow base 41 2 (.slice (some ⟨g, 0, none⟩) ss.length cap) ss.length (twos ss)) (hne : ss ≠ []) : HoldsK two 2 w g 0 ss.toArray ∧ g < w.heap.size ∧ base ≤ g ∧ cap ≤ maxLen := by
  rcases h.2 with ⟨_, h0⟩ | ⟨g', cap', cur, hv, hb, hg, h1, h2, h3, h4⟩
  · exact absurd (List.length_eq_zero_iff.1 h0) hne
  · simp only [Value.slice.injEq, Option.some.injEq, Addr.mk.injEq, and_true, true_and] at hv
    obtain ⟨rfl, rfl⟩ := hv
    refine ⟨fun j hj => ?_, (Array.getElem?_eq_some_iff.1 hg).1, hb, h2⟩
    have hj' : j < ss.length * 2 := by simpa using hj
    rw [Nat.zero_add, flat_get ss j hj']
    refine ⟨?_, by simp [World.frozen?, hg]⟩
    have e := twos_get ss j hj'
    rw [← h4, List.getElem?_take, if_pos hj'] at e
    simp only [World.cell?, hg]
    simpa using e

/-- A list of edges lies in memory. -/
structure EdgesAt (w : World) (a : Option Addr) (E : List (Nat × Nat)) : Prop where
  cell : ∀ i, i < E.length → ∃ b, a = some ⟨b, 0, none⟩ ∧ w.cell? ⟨b, i * 2, none⟩ = some (.int .i64 ((E.getD i (0, 0)).1 : Nat)) ∧ w.cell? ⟨b, i * 2 + 1, none⟩ = some (.int .i64 ((E.getD i (0, 0)).2 : Nat))

theorem EdgesAt.below {a : Option Addr} (h : EdgesAt w a E) (hb : RowKit.Below w.heap.size w w') : EdgesAt w' a E :=
  ⟨fun i hi => by obtain ⟨b, e, h1, h2⟩ := h.cell i hi; exact ⟨b, e, cell_keep hb h1, cell_keep hb h2⟩⟩

theorem edgesAt_of {g : Nat} (h : HoldsK two 2 w g 0 E.toArray) : EdgesAt w (some ⟨g, 0, none⟩) E := by
  refine ⟨fun i hi => ⟨g, rfl, ?_, ?_⟩⟩
  · have := (h (i * 2) (by simp; omega)).1
    rw [Nat.zero_add, flat_get E _ (by omega), show i * 2 / 2 = i by omega, show i * 2 % 2 = 0 by omega] at this
    exact this
  · have := (h (i * 2 + 1) (by simp; omega)).1
    rw [Nat.zero_add, flat_get E _ (by omega), show (i * 2 + 1) / 2 = i by omega, show (i * 2 + 1) % 2 = 1 by omega] at this
    exact this

theorem below_putK {base blk q : Nat} (d : Array (Nat × Nat)) (h : base ≤ blk) : RowKit.Below base w (putRowK two 2 (Sort.ahead w q) blk 0 d) :=
  ⟨rfl, rfl, rfl, by simp [putRowK], fun k hk => by
    unfold putRowK putRow mapBlock
    show ((Sort.ahead w q).heap.modify blk _)[k]? = _
    rw [Array.getElem?_modify, if_neg (by omega)]
    rfl⟩

end Go.Proofs.YthhojlbfnffdeabGreat
