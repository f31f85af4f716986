/-
  Mg Gc
-/
import Derived.Test.YtcfemppdeidjmacGreatW12
import Derived.Test.YtcfemppdeidjmacGreatSh2
import Derived.OwnWalk
import Derived.Test.YtcfemppdeidjmacGreatW11
namespace Go.Proofs.YtcfemppdeidjmacGreat
set_option linter.unusedSectionVars false
variable [Inhabited Zed]
open Go.RowKit Go.Deep Go.Shelf Go.Sort Go.Lib Go.Maps
open Go.RowKit (Below)
set_option linter.unusedVariables false

set_option maxHeartbeats 400000 in
theorem compare_any (a b : Int) (w : World) : Calls Tryz.prog 67 #[.int .i64 a, .int .i64 b] w fun e w' => e = .returned (.int .i64 (Lib.compareInt a b)) ∧ w' = w := by
  unfold Lib.compareInt
  rcases Int.lt_trichotomy a b with h | h | h
  · rw [if_pos h]
    go_enter Tryz.func67, Tryz.ntmps67
    go_wp2
    all_goals (go_ret; exact ⟨rfl, rfl⟩)
  · subst h
    rw [if_neg (by omega), if_neg (by omega)]
    go_enter Tryz.func67, Tryz.ntmps67
    go_wp2
    all_goals (go_ret; exact ⟨rfl, rfl⟩)
  · have h' : ¬ a < b := by omega
    rw [if_neg h', if_pos h]
    go_enter Tryz.func67, Tryz.ntmps67
    go_wp2
    all_goals (go_ret; exact ⟨rfl, rfl⟩)

def orOf (a b : Int) : Int := if a = 0 then b else a

set_option maxHeartbeats 1000000 in
theorem or_any {g : Nat} (a b : Int) (w : World) (h0 : w.cell? ⟨g, 0, none⟩ = some (.int .i64 a)) (h1 : w.cell? ⟨g, 1, none⟩ = some (.int .i64 b)) :
    Calls Tryz.prog 66 #[.slice (some ⟨g, 0, none⟩) 2 2] w fun e w' => e = .returned (.int .i64 (orOf a b)) ∧ w' = w := by
  have HA : Hid (w.cell? ⟨g, 0, none⟩ = some (.int .i64 a) ∧ w.cell? ⟨g, 1, none⟩ = some (.int .i64 b)) := ⟨h0, h1⟩
  clear h0 h1
  go_enter Tryz.func66, Tryz.ntmps66
  go_wp2_with fail
  go_loopw [5, 8] (fun _ i wr => ∃ j : Nat, j ≤ 2 ∧ i = .int .i64 (j : Nat) ∧ (0 < j → a = 0) ∧ (1 < j → b = 0) ∧ wr = w) (fun _ i _ => 2 - (intOf i).toNat)
  case atStart => exact ⟨0, by omega, rfl, fun h => absurd h (by omega), fun h => absurd h (by omega), rfl⟩
  case round =>
    obtain ⟨j, hj, rfl, ha, hb, rfl⟩ := hrel
    obtain ⟨h0, h1⟩ := HA.out
    match j, hj with
    | 0, _ =>
      by_cases c : a = 0
      · have e : (a != 0) = false := by simp [c]
        clear ha hb
        go_wp2_with fail
        go_roundw
        case rel => exact ⟨1, by omega, by go_num, fun _ => c, fun h => absurd h (by omega), by first | rfl | exact trivial⟩
        case measure => simp [intOf]
      · have e : (a != 0) = true := by simp [c]
        have HE : Hid (orOf a b = a) := show _ = _ by rw [orOf, if_neg c]
        clear ha hb c
        go_wp2_with fail
        go_ret
        exact ⟨by rw [HE.out]; rfl, rfl⟩
    | 1, _ =>
      have ha' := ha (by omega)
      by_cases c : b = 0
      · have e : (b != 0) = false := by simp [c]
        clear ha hb
        go_wp2_with fail
        go_roundw
        case rel => exact ⟨2, by omega, by go_num, fun _ => ha', fun _ => c, by first | rfl | exact trivial⟩
        case measure => simp [intOf]
      · have e : (b != 0) = true := by simp [c]
        have HE : Hid (orOf a b = b) := show _ = _ by rw [orOf, if_pos ha']
        clear ha hb c ha'
        go_wp2_with fail
        go_ret
        exact ⟨by rw [HE.out]; rfl, rfl⟩
    | 2, _ =>
      have HE : Hid (orOf a b = 0) := show _ = _ by rw [orOf, if_pos (ha (by omega)), hb (by omega)]
      clear ha hb
      go_wp2_with fail
      go_ret
      exact ⟨by rw [HE.out]; rfl, rfl⟩

def cmpE (x y : Nat × Nat) : Int := orOf (Lib.compareInt x.1 y.1) (Lib.compareInt x.2 y.2)

theorem lt_cmpE (x y : Nat × Nat) : ltOf cmpE x y = decide (x.1 < y.1 ∨ x.1 = y.1 ∧ x.2 < y.2) := by
  unfold ltOf cmpE orOf Lib.compareInt
  rcases Nat.lt_trichotomy x.1 y.1 with h | h | h
  · have h1 : ((x.1 : Nat) : Int) < (y.1 : Nat) := by omega
    simp [h1, h]
  · have h1 : ¬ ((x.1 : Nat) : Int) < (y.1 : Nat) := by omega
    have h2 : ¬ ((x.1 : Nat) : Int) > (y.1 : Nat) := by omega
    rcases Nat.lt_trichotomy x.2 y.2 with k | k | k
    · have k1 : ((x.2 : Nat) : Int) < (y.2 : Nat) := by omega
      simp [h, k1, k]
    · have k1 : ¬ ((x.2 : Nat) : Int) < (y.2 : Nat) := by omega
      have k2 : ¬ ((x.2 : Nat) : Int) > (y.2 : Nat) := by omega
      simp [h, k]
    · have k1 : ¬ ((x.2 : Nat) : Int) < (y.2 : Nat) := by omega
      have k2 : ((x.2 : Nat) : Int) > (y.2 : Nat) := by omega
      have k3 : ¬ x.2 < y.2 := by omega
      simp [h, k1, k2, k3]
  · have h1 : ¬ ((x.1 : Nat) : Int) < (y.1 : Nat) := by omega
    have h2 : ((x.1 : Nat) : Int) > (y.1 : Nat) := by omega
    have h3 : ¬ x.1 < y.1 := by omega
    have h4 : ¬ x.1 = y.1 := by omega
    simp [h1, h2, h3, h4]

theorem swoE : SWO (ltOf cmpE) where
  irrefl x := by rw [lt_cmpE]; simp
  trans x y z h1 h2 := by rw [lt_cmpE] at *; simp at *; omega
  ntrans x y z h1 h2 := by rw [lt_cmpE] at *; simp only [decide_eq_false_iff_not] at *; omega

theorem cmp_total (x y : Nat × Nat) (h1 : ltOf cmpE x y = false) (h2 : ltOf cmpE y x = false) : x = y := by
  rw [lt_cmpE] at h1 h2
  simp only [decide_eq_false_iff_not] at h1 h2
  exact Prod.ext (by omega) (by omega)

theorem sorted_rises {E ss : List (Nat × Nat)} (hE : Rises E) (hp : ss.Perm E) : ss.mergeSort (fun x y => !ltOf cmpE y x) = E := by
  have tr : ∀ a b c : Nat × Nat, (!ltOf cmpE b a) = true → (!ltOf cmpE c b) = true → (!ltOf cmpE c a) = true := fun a b c h1 h2 => by
    rw [lt_cmpE] at *; simp only [Bool.not_eq_true', decide_eq_false_iff_not] at *; omega
  have to : ∀ a b : Nat × Nat, ((!ltOf cmpE b a) || (!ltOf cmpE a b)) = true := fun a b => by
    rw [lt_cmpE, lt_cmpE]; simp only [Bool.or_eq_true, Bool.not_eq_true', decide_eq_false_iff_not]; omega
  refine List.Perm.eq_of_pairwise (le := fun a b : Nat × Nat => (!ltOf cmpE b a) = true) (fun a b _ _ h1 h2 => ?_) (List.pairwise_mergeSort tr to ss) ?_ ((List.mergeSort_perm _ _).trans hp)
  · rw [Bool.not_eq_true'] at h1 h2
    exact cmp_total a b h2 h1
  · refine hE.imp fun {a b} h => ?_
    rw [lt_cmpE, Bool.not_eq_true', decide_eq_false_iff_not]; omega

set_option maxRecDepth 100000 in
set_option maxHeartbeats 400000 in
theorem edges1_any (x y : Nat × Nat) (W : World) : Calls Tryz.prog 65 #[.agg (two x).toArray, .agg (two y).toArray] W fun e w' => e = .returned (.int .i64 (cmpE x y)) ∧ ∃ q os', w' = grow (W.drewN q) os' := by
  obtain ⟨x1, x2⟩ := x
  obtain ⟨y1, y2⟩ := y
  have hc : cmpE (x1, x2) (y1, y2) = orOf (Lib.compareInt x1 y1) (Lib.compareInt x2 y2) := rfl
  rw [hc]
  clear hc
  show Calls Tryz.prog 65 #[.agg #[.int .i64 (x1 : Int), .int .i64 (x2 : Int)], .agg #[.int .i64 (y1 : Int), .int .i64 (y2 : Int)]] W _
  have q := compare_any
  generalize Lib.compareInt = c at q ⊢
  obtain ⟨W2, hW2⟩ : ∃ W2, (W.alloc (.cells #[.int .i64 (x1 : Int), .int .i64 (x2 : Int)] 44)).alloc (.cells #[.int .i64 (y1 : Int), .int .i64 (y2 : Int)] 44) = W2 := ⟨_, rfl⟩
  have a1 : W2.cell? ⟨W.heap.size, 0, none⟩ = some (.int .i64 (x1 : Int)) := by rw [← hW2]; simp
  have a2 : W2.cell? ⟨W.heap.size, 1, none⟩ = some (.int .i64 (x2 : Int)) := by rw [← hW2]; simp
  have a3 : W2.cell? ⟨W.heap.size + 1, 0, none⟩ = some (.int .i64 (y1 : Int)) := by rw [← hW2]; simp
  have a4 : W2.cell? ⟨W.heap.size + 1, 1, none⟩ = some (.int .i64 (y2 : Int)) := by rw [← hW2]; simp
  have hor : Calls Tryz.prog 66 #[.slice (some ⟨W2.heap.size, 0, none⟩) 2 2] (W2.alloc (.cells #[.int .i64 (c x1 y1), .int .i64 (c x2 y2)] 3)).drew fun e w' => e = .returned (.int .i64 (orOf (c x1 y1) (c x2 y2))) ∧ w' = (W2.alloc (.cells #[.int .i64 (c x1 y1), .int .i64 (c x2 y2)] 3)).drew := or_any (c x1 y1) (c x2 y2) _ (by simp) (by simp)
  have HW : Hid ((W2.alloc (.cells #[.int .i64 (c x1 y1), .int .i64 (c x2 y2)] 3)).drew = grow (W.drewN 1) #[.cells #[.int .i64 (x1 : Int), .int .i64 (x2 : Int)] 44, .cells #[.int .i64 (y1 : Int), .int .i64 (y2 : Int)] 44, .cells #[.int .i64 (c x1 y1), .int .i64 (c x2 y2)] 3]) := show _ = _ by
    rw [← hW2, alloc_eq_grow, alloc_eq_grow, alloc_eq_grow, grow_grow, grow_grow, drew_grow]; rfl
  have hl2 : W.heap.size + 1 < W2.heap.size := World.block_lt_of_cell? _ _ a3
  go_enter Tryz.func65, Tryz.ntmps65
  go_wp2_with fail
  clear hW2
  generalize W.heap.size = B1 at *
  go_region_held3 (fun V => V.cell? ⟨B1, 0, none⟩ = some (.int .i64 (x1 : Int)) ∧ V.cell? ⟨B1, 1, none⟩ = some (.int .i64 (x2 : Int)) ∧ V.cell? ⟨B1 + 1, 0, none⟩ = some (.int .i64 (y1 : Int)) ∧ V.cell? ⟨B1 + 1, 1, none⟩ = some (.int .i64 (y2 : Int))) (first | (go_keep; done))
    (first
      | (go_at_call 66; refine hor.mono ?_; rintro e w1 ⟨rfl, rfl⟩)
      | (go_at_call 67; refine (q _ _ _).mono ?_; rintro e w1 ⟨rfl, rfl⟩))
  go_wp2_with fail
  go_ret
  exact ⟨rfl, 1, _, HW.out⟩

end Go.Proofs.YtcfemppdeidjmacGreat

namespace Go.Proofs.YtcfemppdeidjmacGreat
set_option linter.unusedSectionVars false
variable [Inhabited Zed]
open Go.RowKit Go.Deep Go.Shelf Go.Sort Go.Lib Go.Maps
open Go.RowKit (Below)
set_option linter.unusedVariables false

variable {w w' : World} {L : Pl} {p : Nat → Nat} {E : List (Nat × Nat)}

theorem twos_get : ∀ (ss : List (Nat × Nat)) (j : Nat), j < ss.length * 2 → (twos ss)[j]? = some ((two (ss.getD (j / 2) (0, 0))).getD (j % 2) undef)
  | [], j, h => by simp at h
  | e :: l, 0, _ => rfl
  | e :: l, 1, _ => rfl
  | e :: l, j + 2, h => by
    have ih := twos_get l j (by simp at h; omega)
    rw [show twos (e :: l) = two e ++ twos l by simp [twos], List.getElem?_append_right (by simp [two]), show j + 2 - (two e).length = j by simp [two], ih]
    rw [show (j + 2) / 2 = j / 2 + 1 by omega, show (j + 2) % 2 = j % 2 by omega]
    rfl

theorem flat_get (ss : List (Nat × Nat)) (j : Nat) (h : j < ss.length * 2) : (flatK two 2 ss.toArray)[j]! = (two (ss.getD (j / 2) (0, 0))).getD (j % 2) undef := by
  rw [get_flatK _ _ _ _ (by simpa using h)]
  have h2 : j / 2 < ss.length := by omega
  have e : ss.toArray[j / 2]! = ss.getD (j / 2) (0, 0) := by simp [h2]
  rw [e]
  have h3 : j % 2 < 2 := Nat.mod_lt _ (by omega)
  generalize ss.getD (j / 2) (0, 0) = x
  generalize j % 2 = m at h3
  match m, h3 with
  | 0, _ => rfl
  | 1, _ => rfl

theorem holds_two {g cap : Nat} {base : Nat} {ss : List (Nat × Nat)} (h : w.ownsRow base 44 2 (.slice (some ⟨g, 0, none⟩) ss.length cap) ss.length (twos ss)) (hne : ss ≠ []) : HoldsK two 2 w g 0 ss.toArray ∧ g < w.heap.size ∧ base ≤ g ∧ cap ≤ maxLen := by
  rcases h.2 with ⟨_, h0⟩ | ⟨g', cap', cur, hv, hb, hg, h1, h2, h3, h4⟩
  · exact absurd (List.length_eq_zero_iff.1 h0) hne
  · simp only [Value.slice.injEq, Option.some.injEq, Addr.mk.injEq, and_true, true_and] at hv
    obtain ⟨rfl, rfl⟩ := hv
    refine ⟨fun j hj => ?_, (Array.getElem?_eq_some_iff.1 hg).1, hb, h2⟩
    have hj' : j < ss.length * 2 := by simpa using hj
    rw [Nat.zero_add, flat_get ss j hj']
    refine ⟨?_, by simp [World.frozen?, hg]⟩
    have e := twos_get ss j hj'
    rw [← h4, List.getElem?_take, if_pos hj'] at e
    simp only [World.cell?, hg]
    simpa using e

theorem cmpLaysE (blk off size : Nat) (w : World) : CmpLays Tryz.prog 65 #[] two 2 cmpE blk off size w := fun _ _ _ _ x y => edges1_any x y _

theorem sortf_any {blk cap : Nat} (d : List (Nat × Nat)) (w : World) (hH : HoldsK two 2 w blk 0 d.toArray) (hblk : blk < w.heap.size) (hsz : d.length < 1000000) :
    Calls Tryz.prog 92 #[.slice (some ⟨blk, 0, none⟩) d.length cap, .func (.func 65) #[] #[]] w fun e w' => e = .returned (.tuple #[]) ∧ ∃ n os, w' = sortWorldK two 2 w blk 0 n (d.mergeSort fun x y => !ltOf cmpE y x).toArray os := by
  have eg : ∀ args w, (callFunc 65 args).run Tryz.prog w = .ok (.enter 65 args) w := enters_of Tryz.func65 (by kernel_rfl) rfl
  have := AnyQ.slices_SortFunc_total Tryz.lSortF 2 Tryz.isAgg44 Tryz.sizeOf44 two (fun _ => rfl) (fun x v hv => by simp [two] at hv; rcases hv with rfl | rfl <;> rfl) cmpE swoE 65 #[] blk 0 cap d.toArray w eg (cmpLaysE _ _ _ _) hH hblk (by simp; omega) cmp_total
  change Calls Tryz.prog 92 _ _ _ at this
  simpa using this

structure EdgesAt (w : World) (a : Option Addr) (E : List (Nat × Nat)) : Prop where
  cell : ∀ i, i < E.length → ∃ b, a = some ⟨b, 0, none⟩ ∧ w.cell? ⟨b, i * 2, none⟩ = some (.int .i64 ((E.getD i (0, 0)).1 : Nat)) ∧ w.cell? ⟨b, i * 2 + 1, none⟩ = some (.int .i64 ((E.getD i (0, 0)).2 : Nat))

theorem EdgesAt.below {a : Option Addr} (h : EdgesAt w a E) (hb : RowKit.Below w.heap.size w w') : EdgesAt w' a E :=
  ⟨fun i hi => by obtain ⟨b, e, h1, h2⟩ := h.cell i hi; exact ⟨b, e, cell_keep hb h1, cell_keep hb h2⟩⟩

theorem edgesAt_of {g : Nat} (h : HoldsK two 2 w g 0 E.toArray) : EdgesAt w (some ⟨g, 0, none⟩) E := by
  refine ⟨fun i hi => ⟨g, rfl, ?_, ?_⟩⟩
  · have := (h (i * 2) (by simp; omega)).1
    rw [Nat.zero_add, flat_get E _ (by omega), show i * 2 / 2 = i by omega, show i * 2 % 2 = 0 by omega] at this
    exact this
  · have := (h (i * 2 + 1) (by simp; omega)).1
    rw [Nat.zero_add, flat_get E _ (by omega), show (i * 2 + 1) / 2 = i by omega, show (i * 2 + 1) % 2 = 1 by omega] at this
    exact this

theorem below_putK {base blk q : Nat} (d : Array (Nat × Nat)) (h : base ≤ blk) : RowKit.Below base w (putRowK two 2 (Sort.ahead w q) blk 0 d) :=
  ⟨rfl, rfl, rfl, by simp [putRowK], fun k hk => by
    unfold putRowK putRow mapBlock
    show ((Sort.ahead w q).heap.modify blk _)[k]? = _
    rw [Array.getElem?_modify, if_neg (by omega)]
    rfl⟩

set_option maxHeartbeats 400000 in
theorem keys_any (mb : Option Nat) (w : World) : Calls Tryz.prog 64 #[.map mb] w fun e w' => e = .returned (.func (.func 103) #[] #[.pointer (some ⟨w.heap.size, 0, none⟩)]) ∧ w' = w.alloc (.cells #[.map mb] 106) := by
  go_enter Tryz.func64, Tryz.ntmps64
  go_wp2
  go_ret
  exact ⟨rfl, rfl⟩

set_option maxHeartbeats 1000000 in
theorem collect_any {Bm eb : Nat} {D : DataW Unit} (hm : w.cell? ⟨Bm, 0, none⟩ = some (.map (some eb))) (hES : ESet w eb D E) (hE : E.Nodup) (hb : ∀ e ∈ E, e.1 < 1000000 ∧ e.2 < 1000000) (hl : E.length < 1000000) :
    Calls Tryz.prog 102 #[.func (.func 103) #[] #[.pointer (some ⟨Bm, 0, none⟩)]] w fun e w' => ∃ (v : Value) (ss : List (Nat × Nat)), e = .returned v ∧ ss.Perm E ∧ w'.ownsRow w.heap.size 44 2 v ss.length (twos ss) ∧ (v = .slice none 0 0 ↔ ss = []) ∧ RowKit.Below w.heap.size w w' := by
  have h := (callsIn_wide (n := 8)).1 (appendSeq_in (n := 8) (by omega) (N := E.length) (by omega) (keys_stops (n := 7) (by omega) hm hES hE hb))
  go_enter Tryz.func102, Tryz.ntmps102
  go_wp2_with fail
  refine h.mono ?_
  rintro e w1 ⟨v, ss, rfl, hp, hrow, hnil, hbl⟩
  go_wp2_with fail
  go_ret
  exact ⟨v, ss, rfl, hp, hrow, hnil, hbl⟩

set_option maxRecDepth 100000 in
set_option maxHeartbeats 1000000 in
theorem sortedFunc_any {Bm eb : Nat} {D : DataW Unit} (hm : w.cell? ⟨Bm, 0, none⟩ = some (.map (some eb))) (hES : ESet w eb D E) (hE : Rises E) (hN : E.Nodup) (hb : ∀ e ∈ E, e.1 < 1000000 ∧ e.2 < 1000000) (hl : E.length < 1000000) :
    Calls Tryz.prog 63 #[.func (.func 103) #[] #[.pointer (some ⟨Bm, 0, none⟩)], .func (.func 65) #[] #[]] w fun e w' => ∃ a c, e = .returned (.slice a E.length c) ∧ RowKit.Below w.heap.size w w' ∧ EdgesAt w' a E ∧ (∀ b, a = some ⟨b, 0, none⟩ → w.heap.size ≤ b) ∧ E.length ≤ c ∧ c ≤ maxLen := by
  have hc := collect_any hm hES hN hb hl
  clear hm hES
  go_enter Tryz.func63, Tryz.ntmps63
  go_wp2_with fail
  refine hc.mono ?_
  rintro e w1 ⟨v, ss, rfl, hp, hrow, hnil, hbl⟩
  clear hc
  have hlen := hp.length_eq
  by_cases c : ss = []
  · obtain rfl := hnil.2 c
    have hE0 : E = [] := by rw [c] at hp; exact List.nil_perm.1 hp
    have hs := fun fv => AnyF.slices_SortFunc_none Tryz.lSortF none 0 fv w1
    have hs' : ∀ fv, Calls Tryz.prog 92 #[.slice none 0 0, fv] w1 fun e w' => e = .returned (.tuple #[]) ∧ w' = w1 := hs
    clear hs hp hrow hnil
    go_wp2_with fail
    refine (hs' _).mono ?_
    rintro e w2 ⟨rfl, rfl⟩
    go_wp2_with fail
    go_ret
    refine ⟨none, 0, by rw [hE0]; rfl, hbl, ⟨fun i hi => by rw [hE0] at hi; simp at hi⟩, (fun b e => by cases e), by rw [hE0]; simp, Nat.zero_le _⟩
  · obtain ⟨g, cap, rfl⟩ : ∃ g cap, v = .slice (some ⟨g, 0, none⟩) ss.length cap := by
      rcases hrow.2 with ⟨_, h0⟩ | ⟨g, cap, _, hv, _⟩
      · exact absurd (List.length_eq_zero_iff.1 h0) c
      · exact ⟨g, cap, hv⟩
    obtain ⟨hH, hg, hbg, hcm⟩ := holds_two hrow c
    have hcap : ss.length ≤ cap := by
      rcases hrow.2 with ⟨_, h0⟩ | ⟨g', cap', cur, hv, _, _, h1, _⟩
      · omega
      · simp only [Value.slice.injEq, Option.some.injEq, Addr.mk.injEq, and_true, true_and] at hv
        omega
    have hs := sortf_any (cap := cap) ss w1 hH hg (by omega)
    rw [sorted_rises hE hp] at hs
    have HH : Hid (HoldsK two 2 w1 g 0 ss.toArray) := hH
    have HL : Hid (ss.length = E.length) := hlen
    clear hH hrow hnil c hlen
    go_wp2_with fail
    refine hs.mono ?_
    rintro e w2 ⟨rfl, q, os, hw2⟩
    have hlen := HL.out
    have h2 : HoldsK two 2 w2 g 0 E.toArray ∧ RowKit.Below w.heap.size w1 w2 := by
      rw [hw2]
      have hsz := hbl.size
      refine ⟨holdsK_grow two 2 _ _ _ _ _ (by simpa [putRowK] using hg) (holdsK_putRowK two 2 _ _ _ ss.toArray _ (holdsK_ahead two 2 _ _ _ _ _ HH.out) (by simp; omega)), (below_putK _ hbg).trans (below_grows _ (by simp [putRowK]; omega))⟩
    clear hw2 hs hlen
    go_wp2_with fail
    go_ret
    have hlen := HL.out
    refine ⟨some ⟨g, 0, none⟩, cap, by rw [← hlen]; rfl, hbl.trans h2.2, edgesAt_of h2.1, (fun b e => by cases e; exact hbg), by omega, hcm⟩

set_option maxHeartbeats 1000000 in
theorem fedges_any (f : FAt w L E p) : Calls Tryz.prog 25 #[.pointer (some ⟨L.g, 0, none⟩)] w fun e w' => ∃ a c, e = .returned (.slice a E.length c) ∧ RowKit.Below w.heap.size w w' ∧ EdgesAt w' a E ∧ (∀ b, a = some ⟨b, 0, none⟩ → w.heap.size ≤ b) ∧ E.length ≤ c ∧ c ≤ maxLen := by
  obtain ⟨DW, DE, m, -⟩ := f.mem
  have c2 := m.c2
  have hb0 : RowKit.Below w.heap.size w (w.alloc (.cells #[.map (some L.eb)] 106)) := (RowKit.Below.refl _ _).alloc (Nat.le_refl _) _
  have hlt : ∀ e ∈ E, e.1 < 1000000 ∧ e.2 < 1000000 := fun e he => by
    have := f.grown.among e he
    have := m.n60
    omega
  have hl : E.length < 1000000 := by
    have h1 := (forest_parts f.grown.among f.grown.rest).2.1 f.grown.forest
    have := m.n60
    omega
  have hs := sortedFunc_any (w := w.alloc (.cells #[.map (some L.eb)] 106)) (Bm := w.heap.size) (by simp) ((m.below hb0).edges) f.grown.rises (forest_nodup f.grown.forest) hlt hl
  clear m
  go_enter Tryz.func25, Tryz.ntmps25
  go_wp2_with fail
  refine (keys_any _ _).mono ?_
  rintro e w1 ⟨rfl, rfl⟩
  go_wp2_with fail
  refine hs.mono ?_
  rintro e w2 ⟨a, c, rfl, hb2, hE2, ha, hc1, hc2⟩
  clear hs
  go_wp2_with fail
  go_ret
  refine ⟨a, c, rfl, below_step hb0 hb2, hE2, fun b e => ?_, hc1, hc2⟩
  have := ha b e
  simp at this
  omega

end Go.Proofs.YtcfemppdeidjmacGreat

namespace Go.Proofs.YtcfemppdeidjmacGreat.Gr
set_option linter.unusedSectionVars false
variable [Inhabited Zed]
open Go.RowKit Go.Deep Go.Shelf Go.Sort Go.Lib Go.Maps
open Go.RowKit (Below)
set_option linter.unusedVariables false

variable {w w' : World} {G : GPl} {A A' : List (Nat × Nat)} {lv : Nat × Nat → Nat} {tr : Nat × Nat → Bool} {X Y : Nat → List (Nat × Nat)} {a b : Nat} {q : Nat × Nat → Bool}

set_option maxRecDepth 100000 in
set_option maxHeartbeats 400000 in
theorem picked1_any (x y : Nat × Nat) (W : World) : Calls Tryz.prog 93 #[.agg (two x).toArray, .agg (two y).toArray] W fun e w' => e = .returned (.int .i64 (cmpE x y)) ∧ ∃ q os', w' = grow (W.drewN q) os' := by
  obtain ⟨x1, x2⟩ := x
  obtain ⟨y1, y2⟩ := y
  have hc : cmpE (x1, x2) (y1, y2) = orOf (Lib.compareInt x1 y1) (Lib.compareInt x2 y2) := rfl
  rw [hc]
  clear hc
  show Calls Tryz.prog 93 #[.agg #[.int .i64 (x1 : Int), .int .i64 (x2 : Int)], .agg #[.int .i64 (y1 : Int), .int .i64 (y2 : Int)]] W _
  have q := compare_any
  generalize Lib.compareInt = c at q ⊢
  obtain ⟨W2, hW2⟩ : ∃ W2, (W.alloc (.cells #[.int .i64 (x1 : Int), .int .i64 (x2 : Int)] 44)).alloc (.cells #[.int .i64 (y1 : Int), .int .i64 (y2 : Int)] 44) = W2 := ⟨_, rfl⟩
  have a1 : W2.cell? ⟨W.heap.size, 0, none⟩ = some (.int .i64 (x1 : Int)) := by rw [← hW2]; simp
  have a2 : W2.cell? ⟨W.heap.size, 1, none⟩ = some (.int .i64 (x2 : Int)) := by rw [← hW2]; simp
  have a3 : W2.cell? ⟨W.heap.size + 1, 0, none⟩ = some (.int .i64 (y1 : Int)) := by rw [← hW2]; simp
  have a4 : W2.cell? ⟨W.heap.size + 1, 1, none⟩ = some (.int .i64 (y2 : Int)) := by rw [← hW2]; simp
  have hor : Calls Tryz.prog 66 #[.slice (some ⟨W2.heap.size, 0, none⟩) 2 2] (W2.alloc (.cells #[.int .i64 (c x1 y1), .int .i64 (c x2 y2)] 3)).drew fun e w' => e = .returned (.int .i64 (orOf (c x1 y1) (c x2 y2))) ∧ w' = (W2.alloc (.cells #[.int .i64 (c x1 y1), .int .i64 (c x2 y2)] 3)).drew := or_any (c x1 y1) (c x2 y2) _ (by simp) (by simp)
  have HW : Hid ((W2.alloc (.cells #[.int .i64 (c x1 y1), .int .i64 (c x2 y2)] 3)).drew = grow (W.drewN 1) #[.cells #[.int .i64 (x1 : Int), .int .i64 (x2 : Int)] 44, .cells #[.int .i64 (y1 : Int), .int .i64 (y2 : Int)] 44, .cells #[.int .i64 (c x1 y1), .int .i64 (c x2 y2)] 3]) := show _ = _ by
    rw [← hW2, alloc_eq_grow, alloc_eq_grow, alloc_eq_grow, grow_grow, grow_grow, drew_grow]; rfl
  have hl2 : W.heap.size + 1 < W2.heap.size := World.block_lt_of_cell? _ _ a3
  go_enter Tryz.func93, Tryz.ntmps93
  go_wp2_with fail
  clear hW2
  generalize W.heap.size = B1 at *
  go_region_held3 (fun V => V.cell? ⟨B1, 0, none⟩ = some (.int .i64 (x1 : Int)) ∧ V.cell? ⟨B1, 1, none⟩ = some (.int .i64 (x2 : Int)) ∧ V.cell? ⟨B1 + 1, 0, none⟩ = some (.int .i64 (y1 : Int)) ∧ V.cell? ⟨B1 + 1, 1, none⟩ = some (.int .i64 (y2 : Int))) (first | (go_keep; done))
    (first
      | (go_at_call 66; refine hor.mono ?_; rintro e w1 ⟨rfl, rfl⟩)
      | (go_at_call 67; refine (q _ _ _).mono ?_; rintro e w1 ⟨rfl, rfl⟩))
  go_wp2_with fail
  go_ret
  exact ⟨rfl, 1, _, HW.out⟩

theorem cmpLaysG (blk off size : Nat) (w : World) : CmpLays Tryz.prog 93 #[] two 2 cmpE blk off size w := fun _ _ _ _ x y => picked1_any x y _

theorem sortg_any {blk cap : Nat} (d : List (Nat × Nat)) (w : World) (hH : HoldsK two 2 w blk 0 d.toArray) (hblk : blk < w.heap.size) (hsz : d.length < 1000000) :
    Calls Tryz.prog 92 #[.slice (some ⟨blk, 0, none⟩) d.length cap, .func (.func 93) #[] #[]] w fun e w' => e = .returned (.tuple #[]) ∧ ∃ n os, w' = sortWorldK two 2 w blk 0 n (d.mergeSort fun x y => !ltOf cmpE y x).toArray os := by
  have eg : ∀ args w, (callFunc 93 args).run Tryz.prog w = .ok (.enter 93 args) w := enters_of Tryz.func93 (by kernel_rfl) rfl
  have := AnyQ.slices_SortFunc_total Tryz.lSortF 2 Tryz.isAgg44 Tryz.sizeOf44 two (fun _ => rfl) (fun x v hv => by simp [two] at hv; rcases hv with rfl | rfl <;> rfl) cmpE swoE 93 #[] blk 0 cap d.toArray w eg (cmpLaysG _ _ _ _) hH hblk (by simp; omega) cmp_total
  change Calls Tryz.prog 92 _ _ _ at this
  simpa using this

def Picked (A : List (Nat × Nat)) (q : Nat × Nat → Bool) (left : Lit → Bool) (ss : List (Nat × Nat)) : Prop :=
  ss.Nodup ∧ ∀ e, e ∈ ss ↔ e ∈ A ∧ q e = true ∧ ∀ kl, keyOf Tryz.prog 44 (ev (e.1 : Nat) (e.2 : Nat)) = some kl → left kl = false

theorem Picked.perm {left : Lit → Bool} {ss : List (Nat × Nat)} (h : Picked A q left ss) (hA : A.Nodup) (hl : ∀ kl, left kl = false) : ss.Perm (A.filter q) := by
  rw [List.perm_ext_iff_of_nodup h.1 (hA.sublist List.filter_sublist)]
  intro e
  rw [h.2 e, List.mem_filter]
  exact ⟨fun h => ⟨h.1, h.2.1⟩, fun h => ⟨h.1, h.2, fun kl _ => hl kl⟩⟩

theorem struck {left : Lit → Bool} {e x : Nat × Nat} {kl k : Lit} (hk : keyOf Tryz.prog 44 (ev (e.1 : Nat) (e.2 : Nat)) = some kl) (hk2 : keyOf Tryz.prog 44 (ev (x.1 : Nat) (x.2 : Nat)) = some k) : (left k && !k.sameKey kl) = false ↔ x = e ∨ left k = false := by
  by_cases c : x = e
  · subst c
    rw [hk] at hk2
    cases hk2
    rw [WideAt.sameKey_self (Tryz.lawEdge.key hk)]
    simp
  · have hne : k ≠ kl := fun e1 => by
      subst e1
      have := ev_inj (Tryz.lawEdge.inj hk2 hk)
      exact c (Prod.ext (by omega) (by omega))
    rw [sameKey_ne hne]
    simp [c]

theorem Picked.no {left : Lit → Bool} {ss : List (Nat × Nat)} (h : Picked A q left ss) {e : Nat × Nat} {kl : Lit} (hk : keyOf Tryz.prog 44 (ev (e.1 : Nat) (e.2 : Nat)) = some kl) (hq : q e = false) :
    Picked A q (fun z => left z && !z.sameKey kl) ss := by
  refine ⟨h.1, fun x => ?_⟩
  rw [h.2 x]
  constructor
  · rintro ⟨h1, h2, h3⟩
    exact ⟨h1, h2, fun k hk2 => (struck hk hk2).2 (Or.inr (h3 k hk2))⟩
  · rintro ⟨h1, h2, h3⟩
    exact ⟨h1, h2, fun k hk2 => ((struck hk hk2).1 (h3 k hk2)).resolve_left fun e1 => by rw [e1, hq] at h2; cases h2⟩

theorem Picked.yes {left : Lit → Bool} {ss : List (Nat × Nat)} (h : Picked A q left ss) {e : Nat × Nat} (he : e ∈ A) {kl : Lit} (hk : keyOf Tryz.prog 44 (ev (e.1 : Nat) (e.2 : Nat)) = some kl) (hl : left kl = true) (hq : q e = true) :
    Picked A q (fun z => left z && !z.sameKey kl) (ss ++ [e]) := by
  have hn : e ∉ ss := fun hm => by have := ((h.2 e).1 hm).2.2 kl hk; rw [hl] at this; cases this
  refine ⟨List.nodup_append.2 ⟨h.1, by simp, fun a ha b hb => by simp at hb; subst hb; exact fun e1 => hn (e1 ▸ ha)⟩, fun x => ?_⟩
  rw [List.mem_append, List.mem_singleton, h.2 x]
  constructor
  · rintro (⟨h1, h2, h3⟩ | rfl)
    · exact ⟨h1, h2, fun k hk2 => (struck hk hk2).2 (Or.inr (h3 k hk2))⟩
    · exact ⟨he, hq, fun k hk2 => (struck hk hk2).2 (Or.inl rfl)⟩
  · rintro ⟨h1, h2, h3⟩
    by_cases c : x = e
    · exact Or.inr c
    · exact Or.inl ⟨h1, h2, fun k hk2 => ((struck hk hk2).1 (h3 k hk2)).resolve_left c⟩

structure Picks (w wr : World) (mb nn : Nat) (D : DataW Unit) (A : List (Nat × Nat)) (q : Nat × Nat → Bool) (left : Lit → Bool) (cnt : Nat) (ss : List (Nat × Nat)) (v : Value) : Prop where
  rg : wr.ranges Tryz.prog 44 heldElem mb w.heap.size nn D left cnt
  len : ss.length + cnt ≤ A.length
  pk : Picked A q left ss
  own : wr.ownsRow (w.heap.size + 1) 44 2 v ss.length (twos ss)
  nil : v = .slice none 0 0 ↔ ss = []
  below : Below w.heap.size w wr
  more : w.heap.size + 1 ≤ wr.heap.size

theorem grown_below {w w' : World} (h : Below w.heap.size w w') : w.grownBy w' none := ⟨h.os, h.tape, h.output, h.size, fun k hk _ => h.block k hk⟩

theorem own_ne {wr : World} {base r : Nat} {e : TypeId} {m k : Nat} {v : Value} {xs : List Value} (h : wr.ownsRow base e m v k xs) (hr : r < base) : v.ownBlock = none ∨ v.ownBlock ≠ some r := by
  cases hv : v.ownBlock with
  | none => exact Or.inl rfl
  | some g =>
    right
    intro e1
    have := (h.lt g hv).1
    have := Option.some.inj e1
    omega

theorem own_ne0 {wr : World} {base : Nat} {e : TypeId} {m k : Nat} {v : Value} {xs : List Value} (h : wr.ownsRow base e m v k xs) : v.ownBlock = none ∨ v.ownBlock ≠ none := Classical.em _

theorem Picks.next {wr w1 : World} {mb nn cnt cnt1 : Nat} {D : DataW Unit} {left left1 : Lit → Bool} {ss : List (Nat × Nat)} {v : Value} (h : Picks w wr mb nn D A q left cnt ss v) (hrg : w1.ranges Tryz.prog 44 heldElem mb w.heap.size nn D left1 cnt1) (hg : wr.grownBy w1 (some w.heap.size)) :
    w1.ownsRow (w.heap.size + 1) 44 2 v ss.length (twos ss) ∧ Below w.heap.size w w1 ∧ w.heap.size + 1 ≤ w1.heap.size :=
  ⟨h.own.kept hg (own_ne h.own (Nat.lt_succ_self _)), h.below.grown hg (by have := h.more; omega) (fun k e => by cases e; exact Nat.le_refl _), Nat.le_trans h.more hg.size⟩

theorem wpList_next_held {ops : Array Oper} {rest : List Oper} {o : Oper} {ac : Act} {Q : Exit → Act → World → Prop} {mb r nn cnt : Nat} {D : DataW Unit} {left : Lit → Bool} (w0 wr : World) (hg : o.guard = none) (it : Operand) (hop : o.op = Op.next it false)
    (hD : HMap w0 mb D A lv tr) (hit : ac.eval it = .pointer (some ⟨r, 0, none⟩)) (h : wr.ranges Tryz.prog 44 heldElem mb r nn D left cnt)
    (hDone : (∀ kl, left kl = false) → wpList Tryz.prog ops Q rest (ac.put o.dst (.tuple #[.bool false])) wr)
    (hMore : ∀ (e1 e2 : Nat) (kl : Lit) (w1 : World) (cnt1 : Nat), (e1, e2) ∈ A → keyOf Tryz.prog 44 (ev (e1 : Nat) (e2 : Nat)) = some kl → left kl = true → w1.ranges Tryz.prog 44 heldElem mb r nn D (fun z => left z && !z.sameKey kl) cnt1 → cnt1 < cnt →
      wr.grownBy w1 (some r) → w1.heap.size = wr.heap.size → (Instr.entry (.pointer (some ⟨r, 0, none⟩))).run Tryz.prog w1 = .ok (.tuple #[.agg #[.int .i64 (e1 : Int), .int .i64 (e2 : Int)], .agg #[.int .i64 (lv (e1, e2) : Nat), .bool (tr (e1, e2))]]) w1 →
      wpList Tryz.prog ops Q rest (ac.put o.dst (.tuple #[.bool true, .agg #[.int .i64 (e1 : Int), .int .i64 (e2 : Int)], .agg #[.int .i64 (lv (e1, e2) : Nat), .bool (tr (e1, e2))]])) w1) :
    wpList Tryz.prog ops Q (o :: rest) ac wr := by
  refine wpList_next_ranges wr hg it hop 44 Tryz.lawEdge heldElem (fun x : Int × Int => ev x.1 x.2) id (fun key kl hk => by obtain ⟨a, b, h⟩ := key_form hk; exact ⟨(a, b), h⟩) (fun v _ _ => ⟨v, rfl⟩) mb r nn D left cnt hit h (fun _ hl => hDone hl) ?_
  intro x v kl y w1 cnt1 hkey hlk hv hat hrg1 hlt hg1 hs1 hen
  obtain ⟨⟨e1, e2⟩, he, hev⟩ := (hD.has _ kl hkey).1 (has_true_of_atKey hat)
  rw [hev] at hkey hen
  have h1 := hat (hd 0 false)
  rw [hD.at_ (e1, e2) he kl hkey] at h1
  obtain ⟨yd, yp⟩ := y
  simp only at h1
  rw [← h1] at hv
  have h2 := held_inv hv
  simp only [id] at h2
  rw [hev]
  simp only [id] at hen ⊢
  rw [h2] at hen ⊢
  exact hMore e1 e2 kl w1 cnt1 he hkey hlk hrg1 hlt hg1 hs1 hen

set_option maxRecDepth 100000 in
set_option maxHeartbeats 8000000 in
theorem picked_any (h : GMem w G A lv tr X) (q : Nat × Nat → Bool) (gf : Nat) (lb : Array Value) (eg : ∀ args w, (callFunc gf args).run Tryz.prog w = .ok (.enter gf args) w)
    (hp : ∀ W, Below w.heap.size w W → ∀ e ∈ A, Calls Tryz.prog gf (#[ev (e.1 : Nat) (e.2 : Nat), hv (lv e) (tr e)] ++ lb) W fun x W' => x = .returned (.bool (q e)) ∧ Below W.heap.size W W') :
    Calls Tryz.prog 46 #[.pointer (some ⟨G.g, 0, none⟩), .func (.func gf) #[] lb] w fun e w' => ∃ a c, e = .returned (.slice a (A.filter q).length c) ∧ Below w.heap.size w w' ∧ EdgesAt w' a (A.filter q) ∧ (∀ b, a = some ⟨b, 0, none⟩ → w.heap.size ≤ b) ∧ (A.filter q).length ≤ c ∧ c ≤ maxLen := by
  obtain ⟨D, hD⟩ := h.map
  obtain ⟨nn, hown⟩ := hD.own
  have c1 := h.c1
  have hN := rises_nodup h.rises
  have hr := h.rises.filter q
  have h200 := h.m200
  have hlt : ∀ e ∈ A, e.1 < 1000000 ∧ e.2 < 1000000 := fun e he => by have := h.node he; have := h.n60; omega
  obtain ⟨z0, hi0, hz0, hz1, hz2⟩ := info_parts Tryz.infoEdge
  have HD : Hid (HMap w G.mb D A lv tr ∧ A.Nodup ∧ Rises (A.filter q) ∧ (∀ e ∈ A, e.1 < 1000000 ∧ e.2 < 1000000)) := ⟨hD, hN, hr, hlt⟩
  have HP : Hid (∀ W, Below w.heap.size w W → ∀ e ∈ A, Calls Tryz.prog gf (#[ev (e.1 : Nat) (e.2 : Nat), hv (lv e) (tr e)] ++ lb) W fun x W' => x = .returned (.bool (q e)) ∧ Below W.heap.size W W') := hp
  clear h hD hN hr hlt hp
  go_enter Tryz.func46, Tryz.ntmps46
  go_wp2_with (first
    | (at_range; refine wpList_range_own _ rfl _ 85 rfl 44 91 Tryz.lawEdge Tryz.underlying85 _ G.mb nn _ rfl hown ?_; intro w0 hrg0 hg0 hs0)
    | go_in)
  go_frame
  have hP0 : Picks w w0 G.mb nn D A q (Maps.has D) (Maps.size D) [] (.slice none 0 0) := by
    refine ⟨hrg0, by rw [HD.out.1.size]; simp, ⟨List.nodup_nil, fun e => ?_⟩, World.ownsRow_nil .., by simp, (Below.refl _ _).grown hg0 (Nat.le_refl _) (fun k e => by cases e), by omega⟩
    simp only [List.not_mem_nil, false_iff]
    rintro ⟨he, _, h2⟩
    obtain ⟨kl, hk⟩ := key_some e.1 e.2 (HD.out.2.2.2 e he).1 (HD.out.2.2.2 e he).2
    have h3 := h2 kl hk
    rw [(HD.out.1.has _ kl hk).2 ⟨e, he, rfl⟩] at h3
    cases h3
  have HP0 : Hid (Picks w w0 G.mb nn D A q (Maps.has D) (Maps.size D) [] (.slice none 0 0)) := hP0
  clear hP0 hrg0 hg0 hs0 hown c1
  go_loopw [5] (fun v wr => ∃ (left : Lit → Bool) (cnt : Nat) (ss : List (Nat × Nat)), Picks w wr G.mb nn D A q left cnt ss v) (fun _ wr => wr.rangeLeft G.mb w.heap.size)
  case atStart => exact ⟨_, _, _, HP0.out⟩
  case round =>
    obtain ⟨left, cnt, ss, hR⟩ := hrel
    have hrg := hR.rg
    have HR : Hid (Picks w wr G.mb nn D A q left cnt ss u5) := hR
    clear hR
    go_wp2_with (first
      | (at_next; refine wpList_next_held w wr rfl _ rfl HD.out.1 rfl hrg (fun hl0 => ?_) (fun e1 e2 kl w1 cnt1 he hkey hlk hrg1 hlt hg1 hs1 hen => ?_)))
    · -- nothing is left: what was picked is put in order
      have hR := HR.out
      have hp := hR.pk.perm HD.out.2.1 hl0
      have hlen := hp.length_eq
      have hbl := hR.below
      by_cases c : ss = []
      · obtain rfl := hR.nil.2 c
        have hE0 : A.filter q = [] := by rw [c] at hp; exact List.nil_perm.1 hp
        have hs' : ∀ fv, Calls Tryz.prog 92 #[.slice none 0 0, fv] wr fun e w' => e = .returned (.tuple #[]) ∧ w' = wr := fun fv => AnyF.slices_SortFunc_none Tryz.lSortF none 0 fv wr
        have HE : Hid (A.filter q = []) := hE0
        clear hR hp HP HP0 hrg hE0 hlen c HR hl0
        go_wp2_with fail
        refine (hs' _).mono ?_
        rintro e w2 ⟨rfl, rfl⟩
        go_wp2_with fail
        go_ret
        refine ⟨none, 0, by rw [HE.out]; rfl, hbl, ⟨fun i hi => by rw [HE.out] at hi; simp at hi⟩, (fun b e => by cases e), by rw [HE.out]; simp, Nat.zero_le _⟩
      · have hrow := hR.own
        obtain ⟨g, cap, rfl⟩ : ∃ g cap, u5 = .slice (some ⟨g, 0, none⟩) ss.length cap := by
          rcases hrow.2 with ⟨_, h0⟩ | ⟨g, cap, _, hv, _⟩
          · exact absurd (List.length_eq_zero_iff.1 h0) c
          · exact ⟨g, cap, hv⟩
        obtain ⟨hH, hg, hbg, hcm⟩ := holds_two hrow c
        have hcap : ss.length ≤ cap := by
          rcases hrow.2 with ⟨_, h0⟩ | ⟨g', cap', cur, hv, _, _, h1, _⟩
          · omega
          · simp only [Value.slice.injEq, Option.some.injEq, Addr.mk.injEq, and_true, true_and] at hv
            omega
        have hfl : (A.filter q).length ≤ A.length := List.length_filter_le ..
        have hs := sortg_any (cap := cap) ss wr hH hg (by omega)
        rw [sorted_rises HD.out.2.2.1 hp] at hs
        have HH : Hid (HoldsK two 2 wr g 0 ss.toArray ∧ ss.length = (A.filter q).length) := ⟨hH, hlen⟩
        clear hR hp HP HP0 hrg HR hl0 hH hrow c hlen
        go_wp2_with fail
        refine hs.mono ?_
        rintro e w2 ⟨rfl, qn, os, hw2⟩
        have hlen := HH.out.2
        have h2 : HoldsK two 2 w2 g 0 (A.filter q).toArray ∧ Below w.heap.size wr w2 := by
          rw [hw2]
          have hsz := hbl.size
          refine ⟨holdsK_grow two 2 _ _ _ _ _ (by simpa [putRowK] using hg) (holdsK_putRowK two 2 _ _ _ ss.toArray _ (holdsK_ahead two 2 _ _ _ _ _ HH.out.1) (by simp; omega)), (below_putK _ (by omega)).trans (below_grows _ (by simp [putRowK]; omega))⟩
        clear hw2 hs hlen
        go_wp2_with fail
        go_ret
        have hlen := HH.out.2
        refine ⟨some ⟨g, 0, none⟩, cap, by rw [← hlen]; rfl, hbl.trans h2.2, edgesAt_of h2.1, (fun b e => by cases e; omega), by omega, hcm⟩
    · -- an edge has come
      obtain ⟨ho1, hb1, hm1⟩ := HR.out.next hrg1 hg1
      have HK : Hid (keyOf Tryz.prog 44 (ev (e1 : Nat) (e2 : Nat)) = some kl ∧ left kl = true ∧ (e1, e2) ∈ A) := ⟨hkey, hlk, he⟩
      have hbW : Below w.heap.size w ((w1.alloc (.cells #[.int .i64 (e1 : Int), .int .i64 (e2 : Int)] 44)).alloc (.cells #[.int .i64 (lv (e1, e2) : Nat), .bool (tr (e1, e2))] 91)) := (hb1.alloc (by omega) _).alloc (by simp; omega) _
      have hpk := HP.out _ hbW (e1, e2) he
      have hrgW := (hrg1.alloc (.cells #[.int .i64 (e1 : Int), .int .i64 (e2 : Int)] 44)).alloc (.cells #[.int .i64 (lv (e1, e2) : Nat), .bool (tr (e1, e2))] 91)
      have hoW := (ho1.alloc (.cells #[.int .i64 (e1 : Int), .int .i64 (e2 : Int)] 44)).alloc (.cells #[.int .i64 (lv (e1, e2) : Nat), .bool (tr (e1, e2))] 91)
      have x0 : ((w1.alloc (.cells #[.int .i64 (e1 : Int), .int .i64 (e2 : Int)] 44)).alloc (.cells #[.int .i64 (lv (e1, e2) : Nat), .bool (tr (e1, e2))] 91)).cell? ⟨wr.heap.size, 0, none⟩ = some (.int .i64 (e1 : Int)) := by rw [← hs1]; simp
      have x1 : ((w1.alloc (.cells #[.int .i64 (e1 : Int), .int .i64 (e2 : Int)] 44)).alloc (.cells #[.int .i64 (lv (e1, e2) : Nat), .bool (tr (e1, e2))] 91)).cell? ⟨wr.heap.size, 1, none⟩ = some (.int .i64 (e2 : Int)) := by rw [← hs1]; simp
      have hmW : w.heap.size + 1 ≤ ((w1.alloc (.cells #[.int .i64 (e1 : Int), .int .i64 (e2 : Int)] 44)).alloc (.cells #[.int .i64 (lv (e1, e2) : Nat), .bool (tr (e1, e2))] 91)).heap.size := by simp; omega
      dsimp only [ev, hv] at hpk
      generalize hWW : ((w1.alloc (.cells #[.int .i64 (e1 : Int), .int .i64 (e2 : Int)] 44)).alloc (.cells #[.int .i64 (lv (e1, e2) : Nat), .bool (tr (e1, e2))] 91)) = W at *
      generalize lv (e1, e2) = l at *
      generalize tr (e1, e2) = t at *
      refine hpk.mono ?_
      rintro x W2 ⟨rfl, hb2⟩
      have hb02 := below_step hbW hb2
      have hrg2 := hrgW.kept (grown_below hb2) (by simp) (by simp)
      have ho2 := hoW.kept (grown_below hb2) (own_ne0 hoW)
      have y0 := cell_keep hb2 x0
      have y1 := cell_keep hb2 x1
      have hm2 : w.heap.size + 1 ≤ W2.heap.size := Nat.le_trans hmW hb2.size
      have hln := HR.out.len
      clear hpk hbW hrgW hoW x0 x1 hb1 hb2 ho1 hmW hen hrg1 hg1 hs1 hm1 hWW HP0
      cases hq : q (e1, e2) with
      | false =>
        have HN : Hid (Picks w W2 G.mb nn D A q (fun z => left z && !z.sameKey kl) cnt1 ss u5) := ⟨hrg2, by omega, HR.out.pk.no HK.out.1 hq, ho2, HR.out.nil, hb02, hm2⟩
        clear hrg2 ho2 hb02 hm2 HR HK hq y0 y1
        go_wp2_with fail
        go_roundw
        case rel => exact ⟨_, _, _, HN.out⟩
        case measure => rw [HN.out.rg.left_eq, hrg.left_eq]; exact hlt
      | true =>
        have hcn : ∀ j u, (two (e1, e2))[j]? = some u → (W2.alloc (.cells #[.int .i64 (e1 : Int), .int .i64 (e2 : Int)] 44)).cell? (Addr.add ⟨W2.heap.size, 0, none⟩ j) = some u := fun j u hj => by
          match j, hj with
          | 0, hj => cases hj; simp [Addr.add]
          | 1, hj => cases hj; simp [Addr.add]
        have HPK : Hid (Picked A q (fun z => left z && !z.sameKey kl) (ss ++ [(e1, e2)])) := HR.out.pk.yes HK.out.2.2 HK.out.1 HK.out.2.1 hq
        have HG : Hid (W2.ranges Tryz.prog 44 heldElem G.mb w.heap.size nn D (fun z => left z && !z.sameKey kl) cnt1 ∧ Below w.heap.size w W2) := ⟨hrg2, hb02⟩
        have hmb : G.mb < w.heap.size := map_lt HD.out.1.isMap
        clear hrg2 hb02 HK hq
        go_wp2_with (first
          | (at_builtin; refine wpList_append_own _ rfl (.tmp 22) (.tmp 24) 31 rfl (w.heap.size + 1) 44 z0 (.agg #[.int .i64 0, .int .i64 0]) 2 16 Tryz.underlying31 hi0 hz0 hz1 hz2 rfl (by decide) u5 ss.length (twos ss) rfl (ho2.alloc _) ⟨W2.heap.size, 0, none⟩ 1 1 (two (e1, e2)) rfl rfl hcn (by simp [two, Value.oneCell']) ?c3 ?c4 ?c5 ?_))
        case c3 => unfold maxLen; omega
        case c4 => omega
        case c5 => simp; omega
        intro v' w3 hown' hgrow hnil
        have hne : ∀ k, u5.ownBlock = some k → w.heap.size + 1 ≤ k := fun k e => (ho2.lt k e).1
        have hN : Picks w w3 G.mb nn D A q (fun z => left z && !z.sameKey kl) cnt1 (ss ++ [(e1, e2)]) v' := by
          refine ⟨(HG.out.1.alloc _).kept hgrow (fun e => ?_) (fun e => ?_), by simp; omega, HPK.out, ?_, ?_, ?_, ?_⟩
          · have := hne _ e.symm; omega
          · have := hne _ e.symm; omega
          · rw [twos_snoc, List.length_append]; exact hown'
          · exact ⟨fun h => absurd h hnil, fun h => by simp at h⟩
          · have hsz := HG.out.2.size
            exact (HG.out.2.alloc hsz _).grown hgrow (by simp; omega) (fun k e => by have := hne k e; omega)
          · have := hgrow.size; simp at this; omega
        have HN : Hid (Picks w w3 G.mb nn D A q (fun z => left z && !z.sameKey kl) cnt1 (ss ++ [(e1, e2)]) v') := hN
        clear hN hown' hgrow hnil hne hcn HPK HG ho2 y0 y1 hmb HR
        go_wp2_with fail
        go_roundw
        case rel => exact ⟨_, _, _, HN.out⟩
        case measure => rw [HN.out.rg.left_eq, hrg.left_eq]; exact hlt

end Go.Proofs.YtcfemppdeidjmacGreat.Gr
