/-
  Kc Kd Ke Kg Ki Kj
-/
import Derived.Test.YtcfemppdeidjmacGreatT25
import Derived.Test.YtcfemppdeidjmacGreatSh3
import Derived.RangeFuncBox
namespace Go.Proofs.YtcfemppdeidjmacGreat.Sp
open Go.RowKit Go.Deep Go.Shelf Go.Sort Go.Lib
open Go.RowKit (Below)
set_option linter.unusedVariables false

set_option maxHeartbeats 400000 in
theorem compare_any (a b : Int) (w : World) : Calls Tryz.prog 67 #[.int .i64 a, .int .i64 b] w fun e w' => e = .returned (.int .i64 (Lib.compareInt a b)) ∧ w' = w := by
  unfold Lib.compareInt
  rcases Int.lt_trichotomy a b with h | h | h
  · rw [if_pos h]
    go_enter Tryz.func67, Tryz.ntmps67
    go_wp2
    all_goals (go_ret; exact ⟨rfl, rfl⟩)
  · subst h
    rw [if_neg (by omega), if_neg (by omega)]
    go_enter Tryz.func67, Tryz.ntmps67
    go_wp2
    all_goals (go_ret; exact ⟨rfl, rfl⟩)
  · have h' : ¬ a < b := by omega
    rw [if_neg h', if_pos h]
    go_enter Tryz.func67, Tryz.ntmps67
    go_wp2
    all_goals (go_ret; exact ⟨rfl, rfl⟩)

def orOf (a b : Int) : Int := if a = 0 then b else a

set_option maxHeartbeats 1000000 in
theorem or_any {g : Nat} (a b : Int) (w : World) (h0 : w.cell? ⟨g, 0, none⟩ = some (.int .i64 a)) (h1 : w.cell? ⟨g, 1, none⟩ = some (.int .i64 b)) :
    Calls Tryz.prog 66 #[.slice (some ⟨g, 0, none⟩) 2 2] w fun e w' => e = .returned (.int .i64 (orOf a b)) ∧ w' = w := by
  have HA : Hid (w.cell? ⟨g, 0, none⟩ = some (.int .i64 a) ∧ w.cell? ⟨g, 1, none⟩ = some (.int .i64 b)) := ⟨h0, h1⟩
  clear h0 h1
  go_enter Tryz.func66, Tryz.ntmps66
  go_wp2_with fail
  go_loopw [5, 8] (fun _ i wr => ∃ j : Nat, j ≤ 2 ∧ i = .int .i64 (j : Nat) ∧ (0 < j → a = 0) ∧ (1 < j → b = 0) ∧ wr = w) (fun _ i _ => 2 - (intOf i).toNat)
  case atStart => exact ⟨0, by omega, rfl, fun h => absurd h (by omega), fun h => absurd h (by omega), rfl⟩
  case round =>
    obtain ⟨j, hj, rfl, ha, hb, rfl⟩ := hrel
    obtain ⟨h0, h1⟩ := HA.out
    match j, hj with
    | 0, _ =>
      by_cases c : a = 0
      · have e : (a != 0) = false := by simp [c]
        clear ha hb
        go_wp2_with fail
        go_roundw
        case rel => exact ⟨1, by omega, by go_num, fun _ => c, fun h => absurd h (by omega), by first | rfl | exact trivial⟩
        case measure => simp [intOf]
      · have e : (a != 0) = true := by simp [c]
        have HE : Hid (orOf a b = a) := show _ = _ by rw [orOf, if_neg c]
        clear ha hb c
        go_wp2_with fail
        go_ret
        exact ⟨by rw [HE.out]; rfl, rfl⟩
    | 1, _ =>
      have ha' := ha (by omega)
      by_cases c : b = 0
      · have e : (b != 0) = false := by simp [c]
        clear ha hb
        go_wp2_with fail
        go_roundw
        case rel => exact ⟨2, by omega, by go_num, fun _ => ha', fun _ => c, by first | rfl | exact trivial⟩
        case measure => simp [intOf]
      · have e : (b != 0) = true := by simp [c]
        have HE : Hid (orOf a b = b) := show _ = _ by rw [orOf, if_pos ha']
        clear ha hb c ha'
        go_wp2_with fail
        go_ret
        exact ⟨by rw [HE.out]; rfl, rfl⟩
    | 2, _ =>
      have HE : Hid (orOf a b = 0) := show _ = _ by rw [orOf, if_pos (ha (by omega)), hb (by omega)]
      clear ha hb
      go_wp2_with fail
      go_ret
      exact ⟨by rw [HE.out]; rfl, rfl⟩

def cmpW (wt : Nat → Nat) (x y : Nat) : Int := orOf (Lib.compareInt (wt x : Nat) (wt y : Nat)) (Lib.compareInt (x : Nat) (y : Nat))

theorem cmpW_lt (wt : Nat → Nat) (x y : Nat) : decide (cmpW wt x y < 0) = ahead wt x y := by
  rw [Bool.eq_iff_iff, ahead_iff, decide_eq_true_iff]
  unfold cmpW orOf Lib.compareInt
  repeat' split
  all_goals omega

set_option maxRecDepth 100000 in
set_option maxHeartbeats 1000000 in
theorem light1_any {a : Option Addr} {m c B : Nat} {wt : Nat → Nat} (x y : Nat) (hx : x < m) (hy : y < m) (hm : m ≤ 200) (W : World) (hB : W.cell? ⟨B, 0, none⟩ = some (.slice a m c)) (hw : ∀ i, i < m → ∃ b o, a = some ⟨b, o, none⟩ ∧ W.cell? ⟨b, o + i * 3 + 2, none⟩ = some (.int .i64 (wt i : Nat))) :
    Calls Tryz.prog 146 #[.int .i64 (x : Nat), .int .i64 (y : Nat), .pointer (some ⟨B, 0, none⟩)] W fun e w' => e = .returned (.int .i64 (cmpW wt x y)) ∧ ∃ q os', w' = grow (W.drewN q) os' := by
  obtain ⟨b, o, rfl, c1⟩ := hw x hx
  obtain ⟨b', o', e', c2⟩ := hw y hy
  simp only [Option.some.injEq, Addr.mk.injEq, and_true] at e'
  obtain ⟨rfl, rfl⟩ := e'
  clear hw
  have hc : cmpW wt x y = orOf (Lib.compareInt (wt x : Nat) (wt y : Nat)) (Lib.compareInt (x : Nat) (y : Nat)) := rfl
  rw [hc]
  clear hc
  have q := compare_any
  generalize Lib.compareInt = cf at q ⊢
  generalize wt x = wx at *
  generalize wt y = wy at *
  have hor : Calls Tryz.prog 66 #[.slice (some ⟨W.heap.size, 0, none⟩) 2 2] (W.alloc (.cells #[.int .i64 (cf wx wy), .int .i64 (cf x y)] 3)).drew fun e w' => e = .returned (.int .i64 (orOf (cf wx wy) (cf x y))) ∧ w' = (W.alloc (.cells #[.int .i64 (cf wx wy), .int .i64 (cf x y)] 3)).drew := or_any (cf wx wy) (cf x y) _ (by simp) (by simp)
  have HW : Hid ((W.alloc (.cells #[.int .i64 (cf wx wy), .int .i64 (cf x y)] 3)).drew = grow (W.drewN 1) #[.cells #[.int .i64 (cf wx wy), .int .i64 (cf x y)] 3]) := show _ = _ by
    rw [alloc_eq_grow, drew_grow]; rfl
  have i0 : (0 : Int) ≤ (x : Int) := by omega
  have i1 : (x : Int) < (m : Int) := by omega
  have i2 : (0 : Int) ≤ (y : Int) := by omega
  have i3 : (y : Int) < (m : Int) := by omega
  go_enter Tryz.func146, Tryz.ntmps146
  go_wp2_with fail
  go_region_held3 (fun V => V.cell? ⟨B, 0, none⟩ = some (.slice (some ⟨b, o, none⟩) m c) ∧ V.cell? ⟨b, o + x * 3 + 2, none⟩ = some (.int .i64 (wx : Nat)) ∧ V.cell? ⟨b, o + y * 3 + 2, none⟩ = some (.int .i64 (wy : Nat))) (first | (go_keep; done))
    (first
      | (go_at_call 66; refine hor.mono ?_; rintro e w1 ⟨rfl, rfl⟩)
      | (go_at_call 67; refine (q _ _ _).mono ?_; rintro e w1 ⟨rfl, rfl⟩))
  go_wp2_with fail
  go_ret
  exact ⟨rfl, 1, _, HW.out⟩

end Go.Proofs.YtcfemppdeidjmacGreat.Sp

namespace Go.Proofs.YtcfemppdeidjmacGreat.Sp
open Go.RowKit Go.Deep Go.Shelf Go.Sort Go.Lib
open Go.RowKit (Below)
set_option linter.unusedVariables false

theorem below_put {α : Type} [Inhabited α] (enc : α → Value) {w : World} {base blk q : Nat} (d : Array α) (h : base ≤ blk) : RowKit.Below base w (putRow enc (Sort.ahead w q) blk 0 d) :=
  ⟨rfl, rfl, rfl, by simp, fun k hk => by
    unfold putRow mapBlock
    show ((Sort.ahead w q).heap.modify blk _)[k]? = _
    rw [Array.getElem?_modify, if_neg (by omega)]
    rfl⟩

theorem below_grows {w : World} {base : Nat} (os : Array Obj) (h : base ≤ w.heap.size) : RowKit.Below base w (grow w os) := ⟨rfl, rfl, rfl, by simp, fun k hk => heap_grow_old w os (by omega)⟩

def fenc {m : Nat} (i : Fin m) : Value := .int .i64 ((i.val : Nat) : Int)

def cmpF (wt : Nat → Nat) {m : Nat} (x y : Fin m) : Int := cmpW wt x.val y.val

theorem cmpF_lt (wt : Nat → Nat) {m : Nat} (x y : Fin m) : ltOf (cmpF wt) x y = ahead wt x.val y.val := cmpW_lt wt x.val y.val

theorem swoF (wt : Nat → Nat) (m : Nat) : SWO (ltOf (cmpF wt (m := m))) where
  irrefl x := by rw [cmpF_lt]; simp [ahead]
  trans x y z h1 h2 := by rw [cmpF_lt, ahead_iff] at *; omega
  ntrans x y z h1 h2 := by rw [cmpF_lt] at *; simp only [ahead, decide_eq_false_iff_not] at *; omega

theorem totF (wt : Nat → Nat) {m : Nat} (x y : Fin m) (h1 : ltOf (cmpF wt) x y = false) (h2 : ltOf (cmpF wt) y x = false) : x = y := by
  rw [cmpF_lt] at h1 h2
  simp only [ahead, decide_eq_false_iff_not] at h1 h2
  exact Fin.ext (by omega)

theorem finRange_val (m : Nat) : (List.finRange m).map (fun i : Fin m => i.val) = List.range m := by
  apply List.ext_getElem
  · simp
  · intro i h1 h2; simp

theorem order_fin (wt : Nat → Nat) (m : Nat) : Order m wt (((List.finRange m).mergeSort fun x y => !ltOf (cmpF wt) y x).map fun i => i.val) := by
  have tr : ∀ a b c : Fin m, (!ltOf (cmpF wt) b a) = true → (!ltOf (cmpF wt) c b) = true → (!ltOf (cmpF wt) c a) = true := fun a b c h1 h2 => by
    simp only [cmpF_lt, ahead, Bool.not_eq_true', decide_eq_false_iff_not] at *; omega
  have to : ∀ a b : Fin m, ((!ltOf (cmpF wt) b a) || (!ltOf (cmpF wt) a b)) = true := fun a b => by
    simp only [cmpF_lt, ahead, Bool.or_eq_true, Bool.not_eq_true', decide_eq_false_iff_not]; omega
  have hp : (((List.finRange m).mergeSort fun x y => !ltOf (cmpF wt) y x).map fun i => i.val).Perm (List.range m) := by
    rw [← finRange_val m]
    exact (List.mergeSort_perm _ _).map _
  refine ⟨hp, ?_⟩
  have hs := List.pairwise_mergeSort tr to (List.finRange m)
  have hs' : (((List.finRange m).mergeSort fun x y => !ltOf (cmpF wt) y x).map fun i => i.val).Pairwise fun x y => (!ahead wt y x) = true := List.pairwise_map.2 (hs.imp fun {a b} h => by rw [cmpF_lt] at h; exact h)
  refine (hs'.and (hp.nodup_iff.2 List.nodup_range)).imp fun {a b} h => ?_
  obtain ⟨h1, h2⟩ := h
  simp only [ahead, Bool.not_eq_true', decide_eq_false_iff_not, decide_eq_true_eq] at *
  omega

theorem fin_get {m : Nat} [Inhabited (Fin m)] (l : List (Fin m)) (j : Nat) (hj : j < l.length) : (l.toArray[j]!).val = (l.map fun i => i.val).getD j 0 := by
  simp [hj]

def Sorts (m blk : Nat) (wt : Nat → Nat) (w : World) (e : Ending) (w' : World) : Prop :=
  e = .returned (.tuple #[]) ∧ ∃ o, Order m wt o ∧ (∀ i, i < m → w'.cell? ⟨blk, i, none⟩ = some (.int .i64 (o.getD i 0 : Nat))) ∧ Below blk w w'

theorem sortfi_any {a : Option Addr} {m c B blk cap : Nat} {wt : Nat → Nat} (hm : m ≤ 200) (w : World) (hB : w.cell? ⟨B, 0, none⟩ = some (.slice a m c)) (hw : ∀ i, i < m → ∃ b o, a = some ⟨b, o, none⟩ ∧ w.cell? ⟨b, o + i * 3 + 2, none⟩ = some (.int .i64 (wt i : Nat)) ∧ b ≠ blk) (hBne : B ≠ blk) (hblk : blk < w.heap.size)
    (hH : ∀ i, i < m → w.cell? ⟨blk, i, none⟩ = some (.int .i64 (i : Nat)) ∧ w.frozen? ⟨blk, i, none⟩ = false) :
    Calls Tryz.prog 145 #[.slice (some ⟨blk, 0, none⟩) m cap, .func (.func 146) #[] #[.pointer (some ⟨B, 0, none⟩)]] w (Sorts m blk wt w) := by
  rcases Nat.eq_zero_or_pos m with rfl | hm0
  · have hs := AnyF.slices_SortFunc_none { Tryz.lSortFI with } (some ⟨blk, 0, none⟩) cap (.func (.func 146) #[] #[.pointer (some ⟨B, 0, none⟩)]) w
    have hs' : Calls Tryz.prog 145 #[.slice (some ⟨blk, 0, none⟩) 0 cap, .func (.func 146) #[] #[.pointer (some ⟨B, 0, none⟩)]] w fun e w' => e = .returned (.tuple #[]) ∧ w' = w := hs
    refine hs'.mono ?_
    rintro e w' ⟨rfl, rfl⟩
    exact ⟨rfl, [], ⟨by simp, List.Pairwise.nil⟩, fun i hi => absurd hi (Nat.not_lt_zero _), Below.refl _ _⟩
  · have inst : Inhabited (Fin m) := ⟨⟨0, hm0⟩⟩
    have eg : ∀ args w, (callFunc 146 args).run Tryz.prog w = .ok (.enter 146 args) w := enters_of Tryz.func146 (by kernel_rfl) rfl
    have hd : ∀ j, j < m → ((List.finRange m).toArray[j]!).val = j := fun j hj => by
      rw [fin_get _ _ (by simpa using hj), finRange_val, List.getD_eq_getElem?_getD, List.getElem?_range hj]; rfl
    have hHd : Holds (fenc (m := m)) w blk 0 (List.finRange m).toArray := fun j hj => by
      have hj' : j < m := by simpa using hj
      rw [Nat.zero_add, fenc, hd j hj']
      exact hH j hj'
    have hlB : B < w.heap.size := World.block_lt_of_cell? _ _ hB
    have hcmp : CmpLays1 Tryz.prog 146 #[.pointer (some ⟨B, 0, none⟩)] (fenc (m := m)) (cmpF wt) blk 0 (List.finRange m).toArray.size w := fun k os dk hdk x y => by
      have cs : ∀ b o, b ≠ blk → b < w.heap.size → (sortWorld (fenc (m := m)) w blk 0 k dk os).cell? ⟨b, o, none⟩ = w.cell? ⟨b, o, none⟩ := fun b o h1 h2 => by
        unfold sortWorld
        rw [cell?_grow _ _ _ (by show b < (putRow _ _ _ _ _).heap.size; simpa using h2), cell?_putRow_other _ _ blk 0 _ _ (Or.inl h1)]
        rfl
      exact light1_any x.val y.val x.isLt y.isLt hm _ ((cs B 0 hBne hlB).trans hB) (fun i hi => by
        obtain ⟨b, o, e, h1, h2⟩ := hw i hi
        exact ⟨b, o, e, (cs b _ h2 (World.block_lt_of_cell? _ _ h1)).trans h1⟩)
    have hs := Any.slices_SortFunc_total Tryz.lSortFI (fenc (m := m)) (fun _ => rfl) (cmpF wt) (swoF wt m) 146 #[.pointer (some ⟨B, 0, none⟩)] blk 0 cap (List.finRange m).toArray w eg hcmp hHd hblk (by simp; omega) (totF wt)
    have hs' : Calls Tryz.prog 145 #[.slice (some ⟨blk, 0, none⟩) m cap, .func (.func 146) #[] #[.pointer (some ⟨B, 0, none⟩)]] w fun e w' => e = .returned (.tuple #[]) ∧ ∃ n os, w' = sortWorld (fenc (m := m)) w blk 0 n ((List.finRange m).mergeSort fun x y => !(ltOf (cmpF wt)) y x).toArray os := by
      change Calls Tryz.prog 145 _ _ _ at hs
      simpa using hs
    refine hs'.mono ?_
    rintro e w' ⟨rfl, n, os, rfl⟩
    have ho := order_fin wt m
    generalize hL : ((List.finRange m).mergeSort fun x y => !ltOf (cmpF wt) y x) = L at ho ⊢
    have hlen : L.length = m := by rw [← hL, List.length_mergeSort, List.length_finRange]
    refine ⟨rfl, _, ho, fun i hi => ?_, ?_⟩
    · have hh : Holds (fenc (m := m)) (sortWorld (fenc (m := m)) w blk 0 n L.toArray os) blk 0 L.toArray := by
        unfold sortWorld
        exact holds_grow _ _ _ _ _ _ (by simpa using hblk) (holds_putRow _ _ _ _ (List.finRange m).toArray _ (holds_ahead _ _ _ _ _ _ hHd) (by simp [hlen]))
      have h1 := (hh i (by simp; omega)).1
      rw [Nat.zero_add, fenc, fin_get _ _ (by omega)] at h1
      exact h1
    · unfold sortWorld
      exact (below_put _ _ (Nat.le_refl _)).trans (below_grows _ (by simp; omega))

structure Counted (w0 w : World) (a : Option Addr) (m c j : Nat) : Prop where
  row : w.rowIs (w0.heap.size + 1) 3 m (fun i => if i < j then .int .i64 (i : Nat) else .int .i64 0)
  box : w.cell? ⟨w0.heap.size, 0, none⟩ = some (.slice a m c)
  below : Below w0.heap.size w0 w

theorem counted_new (w : World) (a : Option Addr) (m c : Nat) : Counted w ((w.alloc (.cells #[.slice a m c] 55)).alloc (.cells (madeCells #[.int .i64 0] m) 3)) a m c 0 := by
  have e1 : (w.alloc (.cells #[.slice a m c] 55)).heap.size = w.heap.size + 1 := by simp
  refine ⟨?_, ?_, (below_box _ _).alloc (by rw [e1]; omega) _⟩
  · have := World.rowIs_made (w.alloc (.cells #[.slice a m c] 55)) (.int .i64 0) m 3
    rw [e1] at this
    exact this.congr fun i _ => by simp
  · rw [World.cell?_alloc_lt _ _ ⟨w.heap.size, 0, none⟩ (by simp)]; simp

theorem Counted.step {w0 w : World} {a : Option Addr} {m c j : Nat} (h : Counted w0 w a m c j) : Counted w0 (w.setCell ⟨w0.heap.size + 1, j, none⟩ (.int .i64 (j : Nat))) a m c (j + 1) := by
  refine ⟨?_, ?_, h.below.setCell (p := ⟨w0.heap.size + 1, j, none⟩) (by show w0.heap.size ≤ w0.heap.size + 1; omega) _⟩
  · refine (h.row.set j _).congr fun i hi => ?_
    by_cases e : i = j
    · subst e; simp
    · by_cases e2 : i < j
      · simp [e, e2, Nat.lt_succ_of_lt e2]
      · have : ¬ i < j + 1 := by omega
        simp [e, e2, this]
  · exact (World.cell?_setCell_other (h := by simp only [ne_eq, Addr.mk.injEq, not_and]; intro h1; omega) ..).trans h.box

def Lightest (m : Nat) (wt : Nat → Nat) (w : World) (e : Ending) (w' : World) : Prop :=
  ∃ k o, e = .returned (.slice (some ⟨k, 0, none⟩) m m) ∧ Below w.heap.size w w' ∧ w.heap.size ≤ k ∧ k < w'.heap.size ∧ Order m wt o ∧ ∀ i, i < m → w'.cell? ⟨k, i, none⟩ = some (.int .i64 (o.getD i 0 : Nat))

set_option maxRecDepth 100000 in
set_option maxHeartbeats 1000000 in
theorem light_any {a : Option Addr} {m c : Nat} {ed : Nat → Nat × Nat} {wt : Nat → Nat} {w : World} (h : HvAt w a m ed wt) (hm : m ≤ 200) :
    Calls Tryz.prog 109 #[.slice a m c] w (Lightest m wt w) := by
  have hmk := run_make_row' (P := Tryz.prog) 33 3 (.int .i64 0) 8 Tryz.underlying33 Un.Tryz.infoInt rfl .i64 .i64 m (by omega) (by omega)
  have HH : Hid (HvAt w a m ed wt) := h
  clear h
  go_enter Tryz.func109, Tryz.ntmps109
  go_wp2_with fail
  clear hmk
  go_loopw [4, 10] (fun _ i wr => ∃ j : Nat, j ≤ m ∧ i = .int .i64 (j : Nat) ∧ Counted w wr a m c j) (fun _ i _ => m - (intOf i).toNat)
  case atStart => exact ⟨0, Nat.zero_le _, rfl, counted_new w a m c⟩
  case round =>
    obtain ⟨j, hj, rfl, hM⟩ := hrel
    by_cases hlt : j < m
    · have d1 : wr.cell? ⟨w.heap.size + 1, j, none⟩ = some (.int .i64 0) := by rw [hM.row.cell hlt]; simp
      have f1 := hM.row.frozen j
      have i0 : (0 : Int) ≤ (j : Int) := by omega
      have i1 : (j : Int) < (m : Int) := by omega
      have HM : Hid (Counted w wr a m c j) := hM
      clear hM
      go_wp2_with fail
      go_roundw
      case rel => exact ⟨j + 1, by omega, by go_num, HM.out.step⟩
      case measure => simp [intOf]; omega
    · obtain rfl : j = m := by omega
      have hbl := hM.below
      have hv := HH.out.below hbl
      have hk1 := hM.row.lt
      have hs := sortfi_any (a := a) (m := j) (c := c) (B := w.heap.size) (blk := w.heap.size + 1) (cap := j) (wt := wt) hm wr hM.box (fun i hi => by
          obtain ⟨b, o, e, h1, _, h3⟩ := hv i hi
          obtain ⟨b', o', e', h1', _⟩ := HH.out i hi
          have hb : b = b' := by rw [e] at e'; simp at e'; exact e'.1
          have := World.block_lt_of_cell? _ _ h1'
          exact ⟨b, o, e, h3, by simp only at this; omega⟩) (by omega) hk1 (fun i hi => ⟨by rw [hM.row.cell hi, if_pos hi], hM.row.frozen i⟩)
      clear hM hv HH
      go_wp2_with fail
      refine hs.mono ?_
      rintro e w2 ⟨rfl, o, ho, hc, hb2⟩
      clear hs
      go_wp2_with fail
      go_ret
      exact ⟨w.heap.size + 1, o, rfl, hbl.trans (hb2.mono (by omega)), by omega, by have := hb2.size; omega, ho, hc⟩

end Go.Proofs.YtcfemppdeidjmacGreat.Sp

namespace Go.Proofs.YtcfemppdeidjmacGreat.Sp
open Go.RowKit Go.Deep
set_option linter.unusedVariables false

variable {m n : Nat} {ed : Nat → Nat × Nat} {wt : Nat → Nat} {t : Nat → Bool}

def Off (a : Option Addr) (m : Nat) (C : Nat → Prop) : Prop := ∀ b o, a = some ⟨b, o, none⟩ → 0 < m → ¬ C b

theorem HvAt.lt {w : World} {a : Option Addr} (h : HvAt w a m ed wt) {b o : Nat} (e : a = some ⟨b, o, none⟩) (hm : 0 < m) : b < w.heap.size := by
  obtain ⟨b', o', e', h1, _⟩ := h 0 hm
  rw [e] at e'
  simp only [Option.some.injEq, Addr.mk.injEq, and_true] at e'
  have := World.block_lt_of_cell? _ _ h1
  simp only at this
  omega

theorem HvAt.moves {w w' : World} {a : Option Addr} {C C' : Nat → Prop} (h : HvAt w a m ed wt) (hm : Un.Moves C w w' C') (ho : Off a m C) : HvAt w' a m ed wt := fun i hi => by
  obtain ⟨b, o, e, h1, h2, h3⟩ := h i hi
  have hb := hm.block b (h.lt e (by omega)) (ho b o e (by omega))
  exact ⟨b, o, e, (World.cell?_of_block (w := w) (a := ⟨b, _, none⟩) hb).trans h1, (World.cell?_of_block (w := w) (a := ⟨b, _, none⟩) hb).trans h2, (World.cell?_of_block (w := w) (a := ⟨b, _, none⟩) hb).trans h3⟩

theorem Off.moves {w w' : World} {a : Option Addr} {C C' : Nat → Prop} (ho : Off a m C) (h : HvAt w a m ed wt) (hm : Un.Moves C w w' C') : Off a m C' := fun b o e h0 hc => by
  rcases hm.foot b hc with h1 | h1
  · exact ho b o e h0 h1
  · have := h.lt e h0; omega

theorem under {C0 C F F' : Nat → Prop} {w0 w w' : World} (h : Un.Moves C0 w0 w C) (hm : Un.Moves F w w' F') (hF : ∀ k, F k → w0.heap.size ≤ k) : Un.Moves C0 w0 w' C :=
  ⟨hm.os.trans h.os, hm.tape.trans h.tape, hm.output.trans h.output, Nat.le_trans h.size hm.size, fun k hk hn => (hm.block k (Nat.lt_of_lt_of_le hk h.size) (fun hf => by have := hF k hf; omega)).trans (h.block k hk hn), h.foot⟩

def edI (ed : Nat → Nat × Nat) (k : Nat) : Int × Int := (((ed k).1 : Nat), ((ed k).2 : Nat))

theorem gen_conn (ha : ∀ k, k < m → (ed k).1 < n ∧ (ed k).2 < n) {P : List Nat} (hP : ∀ k ∈ P, k < m) {L : List (Nat × Nat)} (h : Gen n (P.map (edI ed)).reverse L) (i j : Nat) : rt L i = rt L j ↔ Conn (P.map ed) i j := by
  refine h.conn (fun a b => ?_) i j
  have key : ∀ a b : Nat, ((a : Int), (b : Int)) ∈ (P.map (edI ed)).reverse ↔ (a, b) ∈ P.map ed := fun a b => by
    rw [List.mem_reverse, List.mem_map, List.mem_map]
    constructor
    · rintro ⟨k, hk, e⟩
      simp only [edI, Prod.mk.injEq, Int.natCast_inj] at e
      exact ⟨k, hk, Prod.ext e.1 e.2⟩
    · rintro ⟨k, hk, e⟩
      exact ⟨k, hk, by rw [edI, e]⟩
  rw [key, key]
  constructor
  · exact fun h => h.2.2
  · intro h
    have hn : a < n ∧ b < n := by
      rcases h with h | h
      · obtain ⟨k, hk, e⟩ := List.mem_map.1 h
        have := ha k (hP k hk)
        rw [e] at this
        exact this
      · obtain ⟨k, hk, e⟩ := List.mem_map.1 h
        have := ha k (hP k hk)
        rw [e] at this
        exact ⟨this.2, this.1⟩
    exact ⟨hn.1, hn.2, h⟩

structure Clos (n m : Nat) (ed : Nat → Nat × Nat) (t : Nat → Bool) (gf : Nat) (lb : Array Value) (Clo : List Nat → Bool → World → (Nat → Prop) → Prop) (G H : List Nat → Prop) : Prop where
  enters : ∀ args w, (callFunc gf args).run Tryz.prog w = .ok (.enter gf args) w
  lt : ∀ {l b w C}, Clo l b w C → ∀ k, C k → k < w.heap.size
  keep : ∀ {l b w w' C F F'}, Clo l b w C → Un.Moves F w w' F' → (∀ k, C k → ¬ F k) → Clo l b w' C
  start : G []
  skip : ∀ {P i}, G P → Conn (P.map ed) (ed i).1 (ed i).2 → G (P ++ [i])
  call : ∀ {P i w C base g F L}, P.length < m → i < m → t i = true → Clo (P.filter t) true w C → Un.UAt base n w g F L → (∀ k, C k → ¬ F k) → base ≤ w.heap.size → (∀ x y, rt L x = rt L y ↔ Conn ((P ++ [i]).map ed) x y) → G P →
    Calls Tryz.prog gf (#[.int .i64 ((i : Nat) : Int), .pointer (some ⟨g, 0, none⟩)] ++ lb) w fun e w' => ∃ b C', e = .returned (.bool b) ∧ Un.Moves C w w' C' ∧ Clo (P.filter t ++ [i]) b w' C' ∧ (b = true → G (P ++ [i])) ∧ (b = false → H (P ++ [i]))

structure Grows (w0 w : World) (a : Option Addr) (g ko : Nat) (C0 : Nat → Prop) (o : List Nat) (n m : Nat) (ed : Nat → Nat × Nat) (wt : Nat → Nat) (t : Nat → Bool) (Clo : List Nat → Bool → World → (Nat → Prop) → Prop) (G : List Nat → Prop) (F C : Nat → Prop) (L : List (Nat × Nat)) (P : List Nat) : Prop where
  un : Un.UAt w0.heap.size n w g F L
  gen : Gen n (P.map (edI ed)).reverse L
  clo : Clo (P.filter t) true w C
  mv : Un.Moves C0 w0 w C
  apart : ∀ k, C k → ¬ F k
  new : ∀ k, F k → w0.heap.size ≤ k
  cells : ∀ i, i < m → w.cell? ⟨ko, i, none⟩ = some (.int .i64 (o.getD i 0 : Nat))
  lt : ko < w.heap.size
  offF : ¬ F ko
  offC : ¬ C ko
  hv : HvAt w a m ed wt
  offA : Off a m F
  offB : Off a m C
  good : G P

theorem Grows.below {w0 w w' : World} {a : Option Addr} {g ko : Nat} {C0 : Nat → Prop} {o : List Nat} {gf : Nat} {lb : Array Value} {Clo : List Nat → Bool → World → (Nat → Prop) → Prop} {G H : List Nat → Prop} {F C : Nat → Prop} {L : List (Nat × Nat)} {P : List Nat}
    (h : Grows w0 w a g ko C0 o n m ed wt t Clo G F C L P) (k : Clos n m ed t gf lb Clo G H) (hb : Below w.heap.size w w') : Grows w0 w' a g ko C0 o n m ed wt t Clo G F C L P :=
  ⟨h.un.below hb, h.gen, k.keep h.clo (Un.Moves.of_below (F := fun _ => False) hb) (fun _ _ h => h), under h.mv (Un.Moves.of_below (F := fun _ => False) hb) (fun _ h => h.elim), h.apart, h.new, fun i hi => Un.cell_keep hb (h.cells i hi), Nat.lt_of_lt_of_le h.lt hb.size, h.offF, h.offC, h.hv.below hb, h.offA, h.offB, h.good⟩

theorem Grows.joined {w0 w w' : World} {a : Option Addr} {g ko : Nat} {C0 : Nat → Prop} {o : List Nat} {gf : Nat} {lb : Array Value} {Clo : List Nat → Bool → World → (Nat → Prop) → Prop} {G H : List Nat → Prop} {F C F' : Nat → Prop} {L L' : List (Nat × Nat)} {P : List Nat} {i : Nat}
    (h : Grows w0 w a g ko C0 o n m ed wt t Clo G F C L P) (k : Clos n m ed t gf lb Clo G H) (hU : Un.UAt w0.heap.size n w' g F' L') (hm : Un.Moves F w w' F') (hj : Joins n (edI ed i).1 (edI ed i).2 L L') :
    Gen n ((P ++ [i]).map (edI ed)).reverse L' ∧ Clo (P.filter t) true w' C ∧ Un.Moves C0 w0 w' C ∧ (∀ k, C k → ¬ F' k) ∧ (∀ k, F' k → w0.heap.size ≤ k) ∧ (∀ i, i < m → w'.cell? ⟨ko, i, none⟩ = some (.int .i64 (o.getD i 0 : Nat))) ∧ ko < w'.heap.size ∧ ¬ F' ko ∧ HvAt w' a m ed wt ∧ Off a m F' := by
  refine ⟨?_, k.keep h.clo hm h.apart, under h.mv hm h.new, fun x hx hf => ?_, fun x hx => ?_, fun x hx => ?_, Nat.lt_of_lt_of_le h.lt hm.size, fun hf => ?_, h.hv.moves hm h.offA, h.offA.moves h.hv hm⟩
  · rw [List.map_append, List.reverse_append]
    exact h.gen.step hj
  · rcases hm.foot x hf with h1 | h1
    · exact h.apart x hx h1
    · have := k.lt h.clo x hx; omega
  · rcases hm.foot x hx with h1 | h1
    · exact h.new x h1
    · exact Nat.le_trans h.mv.size h1
  · exact (World.cell?_of_block (w := w) (a := ⟨ko, x, none⟩) (hm.block ko h.lt h.offF)).trans (h.cells x hx)
  · rcases hm.foot ko hf with h1 | h1
    · exact h.offF h1
    · have := h.lt; omega

theorem Grows.skipped {w0 w w' : World} {a : Option Addr} {g ko : Nat} {C0 : Nat → Prop} {o : List Nat} {gf : Nat} {lb : Array Value} {Clo : List Nat → Bool → World → (Nat → Prop) → Prop} {G H : List Nat → Prop} {F C F' : Nat → Prop} {L L' : List (Nat × Nat)} {P : List Nat} {i : Nat}
    (h : Grows w0 w a g ko C0 o n m ed wt t Clo G F C L P) (k : Clos n m ed t gf lb Clo G H) (hU : Un.UAt w0.heap.size n w' g F' L') (hm : Un.Moves F w w' F') (hj : Joins n (edI ed i).1 (edI ed i).2 L L') (hti : t i = false) (hc : Conn (P.map ed) (ed i).1 (ed i).2) :
    Grows w0 w' a g ko C0 o n m ed wt t Clo G F' C L' (P ++ [i]) := by
  obtain ⟨h1, h2, h3, h4, h5, h6, h7, h8, h9, h10⟩ := h.joined k hU hm hj
  refine ⟨hU, h1, ?_, h3, h4, h5, h6, h7, h8, h.offC, h9, h10, h.offB, k.skip h.good hc⟩
  rw [List.filter_append, List.filter_cons_of_neg (by rw [hti]; simp), List.filter_nil, List.append_nil]
  exact h2

theorem Grows.told {w0 w w' w'' : World} {a : Option Addr} {g ko : Nat} {C0 : Nat → Prop} {o : List Nat} {gf : Nat} {lb : Array Value} {Clo : List Nat → Bool → World → (Nat → Prop) → Prop} {G H : List Nat → Prop} {F C F' C' : Nat → Prop} {L L' : List (Nat × Nat)} {P : List Nat} {i : Nat}
    (h : Grows w0 w a g ko C0 o n m ed wt t Clo G F C L P) (k : Clos n m ed t gf lb Clo G H) (hU : Un.UAt w0.heap.size n w' g F' L') (hm : Un.Moves F w w' F') (hj : Joins n (edI ed i).1 (edI ed i).2 L L') (hti : t i = true) (hm2 : Un.Moves C w' w'' C') (hclo : Clo (P.filter t ++ [i]) true w'' C') (hg : G (P ++ [i])) :
    Grows w0 w'' a g ko C0 o n m ed wt t Clo G F' C' L' (P ++ [i]) := by
  obtain ⟨h1, h2, h3, h4, h5, h6, h7, h8, h9, h10⟩ := h.joined k hU hm hj
  obtain ⟨u1, u2⟩ := hU.apart hm2 h4
  refine ⟨u1, h1, ?_, h3.trans hm2, u2, h5, fun x hx => ?_, Nat.lt_of_lt_of_le h7 hm2.size, h8, fun hc => ?_, h9.moves hm2 h.offB, h10, h.offB.moves h9 hm2, hg⟩
  · rw [List.filter_append, List.filter_cons_of_pos hti, List.filter_nil]
    exact hclo
  · exact (World.cell?_of_block (w := w') (a := ⟨ko, x, none⟩) (hm2.block ko h7 h.offC)).trans (h6 x hx)
  · rcases hm2.foot ko hc with h11 | h11
    · exact h.offC h11
    · omega

def GrowPost (w0 : World) (C0 : Nat → Prop) (m : Nat) (wt : Nat → Nat) (t : Nat → Bool) (Clo : List Nat → Bool → World → (Nat → Prop) → Prop) (G H : List Nat → Prop) (e : Ending) (w' : World) : Prop :=
  e = .returned .nilIface ∧ ∃ C' o, Order m wt o ∧ Un.Moves C0 w0 w' C' ∧ ((Clo (o.filter t) true w' C' ∧ G o) ∨ ∃ P i Q, o = P ++ i :: Q ∧ t i = true ∧ Clo (P.filter t ++ [i]) false w' C' ∧ G P ∧ H (P ++ [i]))

set_option maxRecDepth 100000 in
set_option maxHeartbeats 1000000 in
theorem grow_any {a : Option Addr} {c : Nat} {w : World} {gf : Nat} {lb : Array Value} {Clo : List Nat → Bool → World → (Nat → Prop) → Prop} {G H : List Nat → Prop} {C0 : Nat → Prop} (k : Clos n m ed t gf lb Clo G H) (hE : Edgs n m ed wt) (ht : Tells m ed wt t) (h : HvAt w a m ed wt) (hoff : Off a m C0) (hclo : Clo [] true w C0) :
    Calls Tryz.prog 76 #[.int .i64 (n : Nat), .slice a m c, .func (.func gf) #[] lb] w (GrowPost w C0 m wt t Clo G H) := by
  have HK : Hid (Clos n m ed t gf lb Clo G H) := k
  have HV : Hid (HvAt w a m ed wt) := h
  have HC : Hid (Clo [] true w C0) := hclo
  have eg := k.enters
  have hm2 := hE.m200
  clear k h hclo
  go_enter Tryz.func76, Tryz.ntmps76
  go_wp2_with fail
  refine (Un.new_u (base := w.heap.size) (Nat.le_refl _) n hE.n1 hE.n60).mono ?_
  rintro e w1 ⟨g, F, rfl, hb1, hU1, hF1⟩
  go_wp2_with fail
  refine (light_any (HV.out.below hb1) hE.m200).mono ?_
  rintro e w2 ⟨ko, o, rfl, hb2, hk1, hk2, ho, hcl⟩
  have hbl := Un.below_step hb1 hb2
  have h0 : Grows w w2 a g ko C0 o n m ed wt t Clo G F C0 [] [] := by
    have hz := hb1.size
    have hCl : ∀ k, C0 k → k < w.heap.size := HK.out.lt HC.out
    refine ⟨hU1.below hb2, Gen.start n, HK.out.keep HC.out (Un.Moves.of_below (F := fun _ => False) hbl) (fun _ _ h => h), under ⟨rfl, rfl, rfl, Nat.le_refl _, fun _ _ _ => rfl, fun _ h => Or.inl h⟩ (Un.Moves.of_below (F := fun _ => False) hbl) (fun _ h => h.elim), fun k h1 h2 => ?_, hF1, hcl, hk2, fun hf => ?_, fun hc => ?_, HV.out.below hbl, fun b o' e h0 hf => ?_, hoff, HK.out.start⟩
    · have := hCl k h1; have := hF1 k h2; omega
    · have := (hU1.lt hf).1; omega
    · have := hCl ko hc; omega
    · have := HV.out.lt e h0; have := hF1 b hf; omega
  have HG : Hid (Grows w w2 a g ko C0 o n m ed wt t Clo G F C0 [] []) := h0
  have HO : Hid (Order m wt o) := ho
  clear h0 hcl hU1 hF1 hb1 hb2 hbl ho
  go_wp2_with fail
  go_loopw [10, 11, 12, 24] (fun _ _ _ i wr => ∃ (j : Nat) (F C : Nat → Prop) (L : List (Nat × Nat)), j ≤ m ∧ i = .int .i64 (j : Nat) ∧ Grows w wr a g ko C0 o n m ed wt t Clo G F C L (o.take j)) (fun _ _ _ i _ => m - (intOf i).toNat)
  case atStart => exact ⟨0, F, C0, [], Nat.zero_le _, rfl, by rw [List.take_zero]; exact HG.out⟩
  case round =>
    obtain ⟨j, F, C, L, hj, rfl, hR⟩ := hrel
    have HR : Hid (Grows w wr a g ko C0 o n m ed wt t Clo G F C L (o.take j)) := hR
    by_cases hlt : j < m
    · obtain ⟨i, hi⟩ : ∃ i, o.getD j 0 = i := ⟨_, rfl⟩
      have hjo : j < o.length := by rw [HO.out.len]; exact hlt
      have hoj : o[j] = i := by rw [← hi, List.getD_eq_getElem?_getD, List.getElem?_eq_getElem hjo]; rfl
      have hsplit : o = o.take j ++ i :: o.drop (j + 1) := by
        rw [← hoj, List.getElem_cons_drop, List.take_append_drop]
      have htk : o.take (j + 1) = o.take j ++ [i] := by
        rw [List.take_add_one, List.getElem?_eq_getElem hjo, hoj]; rfl
      have hcell := hR.cells j hlt
      rw [hi] at hcell
      have hio : i ∈ o := by rw [hsplit]; exact List.mem_append_right _ (List.mem_cons_self ..)
      have him : i < m := HO.out.lt hio
      have hP : ∀ k ∈ o.take j, k < m := fun k hk => HO.out.lt (List.mem_of_mem_take hk)
      have hcon : ∀ x y, rt L x = rt L y ↔ Conn ((o.take j).map ed) x y := gen_conn hE.among hP hR.gen
      have HT : Hid (rt L (ed i).1 ≠ rt L (ed i).2 ↔ t i = true) := by
        have hor : Order m wt (o.take j ++ i :: o.drop (j + 1)) := by rw [← hsplit]; exact HO.out
        show rt L (ed i).1 ≠ rt L (ed i).2 ↔ t i = true
        rw [ne_eq, hcon, hor.lighter]
        exact (ht i).symm
      have HC2 : Hid (rt L (ed i).1 = rt L (ed i).2 → Conn ((o.take j).map ed) (ed i).1 (ed i).2) := (hcon _ _).1
      have HS : Hid (o = o.take j ++ i :: o.drop (j + 1)) := hsplit
      have HTK : Hid (o.take (j + 1) = o.take j ++ [i]) := htk
      have HN : Hid (Nodes n ((ed i).1 : Nat) ((ed i).2 : Nat)) := by
        have := hE.among i him
        exact ⟨by omega, by omega, by omega, by omega⟩
      have hbd : Below wr.heap.size wr wr.drew := (Below.refl _ _).drew
      have hjoin := Un.join_u (hR.un.below hbd) hR.mv.size ((ed i).1 : Nat) ((ed i).2 : Nat)
      have HRd : Hid (Grows w wr.drew a g ko C0 o n m ed wt t Clo G F C L (o.take j)) := hR.below HK.out hbd
      obtain ⟨b, oo, ea, q1, q2, -⟩ := hR.hv i him
      have HEA : Hid (a = some ⟨b, oo, none⟩) := ea
      have i0 : (0 : Int) ≤ (j : Int) := by omega
      have i1 : (j : Int) < (m : Int) := by omega
      have i2 : (0 : Int) ≤ (i : Int) := by omega
      have i3 : (i : Int) < (m : Int) := by omega
      clear hR hsplit htk hi hjo hoj hcon hP hio
      rw [ea]
      clear ea
      obtain ⟨x1, hx1⟩ : ∃ x1, (ed i).1 = x1 := ⟨_, rfl⟩
      obtain ⟨x2, hx2⟩ : ∃ x2, (ed i).2 = x2 := ⟨_, rfl⟩
      have HX : Hid ((ed i).1 = x1 ∧ (ed i).2 = x2) := ⟨hx1, hx2⟩
      rw [hx1] at q1 hjoin
      rw [hx2] at q2 hjoin
      clear hx1 hx2
      have HT2 : Hid (rt L x1 ≠ rt L x2 ↔ t i = true) := by have := HT.out; rw [HX.out.1, HX.out.2] at this; exact this
      have HN2 : Hid (Nodes n (x1 : Nat) (x2 : Nat)) := by have := HN.out; rw [HX.out.1, HX.out.2] at this; exact this
      have HJ : Hid (∀ L', Joins n (x1 : Nat) (x2 : Nat) L L' → Joins n (edI ed i).1 (edI ed i).2 L L') := fun L' h => by simp only [edI]; rw [HX.out.1, HX.out.2]; exact h
      have HB : Hid (∀ w3 F', Un.Moves F wr.drew w3 F' → w3.cell? ⟨b, oo + i * 3, none⟩ = some (.int .i64 (x1 : Nat)) ∧ w3.cell? ⟨b, oo + i * 3 + 1, none⟩ = some (.int .i64 (x2 : Nat))) := fun w3 F' hM' => by
        have hbk := hM'.block b (HRd.out.hv.lt HEA.out (by omega)) (HRd.out.offA b oo HEA.out (by omega))
        exact ⟨(World.cell?_of_block (w := wr.drew) (a := ⟨b, oo + i * 3, none⟩) hbk).trans q1, (World.cell?_of_block (w := wr.drew) (a := ⟨b, oo + i * 3 + 1, none⟩) hbk).trans q2⟩
      cases hti : t i with
      | false =>
        have HI : Hid (t i = false) := hti
        clear hti
        go_wp2_with fail
        go_region_held3 (fun V => V.cell? ⟨b, oo + i * 3, none⟩ = some (.int .i64 (x1 : Nat)) ∧ V.cell? ⟨b, oo + i * 3 + 1, none⟩ = some (.int .i64 (x2 : Nat))) (first | (go_keep; done) | exact ⟨q1, q2⟩ | exact HB.out _ _ hM')
          (first
            | (go_at_call 17; refine hjoin.mono ?_; rintro e w3 ⟨x, err, F', L', rfl, hU', hM', hJ', hx'⟩; obtain ⟨rfl, hx⟩ := hx' HN2.out; obtain rfl : x = false := (by
                rw [Bool.eq_false_iff]; intro hxt; have := HT2.out.1 (hx.1 hxt); rw [HI.out] at this; cases this); clear hx hx'))
        have HF : Hid (Grows w w3 a g ko C0 o n m ed wt t Clo G F' C L' (o.take (j + 1))) := by
          show Grows w w3 a g ko C0 o n m ed wt t Clo G F' C L' (o.take (j + 1))
          rw [HTK.out]
          exact HRd.out.skipped HK.out hU' hM' (HJ.out _ hJ') HI.out (HC2.out (Classical.byContradiction fun h => by have := HT.out.1 h; rw [HI.out] at this; cases this))
        clear hJ' hU' hjoin
        go_wp2_with fail
        go_roundw
        case rel => exact ⟨j + 1, F', C, L', by omega, by go_num, by rw [← HEA.out]; exact HF.out⟩
        case measure => simp [intOf]; omega
      | true =>
        have HI : Hid (t i = true) := hti
        clear hti
        go_wp2_with fail
        go_region_held3 (fun V => V.cell? ⟨b, oo + i * 3, none⟩ = some (.int .i64 (x1 : Nat)) ∧ V.cell? ⟨b, oo + i * 3 + 1, none⟩ = some (.int .i64 (x2 : Nat))) (first | (go_keep; done) | exact ⟨q1, q2⟩ | exact HB.out _ _ hM')
          (first
            | (go_at_call 17; refine hjoin.mono ?_; rintro e w3 ⟨x, err, F', L', rfl, hU', hM', hJ', hx'⟩; obtain ⟨rfl, hx⟩ := hx' HN2.out; obtain rfl : x = true := (by exact hx.2 (HT2.out.2 HI.out)); clear hx hx'))
        have hgj := HRd.out.joined HK.out hU' hM' (HJ.out _ hJ')
        have hcall := HK.out.call (P := o.take j) (by rw [List.length_take]; omega) him HI.out hgj.2.1 hU' hgj.2.2.2.1 hgj.2.2.1.size (gen_conn hE.among (fun k hk => by rw [← HTK.out] at hk; exact HO.out.lt (List.mem_of_mem_take hk)) hgj.1) HRd.out.good
        have HU : Hid (Un.UAt w.heap.size n w3 g F' L' ∧ Joins n (edI ed i).1 (edI ed i).2 L L' ∧ Un.Moves F wr.drew w3 F' ∧ Un.Moves C0 w w3 C) := ⟨hU', HJ.out _ hJ', hM', hgj.2.2.1⟩
        clear hJ' hU' hjoin hgj hM'
        go_wp2_with fail
        refine hcall.mono ?_
        rintro e w4 ⟨b4, C4, rfl, hM4, hclo4, hG4, hH4⟩
        clear hcall
        cases b4 with
        | true =>
          have HF : Hid (Grows w w4 a g ko C0 o n m ed wt t Clo G F' C4 L' (o.take (j + 1))) := by
            show Grows w w4 a g ko C0 o n m ed wt t Clo G F' C4 L' (o.take (j + 1))
            rw [HTK.out]
            exact HRd.out.told HK.out HU.out.1 HU.out.2.2.1 HU.out.2.1 HI.out hM4 hclo4 (hG4 rfl)
          clear hM4 hclo4 hG4 hH4
          go_wp2_with fail
          go_roundw
          case rel => exact ⟨j + 1, F', C4, L', by omega, by go_num, by rw [← HEA.out]; exact HF.out⟩
          case measure => simp [intOf]; omega
        | false =>
          have HF : Hid (GrowPost w C0 m wt t Clo G H (.returned .nilIface) w4) := ⟨rfl, C4, o, HO.out, HU.out.2.2.2.trans hM4, Or.inr ⟨o.take j, i, o.drop (j + 1), HS.out, HI.out, hclo4, HRd.out.good, hH4 rfl⟩⟩
          clear hM4 hclo4 hG4 hH4
          go_wp2_with fail
          go_ret
          exact HF.out
    · have HD : Hid (Clo (o.filter t) true wr C ∧ G o) := by
        have e : o.take j = o := List.take_of_length_le (by rw [HO.out.len]; omega)
        have h1 := hR.clo
        have h2 := hR.good
        rw [e] at h1 h2
        exact ⟨h1, h2⟩
      clear hR
      go_wp2_with fail
      go_ret
      exact ⟨rfl, C, o, HO.out, HR.out.mv, Or.inl HD.out⟩

end Go.Proofs.YtcfemppdeidjmacGreat.Sp

namespace Go.Proofs.YtcfemppdeidjmacGreat.Sp
open Go.RowKit Go.Deep
set_option linter.unusedVariables false

theorem errV_some {e : Int} (h : e ≠ 0) : errV e = .iface 102 (.int .i64 e) := by unfold errV; rw [if_neg h]
theorem errV_none : errV 0 = .nilIface := by unfold errV; rw [if_pos rfl]

end Go.Proofs.YtcfemppdeidjmacGreat.Sp

namespace Go.Proofs.YtcfemppdeidjmacGreat.Sp
open Go.RowKit Go.Deep Go.Shelf Go.Sort Go.Lib
open Go.RowKit (Below)
set_option linter.unusedVariables false

variable {m n : Nat} {ed : Nat → Nat × Nat} {wt : Nat → Nat} {t : Nat → Bool}

def ints (l : List Nat) : List Value := l.map fun k => Value.int .i64 ((k : Nat) : Int)

def SClo (B : Nat) (l : List Nat) (st : Bool) (w : World) (C : Nat → Prop) : Prop :=
  ∃ v, w.heap[B]? = some (.cells #[v] 33 (0, 0)) ∧ w.ownsRow (B + 1) 3 1 v l.length (ints l) ∧ st = true ∧ C = fun k => k = B ∨ v.ownBlock = some k

theorem box_lt {w : World} {B : Nat} {v : Value} (h : w.heap[B]? = some (.cells #[v] 33 (0, 0))) : B < w.heap.size := (Array.getElem?_eq_some_iff.1 h).1

set_option maxHeartbeats 1000000 in
theorem span1_any {B i : Nat} {w : World} {v : Value} {l : List Nat} (hB : w.heap[B]? = some (.cells #[v] 33 (0, 0))) (hrow : w.ownsRow (B + 1) 3 1 v l.length (ints l)) (hl : l.length < 1000) (gv : Value) :
    Calls Tryz.prog 77 #[.int .i64 ((i : Nat) : Int), gv, .pointer (some ⟨B, 0, none⟩)] w fun e w' => e = .returned (.bool true) ∧ ∃ C', Un.Moves (fun k => k = B ∨ v.ownBlock = some k) w w' C' ∧ SClo B (l ++ [i]) true w' C' := by
  obtain ⟨i0, hi0, hz0, hz1, hz2⟩ := info_parts Un.Tryz.infoInt
  have cB : w.cell? ⟨B, 0, none⟩ = some v := by simp [World.cell?, hB]
  have fB : w.frozen? ⟨B, 0, none⟩ = false := by simp [World.frozen?, hB]
  have hlt := box_lt hB
  have HO : Hid (w.ownsRow (B + 1) 3 1 v l.length (ints l)) := hrow
  have HB : Hid (w.heap[B]? = some (.cells #[v] 33 (0, 0))) := hB
  clear hrow hB
  go_enter Tryz.func77, Tryz.ntmps77
  go_wp2_with (first
    | (at_builtin; refine wpList_append_lies _ rfl (.tmp 6) (.tmp 8) 33 rfl (B + 1) 3 i0 (.int .i64 0) 1 8 Tryz.underlying33 hi0 hz0 hz1 hz2 rfl (by decide) v l.length (ints l) rfl (HO.out.alloc _) ⟨w.heap.size, 0, none⟩ 1 1 [.int .i64 ((i : Nat) : Int)] rfl rfl ?c1 ?c2 (by decide) ?c3 ?c4 ?c5 _ rfl ?_))
  case c1 => exact cell_one_new _ _ _
  case c2 => intro u hu; simp at hu; subst hu; rfl
  case c3 => unfold maxLen; omega
  case c4 => omega
  case c5 => simp; omega
  intro g1 cap1 w2 hown hgrow hat hlt2
  have hne : some B ≠ v.ownBlock := fun e => by have := (Un.own_heap HO.out e.symm).1; omega
  have hB2 : w2.heap[B]? = some (.cells #[v] 33 (0, 0)) := by
    rw [hgrow.block B (by simp; omega) hne, heap_alloc_old _ _ hlt]
    exact HB.out
  have cB2 : w2.cell? ⟨B, 0, none⟩ = some v := by simp [World.cell?, hB2]
  have fB2 : w2.frozen? ⟨B, 0, none⟩ = false := by simp [World.frozen?, hB2]
  have HF : Hid (∃ C', Un.Moves (fun k => k = B ∨ v.ownBlock = some k) w (w2.setCell ⟨B, 0, none⟩ (.slice (some ⟨g1, 0, none⟩) (l.length + 1) cap1)) C' ∧ SClo B (l ++ [i]) true (w2.setCell ⟨B, 0, none⟩ (.slice (some ⟨g1, 0, none⟩) (l.length + 1) cap1)) C') := by
    have hg1 : B + 1 ≤ g1 := (Un.own_heap hown (k := g1) rfl).1
    refine ⟨fun k => k = B ∨ k = g1, ⟨hgrow.os, hgrow.tape, hgrow.output, ?_, fun k hk hn => ?_, fun k hk => ?_⟩, .slice (some ⟨g1, 0, none⟩) (l.length + 1) cap1, one_setCell hB2, ?_, rfl, ?_⟩
    · have := hgrow.size; simp at this ⊢; omega
    · rw [Below.heap_setCell _ _ _ _ (fun e => hn (Or.inl e)), hgrow.block k (by simp; omega) (fun e => hn (Or.inr e.symm)), heap_alloc_old _ _ hk]
    · rcases hk with rfl | rfl
      · exact Or.inl (Or.inl rfl)
      · rcases hat with h1 | h1
        · exact Or.inl (Or.inr h1)
        · right; rw [h1]; simp
    · have h1 : w2.ownsRow (B + 1) 3 1 (.slice (some ⟨g1, 0, none⟩) (l.length + 1) cap1) (l ++ [i]).length (ints (l ++ [i])) := by
        have e1 : (l ++ [i]).length = l.length + 1 := by simp
        have e2 : ints (l ++ [i]) = ints l ++ [.int .i64 ((i : Nat) : Int)] := by simp [ints]
        rw [e1, e2]
        exact hown
      exact Un.ownsRow_keep h1 (fun k hk => Below.heap_setCell _ _ _ _ (by
        have e : k = g1 := by simpa [Value.ownBlock] using hk.symm
        show k ≠ B
        omega))
    · funext k
      simp only [Value.ownBlock, Option.some.injEq, eq_iff_iff]
      constructor
      · rintro (h | h)
        · exact Or.inl h
        · exact Or.inr h.symm
      · rintro (h | h)
        · exact Or.inl h
        · exact Or.inr h.symm
  clear hown hgrow hat hlt2
  go_wp2_with fail
  go_ret
  exact ⟨rfl, HF.out⟩

theorem span_clos {B : Nat} (hm : m ≤ 200) : Clos n m ed t 77 #[.pointer (some ⟨B, 0, none⟩)] (SClo B) (fun _ => True) (fun _ => False) where
  enters := enters_of Tryz.func77 (by kernel_rfl) rfl
  lt := by
    rintro l b w C ⟨v, h1, h2, _, rfl⟩ k hk
    rcases hk with rfl | hk
    · exact box_lt h1
    · exact (Un.own_heap h2 hk).2
  keep := by
    rintro l b w w' C F F' ⟨v, h1, h2, h3, rfl⟩ hm hd
    refine ⟨v, (hm.block B (box_lt h1) (hd B (Or.inl rfl))).trans h1, Un.ownsRow_keep h2 (fun k hk => hm.block k (Un.own_heap h2 hk).2 (hd k (Or.inr hk))), h3, rfl⟩
  start := trivial
  skip := fun _ _ => trivial
  call := by
    rintro P i w C base g F L hP hi ht ⟨v, h1, h2, _, rfl⟩ hU hd hbs hcon hG
    have hl : (P.filter t).length < 1000 := by have := List.length_filter_le t P; omega
    refine (span1_any (i := i) h1 h2 hl _).mono ?_
    rintro e w' ⟨rfl, C', hM, hC⟩
    exact ⟨true, C', rfl, hM, hC, fun _ => trivial, fun e => by cases e⟩

end Go.Proofs.YtcfemppdeidjmacGreat.Sp

namespace Go.Proofs.YtcfemppdeidjmacGreat.Sp
open Go.RowKit Go.Deep Go.Shelf Go.Sort Go.Lib
open Go.RowKit (Below)
set_option linter.unusedVariables false

variable {n : Int} {m : Nat} {hv : Nat → Int × Int × Int} {t : Nat → Bool}

def PlacesAt (w : World) (v : Value) (l : List Nat) : Prop :=
  ∃ a c, v = .slice a l.length c ∧ l.length ≤ c ∧ ∀ j, j < l.length → ∃ b, a = some ⟨b, 0, none⟩ ∧ w.cell? ⟨b, j, none⟩ = some (.int .i64 (l.getD j 0 : Nat))

theorem sort_ints {l S : List Nat} (hp : l.Perm S) (hs : S.Pairwise fun x y => x < y) : (l.map Int.ofNat).mergeSort (fun x y => decide (x ≤ y)) = S.map Int.ofNat := by
  refine List.Perm.eq_of_pairwise (le := fun a b : Int => a ≤ b) (fun a b _ _ h1 h2 => Int.le_antisymm h1 h2) ?_ ?_ ((List.mergeSort_perm _ _).trans (hp.map _))
  · have := List.pairwise_mergeSort (le := fun x y : Int => decide (x ≤ y)) (fun a b c h1 h2 => by simp only [decide_eq_true_eq] at *; omega) (fun a b => by simp only [Bool.or_eq_true, decide_eq_true_eq]; omega) (l.map Int.ofNat)
    exact this.imp fun h => by simpa using h
  · refine List.pairwise_map.2 (hs.imp fun {a b} h => ?_)
    show (a : Int) ≤ (b : Int)
    omega

theorem sort_own {w : World} {base : Nat} {v : Value} {l S : List Nat} (hrow : w.ownsRow base 3 1 v l.length (ints l)) (hp : l.Perm S) (hs : S.Pairwise fun x y => x < y) (hl : l.length < 1000000) :
    Calls Tryz.prog 78 #[v] w fun e w' => e = .returned (.tuple #[]) ∧ (base ≤ w.heap.size → Below base w w') ∧ PlacesAt w' v S := by
  have hlen := hp.length_eq
  rcases hrow.2 with ⟨rfl, h0⟩ | ⟨g, cap, cur, rfl, hb, hg, h1, h2, h3, h4⟩
  · have hS : S = [] := by rw [List.length_eq_zero_iff.1 h0] at hp; exact List.nil_perm.1 hp
    subst hS
    have hs' : Calls Tryz.prog 78 #[.slice none 0 0] w fun e w' => e = .returned (.tuple #[]) ∧ w' = w := AnyM.slices_Sort_int_none Tryz.lSortI none 0 w
    refine hs'.mono ?_
    rintro e w' ⟨rfl, rfl⟩
    exact ⟨rfl, fun _ => Below.refl _ _, none, 0, rfl, Nat.le_refl _, fun j hj => absurd hj (Nat.not_lt_zero _)⟩
  · have hH : Holds (Value.int .i64) w g 0 (l.map Int.ofNat).toArray := fun j hj => by
      have hj' : j < l.length := by simpa using hj
      have e1 : (cur.toList.take (l.length * 1))[j]? = some (Value.int .i64 ((l[j] : Nat) : Int)) := by rw [h4]; simp [ints, hj']
      rw [List.getElem?_take, if_pos (by omega)] at e1
      refine ⟨?_, by simp [World.frozen?, hg]⟩
      simp only [World.cell?, hg, Nat.zero_add]
      have e2 : (l.map Int.ofNat).toArray[j]! = ((l[j] : Nat) : Int) := by simp [hj']
      rw [e2]
      simpa using e1
    have hglt : g < w.heap.size := (Array.getElem?_eq_some_iff.1 hg).1
    have hs' : Calls Tryz.prog 78 #[.slice (some ⟨g, 0, none⟩) (l.map Int.ofNat).length cap] w fun e w' => e = .returned (.tuple #[]) ∧ ∃ n os, w' = grow (putRow (Value.int .i64) (Sort.ahead w n) g 0 ((l.map Int.ofNat).mergeSort fun x y => decide (x ≤ y)).toArray) os :=
      AnyM.slices_Sort_int Tryz.lSortI g 0 cap (l.map Int.ofNat) w hH hglt (by simp; omega)
    rw [sort_ints hp hs, List.length_map] at hs'
    refine hs'.mono ?_
    rintro e w' ⟨rfl, q, os, rfl⟩
    refine ⟨rfl, fun hbs => (below_put _ _ hb).trans (below_grows _ (by simpa using hbs)), some ⟨g, 0, none⟩, cap, by rw [hlen], by omega, fun j hj => ⟨g, rfl, ?_⟩⟩
    have hh : Holds (Value.int .i64) (grow (putRow (Value.int .i64) (Sort.ahead w q) g 0 (S.map Int.ofNat).toArray) os) g 0 (S.map Int.ofNat).toArray :=
      holds_grow _ _ _ _ _ _ (by simpa using hglt) (holds_putRow _ _ _ _ (l.map Int.ofNat).toArray _ (holds_ahead _ _ _ _ _ _ hH) (by simp; omega))
    have h5 := (hh j (by simpa using hj)).1
    rw [Nat.zero_add] at h5
    rw [h5]
    simp [hj]

def SpanPost (n : Int) (m : Nat) (hv : Nat → Int × Int × Int) (t : Nat → Bool) (w : World) (e : Ending) (w' : World) : Prop :=
  ∃ (v : Value) (err : Int) (k : Nat), e = .returned (.tuple #[v, errV err]) ∧ Below w.heap.size w w' ∧ Fault n m hv k err ∧ ((err ≠ 0 ∧ v = .slice none 0 0) ∨ (err = 0 ∧ PlacesAt w' v ((List.range m).filter t)))

theorem picked_rises (m : Nat) (t : Nat → Bool) : ((List.range m).filter t).Pairwise fun x y => x < y := List.pairwise_lt_range.sublist List.filter_sublist

set_option maxRecDepth 100000 in
set_option maxHeartbeats 1000000 in
theorem span_any {a : Option Addr} {c : Nat} {w : World} (h : HeavyAt w a m hv) (ht : Tells m (edOf hv) (wtOf hv) t) (n : Int) :
    Calls Tryz.prog 32 #[.int .i64 n, .slice a m c] w (SpanPost n m hv t w) := by
  have HH : Hid (HeavyAt w a m hv) := h
  have hch := check_any (c := c) h n
  clear h
  go_enter Tryz.func32, Tryz.ntmps32
  go_wp2_with fail
  refine hch.mono ?_
  rintro e w1 ⟨k, err, rfl, hF, hb1⟩
  clear hch
  by_cases he : err = 0
  · subst he
    rw [errV_none]
    obtain ⟨n', rfl, hE, hpos⟩ := fault_plain hF
    have HF : Hid (Fault (n' : Int) m hv k 0) := hF
    clear hF
    have hbx := below_box w1 (.cells #[.slice none 0 0] 33)
    have hbW := Un.below_step hb1 hbx
    have hvW := (HH.out.below hbW).plain hpos
    have hclo : SClo w1.heap.size [] true (w1.alloc (.cells #[.slice none 0 0] 33)) (fun k => k = w1.heap.size ∨ (Value.slice none 0 0).ownBlock = some k) :=
      ⟨.slice none 0 0, heap_alloc_new _ _, World.ownsRow_nil .., rfl, rfl⟩
    have hC0 : ∀ k, (k = w1.heap.size ∨ (Value.slice none 0 0).ownBlock = some k) → w1.heap.size ≤ k := fun k hk => by
      rcases hk with rfl | hk
      · exact Nat.le_refl _
      · cases hk
    have hoff : Off a m (fun k => k = w1.heap.size ∨ (Value.slice none 0 0).ownBlock = some k) := fun b o e h0 hc => by
      obtain ⟨b', o', e', h1, _⟩ := HH.out 0 h0
      rw [e] at e'
      simp only [Option.some.injEq, Addr.mk.injEq, and_true] at e'
      have h2 := World.block_lt_of_cell? _ _ h1
      simp only at h2
      have := hC0 b hc
      have := hb1.size
      omega
    have hgr := grow_any (c := c) (span_clos hE.m200) hE ht hvW hoff hclo
    have hz1 : (w1.alloc (.cells #[.slice none 0 0] 33)).heap.size = w1.heap.size + 1 := by simp
    have HP : Hid (∀ w3 C', Un.Moves (fun k => k = w1.heap.size ∨ (Value.slice none 0 0).ownBlock = some k) (w1.alloc (.cells #[.slice none 0 0] 33)) w3 C' → Below w.heap.size w w3) := fun w3 C' hm => hm.below hbW hbW.size (fun k hk => Nat.le_trans hb1.size (hC0 k hk))
    have hm2 := hE.m200
    clear hclo hoff hvW hC0 hpos hE
    go_wp2_with fail
    generalize (w1.alloc (.cells #[.slice none 0 0] 33)) = W at *
    refine hgr.mono ?_
    rintro e w2 ⟨rfl, C', o, ho, hm, hres⟩
    clear hgr
    rcases hres with ⟨⟨v, hbox, hrow, _, _⟩, _⟩ | ⟨P, i, Q, _, _, _, _, hH⟩
    · have hb2 := HP.out w2 C' hm
      have hlt := box_lt hbox
      have cB : w2.cell? ⟨w1.heap.size, 0, none⟩ = some v := by simp [World.cell?, hbox]
      have hsrt := sort_own hrow (ho.perm.filter t) (picked_rises m t) (by have := List.length_filter_le t o; have := ho.len; omega)
      have hsz := hb1.size
      clear hbox hrow hm
      go_wp2_with fail
      refine hsrt.mono ?_
      rintro e w3 ⟨rfl, hb3, hpl⟩
      clear hsrt
      replace hb3 := hb3 hlt
      have cB3 := (hb3.cell (p := ⟨w1.heap.size, 0, none⟩) (by show w1.heap.size < w1.heap.size + 1; omega)).trans cB
      have HPl : Hid (PlacesAt w3 v ((List.range m).filter t)) := hpl
      clear hpl
      go_wp2_with fail
      go_ret2
      exact ⟨v, 0, k, by rw [errV_none]; rfl, hb2.trans (hb3.mono (by omega)), HF.out, Or.inr ⟨rfl, HPl.out⟩⟩
    · exact hH.elim
  · have HE : Hid (err ≠ 0) := he
    rw [errV_some he]
    clear he
    go_wp2_with fail
    go_ret2
    exact ⟨_, err, k, by rw [errV_some HE.out]; rfl, hb1, hF, Or.inl ⟨HE.out, rfl⟩⟩

end Go.Proofs.YtcfemppdeidjmacGreat.Sp
