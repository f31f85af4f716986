/-
  lightestFirst of package span: the places of all edges, the lightest first.
-/
import Derived.Test.YtcfemppdeidjmadGreatKc
namespace Go.Proofs.YtcfemppdeidjmadGreat.Sp
open Go.RowKit Go.Deep Go.Shelf Go.Sort Go.Lib
open Go.RowKit (Below)
set_option linter.unusedVariables false

theorem below_put {α : Type} [Inhabited α] (enc : α → Value) {w : World} {base blk q : Nat} (d : Array α) (h : base ≤ blk) : RowKit.Below base w (putRow enc (Sort.ahead w q) blk 0 d) :=
  ⟨rfl, rfl, rfl, by simp, fun k hk => by
    unfold putRow mapBlock
    show ((Sort.ahead w q).heap.modify blk _)[k]? = _
    rw [Array.getElem?_modify, if_neg (by omega)]
    rfl⟩

theorem below_grows {w : World} {base : Nat} (os : Array Obj) (h : base ≤ w.heap.size) : RowKit.Below base w (grow w os) := ⟨rfl, rfl, rfl, by simp, fun k hk => heap_grow_old w os (by omega)⟩

/-- A place as it lies in a list. -/
def fenc {m : Nat} (i : Fin m) : Value := .int .i64 ((i.val : Nat) : Int)

def cmpF (wt : Nat → Nat) {m : Nat} (x y : Fin m) : Int := cmpW wt x.val y.val

theorem cmpF_lt (wt : Nat → Nat) {m : Nat} (x y : Fin m) : ltOf (cmpF wt) x y = ahead wt x.val y.val := cmpW_lt wt x.val y.val

theorem swoF (wt : Nat → Nat) (m : Nat) : SWO (ltOf (cmpF wt (m := m))) where
  irrefl x := by rw [cmpF_lt]; simp [ahead]
  trans x y z h1 h2 := by rw [cmpF_lt, ahead_iff] at *; omega
  ntrans x y z h1 h2 := by rw [cmpF_lt] at *; simp only [ahead, decide_eq_false_iff_not] at *; omega

theorem totF (wt : Nat → Nat) {m : Nat} (x y : Fin m) (h1 : ltOf (cmpF wt) x y = false) (h2 : ltOf (cmpF wt) y x = false) : x = y := by
  rw [cmpF_lt] at h1 h2
  simp only [ahead, decide_eq_false_iff_not] at h1 h2
  exact Fin.ext (by omega)

theorem finRange_val (m : Nat) : (List.finRange m).map (fun i : Fin m => i.val) = List.range m := by
  apply List.ext_getElem
  · simp
  · intro i h1 h2; simp

theorem order_fin (wt : Nat → Nat) (m : Nat) : Order m wt (((List.finRange m).mergeSort fun x y => !ltOf (cmpF wt) y x).map fun i => i.val) := by
  have tr : ∀ a b c : Fin m, (!ltOf (cmpF wt) b a) = true → (!ltOf (cmpF wt) c b) = true → (!ltOf (cmpF wt) c a) = true := fun a b c h1 h2 => by
    simp only [cmpF_lt, ahead, Bool.not_eq_true', decide_eq_false_iff_not] at *; omega
  have to : ∀ a b : Fin m, ((!ltOf (cmpF wt) b a) || (!ltOf (cmpF wt) a b)) = true := fun a b => by
    simp only [cmpF_lt, ahead, Bool.or_eq_true, Bool.not_eq_true', decide_eq_false_iff_not]; omega
  have hp : (((List.finRange m).mergeSort fun x y => !ltOf (cmpF wt) y x).map fun i => i.val).Perm (List.range m) := by
    rw [← finRange_val m]
    exact (List.mergeSort_perm _ _).map _
  refine ⟨hp, ?_⟩
  have hs := List.pairwise_mergeSort tr to (List.finRange m)
  have hs' : (((List.finRange m).mergeSort fun x y => !ltOf (cmpF wt) y x).map fun i => i.val).Pairwise fun x y => (!ahead wt y x) = true := List.pairwise_map.2 (hs.imp fun {a b} h => by rw [cmpF_lt] at h; exact h)
  refine (hs'.and (hp.nodup_iff.2 List.nodup_range)).imp fun {a b} h => ?_
  obtain ⟨h1, h2⟩ := h
  simp only [ahead, Bool.not_eq_true', decide_eq_false_iff_not, decide_eq_true_eq] at *
  omega

theorem fin_get {m : Nat} [Inhabited (Fin m)] (l : List (Fin m)) (j : Nat) (hj : j < l.length) : (l.toArray[j]!).val = (l.map fun i => i.val).getD j 0 := by
  simp [hj]

/-- What sorting the places makes of them. -/
def Sorts (m blk : Nat) (wt : Nat → Nat) (w : World) (e : Ending) (w' : World) : Prop :=
  e = .returned (.tuple #[]) ∧ ∃ o, Order m wt o ∧ (∀ i, i < m → w'.cell? ⟨blk, i, none⟩ = some (.int .i64 (o.getD i 0 : Nat))) ∧ Below blk w w'

theorem sortfi_any {a : Option Addr} {m c B blk cap : Nat} {wt : Nat → Nat} (hm : m ≤ 200) (w : World) (hB : w.cell? ⟨B, 0, none⟩ = some (.slice a m c)) (hw : ∀ i, i < m → ∃ b o, a = some ⟨b, o, none⟩ ∧ w.cell? ⟨b, o + i * 3 + 2, none⟩ = some (.int .i64 (wt i : Nat)) ∧ b ≠ blk) (hBne : B ≠ blk) (hblk : blk < w.heap.size)
    (hH : ∀ i, i < m → w.cell? ⟨blk, i, none⟩ = some (.int .i64 (i : Nat)) ∧ w.frozen? ⟨blk, i, none⟩ = false) :
    Calls Tryz.prog 78 #[.slice (some ⟨blk, 0, none⟩) m cap, .func (.func 79) #[] #[.pointer (some ⟨B, 0, none⟩)]] w (Sorts m blk wt w) := by
  rcases Nat.eq_zero_or_pos m with rfl | hm0
  · have hs := AnyF.slices_SortFunc_none { Tryz.lSortFI with } (some ⟨blk, 0, none⟩) cap (.func (.func 79) #[] #[.pointer (some ⟨B, 0, none⟩)]) w
    have hs' : Calls Tryz.prog 78 #[.slice (some ⟨blk, 0, none⟩) 0 cap, .func (.func 79) #[] #[.pointer (some ⟨B, 0, none⟩)]] w fun e w' => e = .returned (.tuple #[]) ∧ w' = w := hs
    refine hs'.mono ?_
    rintro e w' ⟨rfl, rfl⟩
    exact ⟨rfl, [], ⟨by simp, List.Pairwise.nil⟩, fun i hi => absurd hi (Nat.not_lt_zero _), Below.refl _ _⟩
  · have inst : Inhabited (Fin m) := ⟨⟨0, hm0⟩⟩
    have eg : ∀ args w, (callFunc 79 args).run Tryz.prog w = .ok (.enter 79 args) w := enters_of Tryz.func79 (by kernel_rfl) rfl
    have hd : ∀ j, j < m → ((List.finRange m).toArray[j]!).val = j := fun j hj => by
      rw [fin_get _ _ (by simpa using hj), finRange_val, List.getD_eq_getElem?_getD, List.getElem?_range hj]; rfl
    have hHd : Holds (fenc (m := m)) w blk 0 (List.finRange m).toArray := fun j hj => by
      have hj' : j < m := by simpa using hj
      rw [Nat.zero_add, fenc, hd j hj']
      exact hH j hj'
    have hlB : B < w.heap.size := World.block_lt_of_cell? _ _ hB
    have hcmp : CmpLays1 Tryz.prog 79 #[.pointer (some ⟨B, 0, none⟩)] (fenc (m := m)) (cmpF wt) blk 0 (List.finRange m).toArray.size w := fun k os dk hdk x y => by
      have cs : ∀ b o, b ≠ blk → b < w.heap.size → (sortWorld (fenc (m := m)) w blk 0 k dk os).cell? ⟨b, o, none⟩ = w.cell? ⟨b, o, none⟩ := fun b o h1 h2 => by
        unfold sortWorld
        rw [cell?_grow _ _ _ (by show b < (putRow _ _ _ _ _).heap.size; simpa using h2), cell?_putRow_other _ _ blk 0 _ _ (Or.inl h1)]
        rfl
      exact light1_any x.val y.val x.isLt y.isLt hm _ ((cs B 0 hBne hlB).trans hB) (fun i hi => by
        obtain ⟨b, o, e, h1, h2⟩ := hw i hi
        exact ⟨b, o, e, (cs b _ h2 (World.block_lt_of_cell? _ _ h1)).trans h1⟩)
    have hs := Any.slices_SortFunc_total Tryz.lSortFI (fenc (m := m)) (fun _ => rfl) (cmpF wt) (swoF wt m) 79 #[.pointer (some ⟨B, 0, none⟩)] blk 0 cap (List.finRange m).toArray w eg hcmp hHd hblk (by simp; omega) (totF wt)
    have hs' : Calls Tryz.prog 78 #[.slice (some ⟨blk, 0, none⟩) m cap, .func (.func 79) #[] #[.pointer (some ⟨B, 0, none⟩)]] w fun e w' => e = .returned (.tuple #[]) ∧ ∃ n os, w' = sortWorld (fenc (m := m)) w blk 0 n ((List.finRange m).mergeSort fun x y => !(ltOf (cmpF wt)) y x).toArray os := by
      change Calls Tryz.prog 78 _ _ _ at hs
      simpa using hs
    refine hs'.mono ?_
    rintro e w' ⟨rfl, n, os, rfl⟩
    have ho := order_fin wt m
    generalize hL : ((List.finRange m).mergeSort fun x y => !ltOf (cmpF wt) y x) = L at ho ⊢
    have hlen : L.length = m := by rw [← hL, List.length_mergeSort, List.length_finRange]
    refine ⟨rfl, _, ho, fun i hi => ?_, ?_⟩
    · have hh : Holds (fenc (m := m)) (sortWorld (fenc (m := m)) w blk 0 n L.toArray os) blk 0 L.toArray := by
        unfold sortWorld
        exact holds_grow _ _ _ _ _ _ (by simpa using hblk) (holds_putRow _ _ _ _ (List.finRange m).toArray _ (holds_ahead _ _ _ _ _ _ hHd) (by simp [hlen]))
      have h1 := (hh i (by simp; omega)).1
      rw [Nat.zero_add, fenc, fin_get _ _ (by omega)] at h1
      exact h1
    · unfold sortWorld
      exact (below_put _ _ (Nat.le_refl _)).trans (below_grows _ (by simp; omega))

/-- Where the loop of lightestFirst stands. -/
structure Counted (w0 w : World) (a : Option Addr) (m c j : Nat) : Prop where
  row : w.rowIs (w0.heap.size + 1) 3 m (fun i => if i < j then .int .i64 (i : Nat) else .int .i64 0)
  box : w.cell? ⟨w0.heap.size, 0, none⟩ = some (.slice a m c)
  below : Below w0.heap.size w0 w

theorem counted_new (w : World) (a : Option Addr) (m c : Nat) : Counted w ((w.alloc (.cells #[.slice a m c] 22)).alloc (.cells (madeCells #[.int .i64 0] m) 3)) a m c 0 := by
  have e1 : (w.alloc (.cells #[.slice a m c] 22)).heap.size = w.heap.size + 1 := by simp
  refine ⟨?_, ?_, (below_box _ _).alloc (by rw [e1]; omega) _⟩
  · have := World.rowIs_made (w.alloc (.cells #[.slice a m c] 22)) (.int .i64 0) m 3
    rw [e1] at this
    exact this.congr fun i _ => by simp
  · rw [World.cell?_alloc_lt _ _ ⟨w.heap.size, 0, none⟩ (by simp)]; simp

theorem Counted.step {w0 w : World} {a : Option Addr} {m c j : Nat} (h : Counted w0 w a m c j) : Counted w0 (w.setCell ⟨w0.heap.size + 1, j, none⟩ (.int .i64 (j : Nat))) a m c (j + 1) := by
  refine ⟨?_, ?_, h.below.setCell (p := ⟨w0.heap.size + 1, j, none⟩) (by show w0.heap.size ≤ w0.heap.size + 1; omega) _⟩
  · refine (h.row.set j _).congr fun i hi => ?_
    by_cases e : i = j
    · subst e; simp
    · by_cases e2 : i < j
      · simp [e, e2, Nat.lt_succ_of_lt e2]
      · have : ¬ i < j + 1 := by omega
        simp [e, e2, this]
  · exact (World.cell?_setCell_other (h := by simp only [ne_eq, Addr.mk.injEq, not_and]; intro h1; omega) ..).trans h.box

/-- What lightestFirst answers. -/
def Lightest (m : Nat) (wt : Nat → Nat) (w : World) (e : Ending) (w' : World) : Prop :=
  ∃ k o, e = .returned (.slice (some ⟨k, 0, none⟩) m m) ∧ Below w.heap.size w w' ∧ w.heap.size ≤ k ∧ k < w'.heap.size ∧ Order m wt o ∧ ∀ i, i < m → w'.cell? ⟨k, i, none⟩ = some (.int .i64 (o.getD i 0 : Nat))

set_option maxRecDepth 100000 in
set_option maxHeartbeats 1000000 in
theorem light_any {a : Option Addr} {m c : Nat} {ed : Nat → Nat × Nat} {wt : Nat → Nat} {w : World} (h : HvAt w a m ed wt) (hm : m ≤ 200) :
    Calls Tryz.prog 51 #[.slice a m c] w (Lightest m wt w) := by
  have hmk := run_make_row' (P := Tryz.prog) 44 3 (.int .i64 0) 8 Tryz.underlying44 Un.Tryz.infoInt rfl .i64 .i64 m (by omega) (by omega)
  have HH : Hid (HvAt w a m ed wt) := h
  clear h
  go_enter Tryz.func51, Tryz.ntmps51
  go_wp2_with fail
  clear hmk
  go_loopw [4, 10] (fun _ i wr => ∃ j : Nat, j ≤ m ∧ i = .int .i64 (j : Nat) ∧ Counted w wr a m c j) (fun _ i _ => m - (intOf i).toNat)
  case atStart => exact ⟨0, Nat.zero_le _, rfl, counted_new w a m c⟩
  case round =>
    obtain ⟨j, hj, rfl, hM⟩ := hrel
    by_cases hlt : j < m
    · have d1 : wr.cell? ⟨w.heap.size + 1, j, none⟩ = some (.int .i64 0) := by rw [hM.row.cell hlt]; simp
      have f1 := hM.row.frozen j
      have i0 : (0 : Int) ≤ (j : Int) := by omega
      have i1 : (j : Int) < (m : Int) := by omega
      have HM : Hid (Counted w wr a m c j) := hM
      clear hM
      go_wp2_with fail
      go_roundw
      case rel => exact ⟨j + 1, by omega, by go_num, HM.out.step⟩
      case measure => simp [intOf]; omega
    · obtain rfl : j = m := by omega
      have hbl := hM.below
      have hv := HH.out.below hbl
      have hk1 := hM.row.lt
      have hs := sortfi_any (a := a) (m := j) (c := c) (B := w.heap.size) (blk := w.heap.size + 1) (cap := j) (wt := wt) hm wr hM.box (fun i hi => by
          obtain ⟨b, o, e, h1, _, h3⟩ := hv i hi
          obtain ⟨b', o', e', h1', _⟩ := HH.out i hi
          have hb : b = b' := by rw [e] at e'; simp at e'; exact e'.1
          have := World.block_lt_of_cell? _ _ h1'
          exact ⟨b, o, e, h3, by simp only at this; omega⟩) (by omega) hk1 (fun i hi => ⟨by rw [hM.row.cell hi, if_pos hi], hM.row.frozen i⟩)
      clear hM hv HH
      go_wp2_with fail
      refine hs.mono ?_
      rintro e w2 ⟨rfl, o, ho, hc, hb2⟩
      clear hs
      go_wp2_with fail
      go_ret
      exact ⟨w.heap.size + 1, o, rfl, hbl.trans (hb2.mono (by omega)), by omega, by have := hb2.size; omega, ho, hc⟩

end Go.Proofs.YtcfemppdeidjmadGreat.Sp
