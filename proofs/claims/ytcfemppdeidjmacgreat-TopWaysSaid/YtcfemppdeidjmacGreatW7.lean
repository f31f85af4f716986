/-
  Mc
-/
import Derived.Lib.RowBridge
import Derived.Test.YtcfemppdeidjmacGreatW3
import Derived.Test.YtcfemppdeidjmacGreatW6
import Derived.Test.YtcfemppdeidjmacGreatSh1
namespace Go.Proofs.YtcfemppdeidjmacGreat
set_option linter.unusedSectionVars false
variable [Inhabited Zed]
open Go.RowKit Go.Deep Go.Shelf Go.Sort Go.Lib
open Go.RowKit (Below)
set_option linter.unusedVariables false

variable {w w' : World} {L : Pl} {p : Nat → Nat} {DW DE : DataW Unit} {E : List (Nat × Nat)}

set_option maxHeartbeats 1000000 in
theorem joined_any (b : Nat) (vs : List (Option Addr × BT Int)) {w : World} (hc : ∀ i x, vs[i]? = some x → w.cell? ⟨b, i, none⟩ = some (.pointer x.1)) (hr : ∀ x ∈ vs, RowAt w x.1 x.2 ∧ Bal x.2) (hs : (vs.flatMap fun x => items x.2).length ≤ 400) (hl : vs.length < 100) (hz : Zok w) (c : Nat) :
    Calls Tryz.prog 58 #[.slice (some ⟨b, 0, none⟩) vs.length c] w fun e w' => ∃ v T, e = .returned (.pointer v) ∧ RowKit.Below w.heap.size w w' ∧ RowAt w' v T ∧ Bal T ∧ items T = vs.flatMap fun x => items x.2 := by
  have HC : Hid (∀ i x, vs[i]? = some x → w.cell? ⟨b, i, none⟩ = some (.pointer x.1)) := hc
  have HR : Hid (∀ x ∈ vs, RowAt w x.1 x.2 ∧ Bal x.2) := hr
  have HS : Hid ((vs.flatMap fun x => items x.2).length ≤ 400) := hs
  have HZ : Hid (Zok w) := hz
  clear hc hr hs hz
  go_enter Tryz.func58, Tryz.ntmps58
  go_wp2_with fail
  go_loopw [3, 5, 8, 12] (fun all _ i _ wr => ∃ (j : Nat) (v : Option Addr) (T : BT Int), j ≤ vs.length ∧ i = .int .i64 (j : Nat) ∧ all = .pointer v ∧ RowKit.Below w.heap.size w wr ∧ RowAt wr v T ∧ Bal T ∧ items T = (vs.take j).flatMap fun x => items x.2) (fun _ _ i _ _ => vs.length - (intOf i).toNat)
  case atStart => exact ⟨0, none, .nil, Nat.zero_le _, rfl, rfl, RowKit.Below.refl _ _, RowAt.nil_ HZ.out, trivial, rfl⟩
  case round =>
    obtain ⟨j, v, T, hj, rfl, rfl, hb, hrow, hbal, hit⟩ := hrel
    by_cases hlt : j < vs.length
    · obtain ⟨x, hx⟩ : ∃ x, vs[j]? = some x := ⟨_, List.getElem?_eq_getElem hlt⟩
      have hcell := cell_keep hb (HC.out j x hx)
      obtain ⟨hrx, hbx⟩ := HR.out x (List.mem_of_getElem? hx)
      have i0 : (0 : Int) ≤ (j : Int) := by omega
      have i1 : (j : Int) < (vs.length : Int) := by omega
      have ht : (vs.take (j + 1)).flatMap (fun x => items x.2) = items T ++ items x.2 := by
        rw [List.take_add_one, hx, hit]; simp
      have hlen : sz T + sz x.2 ≤ 400 := by
        have h1 := HS.out
        rw [← List.take_append_drop (j + 1) vs, List.flatMap_append, ht] at h1
        simp only [List.length_append, items_len] at h1
        omega
      have HT : Hid ((vs.take (j + 1)).flatMap (fun x => items x.2) = items T ++ items x.2) := ht
      clear ht hit hx
      go_wp2_with fail
      refine (join_any hrow (hrx.below hb) hbal hbx hlen).mono ?_
      rintro e w1 ⟨v1, T1, rfl, hb1, hr1, hB1, hi1⟩
      go_wp2_with fail
      go_roundw
      case rel => exact ⟨j + 1, v1, T1, by omega, by go_num, rfl, below_step hb hb1, hr1, hB1, hi1.trans HT.out.symm⟩
      case measure => simp [intOf]; omega
    · have HI : Hid (items T = vs.flatMap fun x => items x.2) := show _ = _ by rw [hit, List.take_of_length_le (by omega)]
      clear hit
      go_wp2_with fail
      go_ret
      exact ⟨v, T, rfl, hb, hrow, hbal, HI.out⟩

theorem idx_at (P Q : List Int) (x : Int) (h : x ∉ P) : Lib.idxOf (P ++ x :: Q) x = (P.length : Nat) := by
  have := Lib.idxFrom_hit x (P ++ x :: Q) P.length 0 (by simp) (by simp) (fun j hj e => by
    apply h
    rw [List.getD_eq_getElem?_getD, List.getElem?_append_left hj, List.getElem?_eq_getElem hj] at e
    exact e ▸ List.getElem_mem hj)
  unfold Lib.idxOf
  rw [this]; simp

theorem index_any (b n c : Nat) (zs : List Int) (x : Int) (w : World) (hz : n = zs.length) (hbig : n < 1000000) (hc : ∀ j, j < zs.length → w.cell? ⟨b, j, none⟩ = some (.int .i64 (zs.getD j 0))) :
    Calls Tryz.prog 136 #[.slice (some ⟨b, 0, none⟩) n c, .int .i64 x] w fun e w' => e = .returned (.int .i64 (Lib.idxOf zs x)) ∧ w' = w := by
  have := AnyG.slices_Index_int Tryz.lIndex b 0 n c zs x w (by omega) (by omega) (fun j hj => by rw [Nat.zero_add]; exact hc j hj)
  rw [hz, List.take_length] at this
  rw [hz]
  exact this

set_option maxHeartbeats 1000000 in
theorem list_own {v : Option Addr} {T : BT Int} {w : World} (h : RowAt w v T) (hs : sz T < 1000000) (hz : 0 < sz T) :
    Calls Tryz.prog 130 #[.pointer v] w fun e w' => ∃ g, e = .returned (.slice (some ⟨g, 0, none⟩) (sz T) (sz T)) ∧ RowKit.Below w.heap.size w w' ∧ w.heap.size ≤ g ∧ g < w'.heap.size ∧ Holds (Value.int .i64) w' g 0 (items T).toArray := by
  obtain ⟨CC, hCC, hmk⟩ := make_row (sz T) (by omega)
  have hg := gone_start (w := w) hCC
  have HG : Hid (Gone _ _ _ _ _ _ _) := hg
  clear hCC hg
  go_enter Tryz.func130, Tryz.ntmps130
  go_wp2_with fail
  refine (len_any h).mono ?_
  rintro e w' ⟨rfl, rfl⟩
  go_wp2_with fail
  have hg := HG.out
  clear HG hmk
  generalize (((w'.alloc (Obj.cells CC 3)).alloc (Obj.cells #[Value.slice (some ⟨w'.heap.size, 0, none⟩) 0 (sz T)] 33)).alloc (Obj.cells #[Value.func (Fn.func 181) #[] #[Value.pointer (some ⟨w'.heap.size + 1 + 1, 0, none⟩), Value.pointer (some ⟨w'.heap.size + 1, 0, none⟩)]] 248)) = W0 at hg ⊢
  generalize w'.heap.size + 1 + 1 = gw at hg ⊢
  generalize w'.heap.size + 1 = go at hg ⊢
  have f0 := hg.fcell
  have hbW := hg.below
  go_region_held3 (fun W => W.cell? ⟨gw, 0, none⟩ = some (Value.func (Fn.func 181) #[] #[Value.pointer (some ⟨gw, 0, none⟩), Value.pointer (some ⟨go, 0, none⟩)])) (first | (go_keep; done) | exact hg1.fcell)
    (first
      | (go_at_call 135; refine (tree_any (h.below hbW).drew).mono ?_; rintro e w2 ⟨u, rfl, rfl, ha⟩)
      | (go_at_call 181; refine (walk_any T (⟨h.lies, ha.at_, h.zok⟩ : At w' u T) hg.drew ?_ ?_).mono ?_; (simp); (omega); rintro e w3 ⟨rfl, hg1⟩))
  rw [List.nil_append] at hg1
  have o1 := hg1.ocell
  rw [items_len] at o1
  go_wp2_with fail
  go_ret
  have hcell : ∀ j, j < (items T).length → w3.cell? ⟨w'.heap.size, 0 + j, none⟩ = some (.int .i64 ((items T).getD j 0)) := fun j hj => by rw [Nat.zero_add]; exact hg1.cells j hj
  refine ⟨_, rfl, hg1.below, hg1.n3, World.block_lt_of_cell? _ _ (hcell 0 (by rw [items_len]; exact hz)), ?_⟩
  have := holds_of_ints (n := (items T).length) (Nat.le_refl _) hcell (fun j hj => by rw [Nat.zero_add]; exact (hg1.there j (by rw [items_len] at hj; exact hj)).2)
  rwa [List.take_length] at this

theorem holds_cell {w : World} {g : Nat} {zs : List Int} (h : Holds (Value.int .i64) w g 0 zs.toArray) (j : Nat) (hj : j < zs.length) : w.cell? ⟨g, j, none⟩ = some (.int .i64 (zs.getD j 0)) := by
  have := (h j (by simpa using hj)).1
  rw [Nat.zero_add] at this
  rw [this]
  simp [List.getD_eq_getElem?_getD, hj]

set_option maxHeartbeats 400000 in
theorem place_any {v : Option Addr} {T : BT Int} {w : World} (h : RowAt w v T) (hs : sz T ≤ 400) (P Q : List Int) (x : Int) (hi : items T = P ++ x :: Q) (hx : x ∉ P) :
    Calls Tryz.prog 99 #[.pointer v, .int .i64 x] w fun e w' => e = .returned (.int .i64 (P.length : Nat)) ∧ RowKit.Below w.heap.size w w' := by
  have hz : 0 < sz T := by rw [← items_len, hi]; simp; omega
  have HI : Hid (items T = P ++ x :: Q) := hi
  have HX : Hid (x ∉ P) := hx
  clear hi hx
  go_enter Tryz.func99, Tryz.ntmps99
  go_wp2_with fail
  refine (list_own h (by omega) hz).mono ?_
  rintro e w1 ⟨g, rfl, hb, hg, hg1, hh⟩
  go_wp2_with fail
  refine (index_any g (sz T) (sz T) (items T) x w1 (items_len T).symm (by omega) (holds_cell hh)).mono ?_
  rintro e w2 ⟨rfl, rfl⟩
  go_wp2_with fail
  go_ret
  exact ⟨by rw [HI.out, idx_at P Q x HX.out]; rfl, hb⟩

end Go.Proofs.YtcfemppdeidjmacGreat

namespace Go.Proofs.YtcfemppdeidjmacGreat
set_option linter.unusedSectionVars false
variable [Inhabited Zed]
open Go.RowKit Go.Deep Go.Shelf Go.Sort Go.Lib
open Go.RowKit (Below)
set_option linter.unusedVariables false

variable {w w' : World} {L : Pl} {p : Nat → Nat} {DW DE : DataW Unit} {E : List (Nat × Nat)}

set_option maxHeartbeats 400000 in
theorem nodes1_gives {n hb g : Nat} (x : Int) (B : Nat) (W : World) (hc : W.cell? ⟨B, 0, none⟩ = some (.pointer (some ⟨g, 0, none⟩))) (h0 : W.cell? ⟨g, 0, none⟩ = some (.slice (some ⟨hb, 0, none⟩) n n)) (hn : n ≤ 60) :
    FnGives Tryz.prog 131 #[.pointer (some ⟨B, 0, none⟩)] #[.int .i64 x] (.bool (decide ((n : Int) ≤ x))) W := by
  show Calls Tryz.prog 131 #[.int .i64 x, .pointer (some ⟨B, 0, none⟩)] W _
  go_enter Tryz.func131, Tryz.ntmps131
  go_wp2
  all_goals (go_ret; exact ⟨by simp_all, 0, rfl⟩)

theorem below_put {base blk q : Nat} (d : Array Int) (h : base ≤ blk) : RowKit.Below base w (putRow (Value.int .i64) (Sort.ahead w q) blk 0 d) :=
  ⟨rfl, rfl, rfl, by simp, fun k hk => by
    unfold putRow mapBlock
    show ((Sort.ahead w q).heap.modify blk _)[k]? = _
    rw [Array.getElem?_modify, if_neg (by omega)]
    rfl⟩

theorem below_grows {base : Nat} (os : Array Obj) (h : base ≤ w.heap.size) : RowKit.Below base w (grow w os) := ⟨rfl, rfl, rfl, by simp, fun k hk => heap_grow_old w os (by omega)⟩

theorem holds_prefix {w : World} {b : Nat} {xs ys : List Int} (h : Holds (Value.int .i64) w b 0 (xs ++ ys).toArray) : Holds (Value.int .i64) w b 0 xs.toArray := by
  intro j hj
  have hj' : j < xs.length := by simpa using hj
  have := h j (by simp; omega)
  have e : (xs ++ ys).toArray[j]! = xs.toArray[j]! := by simp [List.getElem?_append_left hj']
  rw [e] at this
  exact this

theorem delete_any {n hb g B blk cap : Nat} (zs : List Int) (w : World) (hB : w.cell? ⟨B, 0, none⟩ = some (.pointer (some ⟨g, 0, none⟩))) (h0 : w.cell? ⟨g, 0, none⟩ = some (.slice (some ⟨hb, 0, none⟩) n n)) (hn : n ≤ 60) (hBne : B ≠ blk) (hgne : g ≠ blk)
    (hH : Holds (Value.int .i64) w blk 0 zs.toArray) (hsz : zs.length < 1000000) (hcap : zs.length ≤ cap) :
    Calls Tryz.prog 129 #[.slice (some ⟨blk, 0, none⟩) zs.length cap, .func (.func 131) #[] #[.pointer (some ⟨B, 0, none⟩)]] w fun e w' =>
      e = .returned (.slice (some ⟨blk, 0, none⟩) (zs.filter fun x : Int => decide (x < n)).length cap) ∧ ∃ q, w' = putRow (Value.int .i64) (Sort.ahead w q) blk 0 ((zs.filter fun x : Int => decide (x < n)) ++ List.replicate (zs.length - (zs.filter fun x : Int => decide (x < n)).length) 0).toArray := by
  have eg : ∀ args w, (callFunc 131 args).run Tryz.prog w = .ok (.enter 131 args) w := enters_of Tryz.func131 (by kernel_rfl) rfl
  have e : (fun x : Int => !decide ((n : Int) ≤ x)) = fun x : Int => decide (x < n) := by
    funext x
    rcases Int.lt_or_le x n with h | h
    · simp [h]
    · simp [h]
  have hl : B < w.heap.size := World.block_lt_of_cell? _ _ hB
  have hlg : g < w.heap.size := World.block_lt_of_cell? _ _ h0
  have := AnyE.slices_DeleteFunc Tryz.lDel (Value.int .i64) (fun _ => rfl) (fun x => decide ((n : Int) ≤ x)) 131 #[.pointer (some ⟨B, 0, none⟩)] eg 0 Tryz.zeroValue3 blk 0 cap zs.toArray w
    (fun W x hb => nodes1_gives x B W ((hb.cell (p := ⟨B, 0, none⟩) hl).trans hB) ((hb.cell (p := ⟨g, 0, none⟩) hlg).trans h0) hn)
    (fun m os dk x _ => by
      have cs : ∀ b, b ≠ blk → b < w.heap.size → (sortWorld (Value.int .i64) w blk 0 m dk os).cell? ⟨b, 0, none⟩ = w.cell? ⟨b, 0, none⟩ := fun b h1 h2 => by
        unfold sortWorld
        rw [cell?_grow _ _ _ (by show b < (putRow _ _ _ _ _).heap.size; rw [size_putRow]; exact h2), cell?_putRow_other _ _ blk 0 _ _ (Or.inl h1)]
        rfl
      exact nodes1_gives x B _ ((cs B hBne hl).trans hB) ((cs g hgne hlg).trans h0) hn) hH (by simp; omega) (by simpa using hcap)
  rw [e] at this
  change Calls Tryz.prog 129 _ _ _ at this
  simpa using this

theorem sort_any {blk cap : Nat} (zs : List Int) (w : World) (hH : Holds (Value.int .i64) w blk 0 zs.toArray) (hblk : blk < w.heap.size) (hsz : zs.length < 1000000) :
    Calls Tryz.prog 78 #[.slice (some ⟨blk, 0, none⟩) zs.length cap] w fun e w' => e = .returned (.tuple #[]) ∧ ∃ n os, w' = grow (putRow (Value.int .i64) (Sort.ahead w n) blk 0 (zs.mergeSort fun x y => decide (x ≤ y)).toArray) os :=
  AnyM.slices_Sort_int Tryz.lSort blk 0 cap zs w hH hblk (by omega)

set_option maxHeartbeats 1000000 in
theorem nodes_any (m : Mem w L p DW DE E) {v : Option Addr} {T : BT Int} (h : RowAt w v T) (hs : sz T ≤ 400) (hz : 0 < sz T) (ns : List Int) (hns : ((items T).filter fun z : Int => decide (z < (L.n : Nat))).mergeSort (fun x y => decide (x ≤ y)) = ns) :
    Calls Tryz.prog 96 #[.pointer (some ⟨L.g, 0, none⟩), .pointer v] w fun e w' => ∃ k, e = .returned (.slice (some ⟨k, 0, none⟩) ns.length (sz T)) ∧ RowKit.Below w.heap.size w w' ∧ w.heap.size ≤ k ∧ ns.length ≤ sz T ∧ (∀ j, j < ns.length → w'.cell? ⟨k, j, none⟩ = some (.int .i64 (ns.getD j 0))) := by
  have c0 := m.c0
  have hn := m.n60
  have hg : L.g < w.heap.size := m.st.lt
  generalize L.n = n at *
  generalize L.hb = hb at *
  generalize L.g = g at *
  clear m
  obtain ⟨ys, hys⟩ : ∃ ys, ys = (items T).filter fun z : Int => decide (z < (n : Nat)) := ⟨_, rfl⟩
  rw [← hys] at hns
  have HN : Hid (ys.mergeSort (fun x y => decide (x ≤ y)) = ns) := hns
  have HY : Hid (ys = (items T).filter fun z : Int => decide (z < (n : Nat))) := hys
  have hyl : ys.length ≤ sz T := by rw [hys, ← items_len]; exact List.length_filter_le _ _
  have hnl : ns.length = ys.length := by rw [← hns, List.length_mergeSort]
  clear hns hys
  go_enter Tryz.func96, Tryz.ntmps96
  go_wp2_with fail
  have hb0 : RowKit.Below w.heap.size w (w.alloc (.cells #[.pointer (some ⟨g, 0, none⟩)] 40)) := (RowKit.Below.refl _ _).alloc (Nat.le_refl _) _
  have hB0 : (w.alloc (.cells #[.pointer (some ⟨g, 0, none⟩)] 40)).cell? ⟨w.heap.size, 0, none⟩ = some (.pointer (some ⟨g, 0, none⟩)) := by simp
  have hs0 : w.heap.size < (w.alloc (.cells #[.pointer (some ⟨g, 0, none⟩)] 40)).heap.size := by simp
  have h1 := h.below hb0
  have c01 := cell_keep hb0 c0
  generalize (w.alloc (.cells #[.pointer (some ⟨g, 0, none⟩)] 40)) = W0 at *
  generalize hBB : w.heap.size = B at *
  refine (list_own h1 (by omega) hz).mono ?_
  rintro e w1 ⟨k, rfl, hb1, hk, hk1, hh⟩
  have hBk := cell_keep hb1 hB0
  have c02 := cell_keep hb1 c01
  rw [← items_len] at hs hz
  go_wp2_with fail
  rw [← items_len]
  refine (delete_any (cap := (items T).length) (items T) w1 hBk c02 hn (by omega) (by omega) hh (by omega) (Nat.le_refl _)).mono ?_
  rw [← HY.out]
  rintro e w2 ⟨rfl, q, hw2⟩
  have hH2 : Holds (Value.int .i64) w2 k 0 (ys ++ List.replicate ((items T).length - ys.length) 0).toArray := by
    rw [hw2]
    exact holds_putRow _ _ _ _ (items T).toArray _ (holds_ahead _ _ _ _ _ _ hh) (by simp; rw [items_len]; omega)
  have hb2 : RowKit.Below B w1 w2 := by rw [hw2]; exact below_put _ (by omega)
  have hk2 : k < w2.heap.size := by rw [hw2]; simpa using hk1
  clear hw2
  have hil := items_len T
  have hyb : ys.length < 1000000 := by omega
  clear hil
  go_wp2_with fail
  refine (sort_any ys w2 (holds_prefix hH2) hk2 hyb).mono ?_
  rintro e w3 ⟨rfl, q3, os, hw3⟩
  rw [HN.out] at hw3
  have hh3 : Holds (Value.int .i64) w3 k 0 ns.toArray := by
    rw [hw3]
    exact holds_grow _ _ _ _ _ _ (by simpa using hk2) (holds_putRow _ _ _ _ ys.toArray _ (holds_ahead _ _ _ _ _ _ (holds_prefix hH2)) (by simp; exact hnl))
  have hb3 : RowKit.Below B w2 w3 := by
    rw [hw3]
    have := hb2.size
    have := hb1.size
    exact (below_put _ (by omega)).trans (below_grows _ (by simp; omega))
  clear hw3
  go_wp2_with fail
  go_ret
  subst hBB
  refine ⟨k, by rw [hnl, items_len]; rfl, (hb0.trans (hb1.mono (by omega))).trans (hb2.trans hb3), by omega, by omega, holds_cell hh3⟩

end Go.Proofs.YtcfemppdeidjmacGreat

namespace Go.Proofs.YtcfemppdeidjmacGreat
set_option linter.unusedSectionVars false
variable [Inhabited Zed]
open Go.RowKit Go.Deep Go.Shelf Go.Sort Go.Lib
open Go.RowKit (Below)
set_option linter.unusedVariables false

variable {w w' : World} {L : Pl} {p : Nat → Nat} {DW DE : DataW Unit} {E : List (Nat × Nat)}

structure Kept (L : Pl) (w wr : World) (p : Nat → Nat) (ns : List Nat) (h k j : Nat) : Prop where
  turn : Turn L w wr
  st : wr.rowIs L.g 108 3 (cells3 L)
  home : wr.rowIs L.hb 3 L.n (fun i => .int .i64 ((if i ∈ ns.take j then h else p i : Nat) : Int))
  list : ∀ i, i < ns.length → wr.cell? ⟨k, i, none⟩ = some (.int .i64 (ns.getD i 0 : Nat))
  wm : wr.heap[L.wb]? = w.heap[L.wb]?
  em : wr.heap[L.eb]? = w.heap[L.eb]?

theorem Kept.step {wr : World} {ns : List Nat} {h k j : Nat} (K : Kept L w wr p ns h k j) (hj : j < ns.length) (hk : k ≠ L.hb) (hg : L.g ≠ L.hb) (hw : L.hb ≠ L.wb) (he : L.hb ≠ L.eb) (x : Nat) (hx : ns.getD j 0 = x) :
    Kept L w (wr.setCell ⟨L.hb, x, none⟩ (.int .i64 (h : Int))).drew p ns h k (j + 1) := by
  refine ⟨?_, (K.st.setOther (by exact hg) _).drew, ?_, fun i hi => ?_, ?_, ?_⟩
  · refine K.turn.trans ⟨rfl, rfl, rfl, by simp [World.setCell], fun i hi hn => RowKit.Below.heap_setCell _ _ _ _ (fun e => hn (Or.inl e))⟩
  · refine ((K.home.set x _).drew).congr fun i hi => ?_
    rw [List.take_add_one, List.getElem?_eq_getElem hj]
    have ex : ns[j] = x := by rw [← hx, List.getD_eq_getElem?_getD, List.getElem?_eq_getElem hj]; rfl
    rw [ex]
    by_cases e : i = x
    · simp [e]
    · simp [e]
  · show (wr.setCell _ _).cell? _ = _
    rw [cs_other (by simp only [ne_eq, Addr.mk.injEq, not_and]; intro e; exact absurd e.symm hk)]
    exact K.list i hi
  · exact (RowKit.Below.heap_setCell _ _ _ _ (fun e => hw e.symm)).trans K.wm
  · exact (RowKit.Below.heap_setCell _ _ _ _ (fun e => he e.symm)).trans K.em

set_option maxHeartbeats 2000000 in
theorem keep_any (m : Mem w L p DW DE E) {b : Nat} {T : BT Int} (hr : RowAt w (some ⟨b, 0, none⟩) T) (hs : sz T ≤ 400) (ns : List Nat) (h : Nat) (hns : ((items T).filter fun z : Int => decide (z < (L.n : Nat))).mergeSort (fun x y => decide (x ≤ y)) = (h :: ns).map Int.ofNat) (hlt : ∀ x ∈ h :: ns, x < L.n) :
    Calls Tryz.prog 53 #[.pointer (some ⟨L.g, 0, none⟩), .pointer (some ⟨b, 0, none⟩)] w fun e w' => e = .returned (.tuple #[]) ∧ Turn L w w' ∧
      Mem w' L (fun i => if i ∈ h :: ns then h else p i) (DW.put (.int .i64 (h : Int)) (.lit (.int .i64 (b : Int)))) DE E := by
  have hz : 0 < sz T := by
    rcases Nat.eq_zero_or_pos (sz T) with h0 | h0
    · rw [← items_len] at h0
      rw [List.length_eq_zero_iff.1 h0] at hns
      simp at hns
    · exact h0
  have hnx := nodes_any m hr hs hz _ hns
  have hLn := m.n60
  have hg := m.g_off
  have hhw := m.hw
  have hhe := m.he
  have hgh : L.g ≠ L.hb := fun e => hg (Or.inl e)
  have hhl : L.hb < w.heap.size := m.home.lt
  obtain ⟨ms, hms⟩ : ∃ ms, ms = h :: ns := ⟨_, rfl⟩
  rw [← hms] at hnx hlt ⊢
  have hm0 : 0 < ms.length := by rw [hms]; simp
  have hd0 : ms.getD 0 0 = h := by rw [hms]; rfl
  have HLT : Hid (∀ x ∈ ms, x < L.n) := hlt
  clear hns hlt hms
  go_enter Tryz.func53, Tryz.ntmps53
  go_wp2_with fail
  refine hnx.mono ?_
  rintro e w1 ⟨k, rfl, hb1, hk, hle, hl⟩
  clear hnx
  rw [List.length_map] at hl hle
  have m1 := m.below hb1
  have K0 : Kept L w1 w1 p ms h k 0 := ⟨Turn.refl _, m1.st, by simpa using m1.home, fun i hi => by
    rw [hl i hi]
    congr 2
    rw [List.getD_eq_getElem?_getD, List.getD_eq_getElem?_getD, List.getElem?_map, List.getElem?_eq_getElem hi]; rfl, rfl, rfl⟩
  have HK0 : Hid (Kept L w1 w1 p ms h k 0) := K0
  have HM1 : Hid (Mem w1 L p DW DE E) := m1
  have hkh : k ≠ L.hb := by omega
  have hml : ms.length < 1000000 := by omega
  clear K0 m1 hl m
  simp only [List.length_map]
  go_wp2_with fail
  go_loopw [6, 12] (fun _ i wr => ∃ j : Nat, j ≤ ms.length ∧ i = .int .i64 (j : Nat) ∧ Kept L w1 wr p ms h k j) (fun _ i _ => ms.length - (intOf i).toNat)
  case atStart => exact ⟨0, Nat.zero_le _, rfl, HK0.out⟩
  case round =>
    obtain ⟨j, hj, rfl, K⟩ := hrel
    by_cases hlt : j < ms.length
    · have i0 : (0 : Int) ≤ (j : Int) := by omega
      have i1 : (j : Int) < (ms.length : Int) := by omega
      have i2 : (0 : Int) < (ms.length : Int) := by omega
      obtain ⟨x, hx⟩ : ∃ x, ms.getD j 0 = x := ⟨_, rfl⟩
      have hcj := K.list j hlt
      have hc0 := K.list 0 hm0
      rw [hx] at hcj
      rw [hd0] at hc0
      have hxn : x < L.n := HLT.out x (by rw [← hx, List.getD_eq_getElem?_getD, List.getElem?_eq_getElem hlt]; exact List.getElem_mem hlt)
      have i3 : (0 : Int) ≤ (x : Int) := by omega
      have i4 : (x : Int) < (L.n : Int) := by omega
      have s0 := K.st.cell (i := 0) (by omega)
      have s1 : wr.cell? ⟨L.g, 0, none⟩ = some (.slice (some ⟨L.hb, 0, none⟩) L.n L.n) := s0
      have t0 := K.home.cell hxn
      have t1 := K.home.frozen x
      have HS : Hid (Kept L w1 (wr.setCell ⟨L.hb, x, none⟩ (.int .i64 (h : Int))).drew p ms h k (j + 1)) := K.step hlt hkh hgh hhw hhe x hx
      clear K s0 hx
      go_wp2_with fail
      go_region
      all_goals
        go_wp2_with fail
        go_roundw
        case rel => exact ⟨j + 1, by omega, by go_num, HS.out⟩
        case measure => simp [intOf]; omega
    · obtain rfl : j = ms.length := by omega
      have m1 := HM1.out
      have i2 : (0 : Int) < (ms.length : Int) := by omega
      have hc0 := K.list 0 hm0
      rw [hd0] at hc0
      have s1 : wr.cell? ⟨L.g, 1, none⟩ = some (.map (some L.wb)) := K.st.cell (i := 1) (by omega)
      have hhn : h < L.n := HLT.out h (by rw [← hd0, List.getD_eq_getElem?_getD, List.getElem?_eq_getElem hm0]; exact List.getElem_mem hm0)
      obtain ⟨w2, hrun, hown, ht⟩ := ways_store (w := wr.drew) (own_block m1.ways K.wm) (by omega) h b (by omega)
      have HF : Hid (Turn L w w2 ∧ Mem w2 L (fun i => if i ∈ ms then h else p i) (DW.put (.int .i64 (h : Int)) (.lit (.int .i64 (b : Int)))) DE E) := by
        have tt : Turn L wr.drew w2 := Turn.grown ht.grown (Or.inr (Or.inl rfl))
        have hkeys : ∀ kl, Maps.has (DW.put (.int .i64 (h : Int)) (.lit (.int .i64 (b : Int)))) kl = true → ∃ r : Nat, r < L.n ∧ kl = .int .i64 (r : Int) := fun kl hk => by
          by_cases e : kl = .int .i64 (h : Int)
          · exact ⟨h, hhn, e⟩
          · rw [Maps.has_put_other e] at hk; exact m1.keys kl hk
        have bl : ∀ i, i < wr.heap.size → i ≠ L.wb → w2.heap[i]? = wr.heap[i]? := fun i hi hn => ht.grown.block i hi (fun e => hn (by cases e; rfl))
        refine ⟨(Turn.of_below hb1).trans (K.turn.trans ((Turn.refl _).drew.trans tt)), K.st.of_block (bl _ K.st.lt (fun e => hg (Or.inr (Or.inl e)))), ?_, ?_, hkeys, ?_, m1.n1, m1.n60, m1.we⟩
        · refine (K.home.of_block (bl _ K.home.lt hhw)).congr fun i _ => ?_
          rw [List.take_length]
        · exact (own_exact hown).mono (keys_size ((own_exact hown).canon Tryz.lawInt) hkeys)
        · refine m1.edges.of_block ?_
          have := map_lt m1.em
          have := K.turn.size
          rw [bl _ (by omega) (fun e => m1.we e.symm)]
          exact K.em
      clear K ht hown
      go_wp2_with fail
      go_region
      all_goals
        go_end0
        exact ⟨rfl, HF.out.1, HF.out.2⟩

end Go.Proofs.YtcfemppdeidjmacGreat
