/-
  The nodes on a way, rising: what is no node is struck from the row's list, the rest is sorted.
-/
import Derived.Test.YtcebfloeikjjcabGreatTw2
namespace Go.Proofs.YtcebfloeikjjcabGreat
open Go.RowKit Go.Deep Go.Shelf Go.Sort Go.Lib
open Go.RowKit (Below)
set_option linter.unusedVariables false

variable {w w' : World} {L : Pl} {p : Nat → Nat} {DW DE : DataW Unit} {E : List (Nat × Nat)}

set_option maxHeartbeats 400000 in
theorem nodes1_gives {n hb g : Nat} (x : Int) (B : Nat) (W : World) (hc : W.cell? ⟨B, 0, none⟩ = some (.pointer (some ⟨g, 0, none⟩))) (h0 : W.cell? ⟨g, 0, none⟩ = some (.slice (some ⟨hb, 0, none⟩) n n)) (hn : n ≤ 60) :
    FnGives Tryz.prog 61 #[.pointer (some ⟨B, 0, none⟩)] #[.int .i64 x] (.bool (decide ((n : Int) ≤ x))) W := by
  show Calls Tryz.prog 61 #[.int .i64 x, .pointer (some ⟨B, 0, none⟩)] W _
  go_enter Tryz.func61, Tryz.ntmps61
  go_wp2
  all_goals (go_ret; exact ⟨by simp_all, 0, rfl⟩)

theorem below_put {base blk q : Nat} (d : Array Int) (h : base ≤ blk) : RowKit.Below base w (putRow (Value.int .i64) (Sort.ahead w q) blk 0 d) :=
  ⟨rfl, rfl, rfl, by simp, fun k hk => by
    unfold putRow mapBlock
    show ((Sort.ahead w q).heap.modify blk _)[k]? = _
    rw [Array.getElem?_modify, if_neg (by omega)]
    rfl⟩

theorem below_grows {base : Nat} (os : Array Obj) (h : base ≤ w.heap.size) : RowKit.Below base w (grow w os) := ⟨rfl, rfl, rfl, by simp, fun k hk => heap_grow_old w os (by omega)⟩

theorem holds_prefix {w : World} {b : Nat} {xs ys : List Int} (h : Holds (Value.int .i64) w b 0 (xs ++ ys).toArray) : Holds (Value.int .i64) w b 0 xs.toArray := by
  intro j hj
  have hj' : j < xs.length := by simpa using hj
  have := h j (by simp; omega)
  have e : (xs ++ ys).toArray[j]! = xs.toArray[j]! := by simp [List.getElem?_append_left hj']
  rw [e] at this
  exact this

theorem delete_any {n hb g B blk cap : Nat} (zs : List Int) (w : World) (hB : w.cell? ⟨B, 0, none⟩ = some (.pointer (some ⟨g, 0, none⟩))) (h0 : w.cell? ⟨g, 0, none⟩ = some (.slice (some ⟨hb, 0, none⟩) n n)) (hn : n ≤ 60) (hBne : B ≠ blk) (hgne : g ≠ blk)
    (hH : Holds (Value.int .i64) w blk 0 zs.toArray) (hsz : zs.length < 1000000) (hcap : zs.length ≤ cap) :
    Calls Tryz.prog 59 #[.slice (some ⟨blk, 0, none⟩) zs.length cap, .func (.func 61) #[] #[.pointer (some ⟨B, 0, none⟩)]] w fun e w' =>
      e = .returned (.slice (some ⟨blk, 0, none⟩) (zs.filter fun x : Int => decide (x < n)).length cap) ∧ ∃ q, w' = putRow (Value.int .i64) (Sort.ahead w q) blk 0 ((zs.filter fun x : Int => decide (x < n)) ++ List.replicate (zs.length - (zs.filter fun x : Int => decide (x < n)).length) 0).toArray := by
  have eg : ∀ args w, (callFunc 61 args).run Tryz.prog w = .ok (.enter 61 args) w := enters_of Tryz.func61 (by kernel_rfl) rfl
  have e : (fun x : Int => !decide ((n : Int) ≤ x)) = fun x : Int => decide (x < n) := by
    funext x
    rcases Int.lt_or_le x n with h | h
    · simp [h]
    · simp [h]
  have hl : B < w.heap.size := World.block_lt_of_cell? _ _ hB
  have hlg : g < w.heap.size := World.block_lt_of_cell? _ _ h0
  have := AnyE.slices_DeleteFunc Tryz.lDel (Value.int .i64) (fun _ => rfl) (fun x => decide ((n : Int) ≤ x)) 61 #[.pointer (some ⟨B, 0, none⟩)] eg 0 Tryz.zeroValue3 blk 0 cap zs.toArray w
    (fun W x hb => nodes1_gives x B W ((hb.cell (p := ⟨B, 0, none⟩) hl).trans hB) ((hb.cell (p := ⟨g, 0, none⟩) hlg).trans h0) hn)
    (fun m os dk x _ => by
      have cs : ∀ b, b ≠ blk → b < w.heap.size → (sortWorld (Value.int .i64) w blk 0 m dk os).cell? ⟨b, 0, none⟩ = w.cell? ⟨b, 0, none⟩ := fun b h1 h2 => by
        unfold sortWorld
        rw [cell?_grow _ _ _ (by show b < (putRow _ _ _ _ _).heap.size; rw [size_putRow]; exact h2), cell?_putRow_other _ _ blk 0 _ _ (Or.inl h1)]
        rfl
      exact nodes1_gives x B _ ((cs B hBne hl).trans hB) ((cs g hgne hlg).trans h0) hn) hH (by simp; omega) (by simpa using hcap)
  rw [e] at this
  change Calls Tryz.prog 59 _ _ _ at this
  simpa using this

theorem sort_any {blk cap : Nat} (zs : List Int) (w : World) (hH : Holds (Value.int .i64) w blk 0 zs.toArray) (hblk : blk < w.heap.size) (hsz : zs.length < 1000000) :
    Calls Tryz.prog 62 #[.slice (some ⟨blk, 0, none⟩) zs.length cap] w fun e w' => e = .returned (.tuple #[]) ∧ ∃ n os, w' = grow (putRow (Value.int .i64) (Sort.ahead w n) blk 0 (zs.mergeSort fun x y => decide (x ≤ y)).toArray) os :=
  AnyM.slices_Sort_int Tryz.lSort blk 0 cap zs w hH hblk (by omega)

set_option maxHeartbeats 1000000 in
theorem nodes_any (m : Mem w L p DW DE E) {v : Option Addr} {T : BT Int} (h : RowAt w v T) (hs : sz T ≤ 400) (hz : 0 < sz T) (ns : List Int) (hns : ((items T).filter fun z : Int => decide (z < (L.n : Nat))).mergeSort (fun x y => decide (x ≤ y)) = ns) :
    Calls Tryz.prog 45 #[.pointer (some ⟨L.g, 0, none⟩), .pointer v] w fun e w' => ∃ k, e = .returned (.slice (some ⟨k, 0, none⟩) ns.length (sz T)) ∧ RowKit.Below w.heap.size w w' ∧ w.heap.size ≤ k ∧ ns.length ≤ sz T ∧ (∀ j, j < ns.length → w'.cell? ⟨k, j, none⟩ = some (.int .i64 (ns.getD j 0))) := by
  have c0 := m.c0
  have hn := m.n60
  have hg : L.g < w.heap.size := m.st.lt
  generalize L.n = n at *
  generalize L.hb = hb at *
  generalize L.g = g at *
  clear m
  obtain ⟨ys, hys⟩ : ∃ ys, ys = (items T).filter fun z : Int => decide (z < (n : Nat)) := ⟨_, rfl⟩
  rw [← hys] at hns
  have HN : Hid (ys.mergeSort (fun x y => decide (x ≤ y)) = ns) := hns
  have HY : Hid (ys = (items T).filter fun z : Int => decide (z < (n : Nat))) := hys
  have hyl : ys.length ≤ sz T := by rw [hys, ← items_len]; exact List.length_filter_le _ _
  have hnl : ns.length = ys.length := by rw [← hns, List.length_mergeSort]
  clear hns hys
  go_enter Tryz.func45, Tryz.ntmps45
  go_wp2_with fail
  have hb0 : RowKit.Below w.heap.size w (w.alloc (.cells #[.pointer (some ⟨g, 0, none⟩)] 36)) := (RowKit.Below.refl _ _).alloc (Nat.le_refl _) _
  have hB0 : (w.alloc (.cells #[.pointer (some ⟨g, 0, none⟩)] 36)).cell? ⟨w.heap.size, 0, none⟩ = some (.pointer (some ⟨g, 0, none⟩)) := by simp
  have hs0 : w.heap.size < (w.alloc (.cells #[.pointer (some ⟨g, 0, none⟩)] 36)).heap.size := by simp
  have h1 := h.below hb0
  have c01 := cell_keep hb0 c0
  generalize (w.alloc (.cells #[.pointer (some ⟨g, 0, none⟩)] 36)) = W0 at *
  generalize hBB : w.heap.size = B at *
  refine (list_own h1 (by omega) hz).mono ?_
  rintro e w1 ⟨k, rfl, hb1, hk, hk1, hh⟩
  have hBk := cell_keep hb1 hB0
  have c02 := cell_keep hb1 c01
  rw [← items_len] at hs hz
  go_wp2_with fail
  rw [← items_len]
  refine (delete_any (cap := (items T).length) (items T) w1 hBk c02 hn (by omega) (by omega) hh (by omega) (Nat.le_refl _)).mono ?_
  rw [← HY.out]
  rintro e w2 ⟨rfl, q, hw2⟩
  have hH2 : Holds (Value.int .i64) w2 k 0 (ys ++ List.replicate ((items T).length - ys.length) 0).toArray := by
    rw [hw2]
    exact holds_putRow _ _ _ _ (items T).toArray _ (holds_ahead _ _ _ _ _ _ hh) (by simp; rw [items_len]; omega)
  have hb2 : RowKit.Below B w1 w2 := by rw [hw2]; exact below_put _ (by omega)
  have hk2 : k < w2.heap.size := by rw [hw2]; simpa using hk1
  clear hw2
  have hil := items_len T
  have hyb : ys.length < 1000000 := by omega
  clear hil
  go_wp2_with fail
  refine (sort_any ys w2 (holds_prefix hH2) hk2 hyb).mono ?_
  rintro e w3 ⟨rfl, q3, os, hw3⟩
  rw [HN.out] at hw3
  have hh3 : Holds (Value.int .i64) w3 k 0 ns.toArray := by
    rw [hw3]
    exact holds_grow _ _ _ _ _ _ (by simpa using hk2) (holds_putRow _ _ _ _ ys.toArray _ (holds_ahead _ _ _ _ _ _ (holds_prefix hH2)) (by simp; exact hnl))
  have hb3 : RowKit.Below B w2 w3 := by
    rw [hw3]
    have := hb2.size
    have := hb1.size
    exact (below_put _ (by omega)).trans (below_grows _ (by simp; omega))
  clear hw3
  go_wp2_with fail
  go_ret
  subst hBB
  refine ⟨k, by rw [hnl, items_len]; rfl, (hb0.trans (hb1.mono (by omega))).trans (hb2.trans hb3), by omega, by omega, holds_cell hh3⟩

end Go.Proofs.YtcebfloeikjjcabGreat
