/-
  More functions of package tour: joined, place; a row's list as memory of its own; nodes.
-/
import Derived.Test.YtcebfloeikjjcabGreatWalks4
import Derived.Test.YtcebfloeikjjcabGreatTw1
import Derived.Test.YtcebfloeikjjcabGreatSh1
import Derived.Lib.RowBridge
namespace Go.Proofs.YtcebfloeikjjcabGreat
open Go.RowKit Go.Deep Go.Shelf Go.Sort Go.Lib
open Go.RowKit (Below)
set_option linter.unusedVariables false

variable {w w' : World} {L : Pl} {p : Nat → Nat} {DW DE : DataW Unit} {E : List (Nat × Nat)}

set_option maxHeartbeats 1000000 in
theorem joined_any (b : Nat) (vs : List (Option Addr × BT Int)) {w : World} (hc : ∀ i x, vs[i]? = some x → w.cell? ⟨b, i, none⟩ = some (.pointer x.1)) (hr : ∀ x ∈ vs, RowAt w x.1 x.2 ∧ Bal x.2) (hs : (vs.flatMap fun x => items x.2).length ≤ 400) (hl : vs.length < 100) (c : Nat) :
    Calls Tryz.prog 33 #[.slice (some ⟨b, 0, none⟩) vs.length c] w fun e w' => ∃ v T, e = .returned (.pointer v) ∧ RowKit.Below w.heap.size w w' ∧ RowAt w' v T ∧ Bal T ∧ items T = vs.flatMap fun x => items x.2 := by
  have HC : Hid (∀ i x, vs[i]? = some x → w.cell? ⟨b, i, none⟩ = some (.pointer x.1)) := hc
  have HR : Hid (∀ x ∈ vs, RowAt w x.1 x.2 ∧ Bal x.2) := hr
  have HS : Hid ((vs.flatMap fun x => items x.2).length ≤ 400) := hs
  clear hc hr hs
  go_enter Tryz.func33, Tryz.ntmps33
  go_wp2_with fail
  go_loopw [3, 5, 8, 12] (fun all _ i _ wr => ∃ (j : Nat) (v : Option Addr) (T : BT Int), j ≤ vs.length ∧ i = .int .i64 (j : Nat) ∧ all = .pointer v ∧ RowKit.Below w.heap.size w wr ∧ RowAt wr v T ∧ Bal T ∧ items T = (vs.take j).flatMap fun x => items x.2) (fun _ _ i _ _ => vs.length - (intOf i).toNat)
  case atStart => exact ⟨0, none, .nil, Nat.zero_le _, rfl, rfl, RowKit.Below.refl _ _, RowAt.nil_ _, trivial, rfl⟩
  case round =>
    obtain ⟨j, v, T, hj, rfl, rfl, hb, hrow, hbal, hit⟩ := hrel
    by_cases hlt : j < vs.length
    · obtain ⟨x, hx⟩ : ∃ x, vs[j]? = some x := ⟨_, List.getElem?_eq_getElem hlt⟩
      have hcell := cell_keep hb (HC.out j x hx)
      obtain ⟨hrx, hbx⟩ := HR.out x (List.mem_of_getElem? hx)
      have i0 : (0 : Int) ≤ (j : Int) := by omega
      have i1 : (j : Int) < (vs.length : Int) := by omega
      have ht : (vs.take (j + 1)).flatMap (fun x => items x.2) = items T ++ items x.2 := by
        rw [List.take_add_one, hx, hit]; simp
      have hlen : sz T + sz x.2 ≤ 400 := by
        have h1 := HS.out
        rw [← List.take_append_drop (j + 1) vs, List.flatMap_append, ht] at h1
        simp only [List.length_append, items_len] at h1
        omega
      have HT : Hid ((vs.take (j + 1)).flatMap (fun x => items x.2) = items T ++ items x.2) := ht
      clear ht hit hx
      go_wp2_with fail
      refine (join_any hrow (hrx.below hb) hbal hbx hlen).mono ?_
      rintro e w1 ⟨v1, T1, rfl, hb1, hr1, hB1, hi1⟩
      go_wp2_with fail
      go_roundw
      case rel => exact ⟨j + 1, v1, T1, by omega, by go_num, rfl, below_step hb hb1, hr1, hB1, hi1.trans HT.out.symm⟩
      case measure => simp [intOf]; omega
    · have HI : Hid (items T = vs.flatMap fun x => items x.2) := show _ = _ by rw [hit, List.take_of_length_le (by omega)]
      clear hit
      go_wp2_with fail
      go_ret
      exact ⟨v, T, rfl, hb, hrow, hbal, HI.out⟩

/-- Where an item stands first. -/
theorem idx_at (P Q : List Int) (x : Int) (h : x ∉ P) : Lib.idxOf (P ++ x :: Q) x = (P.length : Nat) := by
  have := Lib.idxFrom_hit x (P ++ x :: Q) P.length 0 (by simp) (by simp) (fun j hj e => by
    apply h
    rw [List.getD_eq_getElem?_getD, List.getElem?_append_left hj, List.getElem?_eq_getElem hj] at e
    exact e ▸ List.getElem_mem hj)
  unfold Lib.idxOf
  rw [this]; simp

theorem index_any (b n c : Nat) (zs : List Int) (x : Int) (w : World) (hz : n = zs.length) (hbig : n < 1000000) (hc : ∀ j, j < zs.length → w.cell? ⟨b, j, none⟩ = some (.int .i64 (zs.getD j 0))) :
    Calls Tryz.prog 66 #[.slice (some ⟨b, 0, none⟩) n c, .int .i64 x] w fun e w' => e = .returned (.int .i64 (Lib.idxOf zs x)) ∧ w' = w := by
  have := AnyG.slices_Index_int Tryz.lIndex b 0 n c zs x w (by omega) (by omega) (fun j hj => by rw [Nat.zero_add]; exact hc j hj)
  rw [hz, List.take_length] at this
  rw [hz]
  exact this

set_option maxHeartbeats 1000000 in
/-- The list of a row lies in memory of its own. -/
theorem list_own {v : Option Addr} {T : BT Int} {w : World} (h : RowAt w v T) (hs : sz T < 1000000) (hz : 0 < sz T) :
    Calls Tryz.prog 60 #[.pointer v] w fun e w' => ∃ g, e = .returned (.slice (some ⟨g, 0, none⟩) (sz T) (sz T)) ∧ RowKit.Below w.heap.size w w' ∧ w.heap.size ≤ g ∧ g < w'.heap.size ∧ Holds (Value.int .i64) w' g 0 (items T).toArray := by
  obtain ⟨CC, hCC, hmk⟩ := make_row (sz T) (by omega)
  have hg := gone_start (w := w) hCC
  have HG : Hid (Gone _ _ _ _ _ _ _) := hg
  clear hCC hg
  go_enter Tryz.func60, Tryz.ntmps60
  go_wp2_with fail
  refine (len_any h).mono ?_
  rintro e w' ⟨rfl, rfl⟩
  go_wp2_with fail
  have hg := HG.out
  clear HG hmk
  generalize (((w'.alloc (Obj.cells CC 3)).alloc (Obj.cells #[Value.slice (some ⟨w'.heap.size, 0, none⟩) 0 (sz T)] 33)).alloc (Obj.cells #[Value.func (Fn.func 80) #[] #[Value.pointer (some ⟨w'.heap.size + 1 + 1, 0, none⟩), Value.pointer (some ⟨w'.heap.size + 1, 0, none⟩)]] 121)) = W0 at hg ⊢
  generalize w'.heap.size + 1 + 1 = gw at hg ⊢
  generalize w'.heap.size + 1 = go at hg ⊢
  have f0 := hg.fcell
  have hbW := hg.below
  go_region_held3 (fun W => W.cell? ⟨gw, 0, none⟩ = some (Value.func (Fn.func 80) #[] #[Value.pointer (some ⟨gw, 0, none⟩), Value.pointer (some ⟨go, 0, none⟩)])) (first | (go_keep; done) | exact hg1.fcell)
    (first
      | (go_at_call 51; refine (tree_any (h.below hbW).drew).mono ?_; rintro e w2 ⟨u, rfl, rfl, ha⟩)
      | (go_at_call 80; refine (walk_any T (⟨h.lies, ha.at_⟩ : At w' u T) hg.drew ?_ ?_).mono ?_; (simp); (omega); rintro e w3 ⟨rfl, hg1⟩))
  rw [List.nil_append] at hg1
  have o1 := hg1.ocell
  rw [items_len] at o1
  go_wp2_with fail
  go_ret
  have hcell : ∀ j, j < (items T).length → w3.cell? ⟨w'.heap.size, 0 + j, none⟩ = some (.int .i64 ((items T).getD j 0)) := fun j hj => by rw [Nat.zero_add]; exact hg1.cells j hj
  refine ⟨_, rfl, hg1.below, hg1.n3, World.block_lt_of_cell? _ _ (hcell 0 (by rw [items_len]; exact hz)), ?_⟩
  have := holds_of_ints (n := (items T).length) (Nat.le_refl _) hcell (fun j hj => by rw [Nat.zero_add]; exact (hg1.there j (by rw [items_len] at hj; exact hj)).2)
  rwa [List.take_length] at this

theorem holds_cell {w : World} {g : Nat} {zs : List Int} (h : Holds (Value.int .i64) w g 0 zs.toArray) (j : Nat) (hj : j < zs.length) : w.cell? ⟨g, j, none⟩ = some (.int .i64 (zs.getD j 0)) := by
  have := (h j (by simpa using hj)).1
  rw [Nat.zero_add] at this
  rw [this]
  simp [List.getD_eq_getElem?_getD, hj]

set_option maxHeartbeats 400000 in
theorem place_any {v : Option Addr} {T : BT Int} {w : World} (h : RowAt w v T) (hs : sz T ≤ 400) (P Q : List Int) (x : Int) (hi : items T = P ++ x :: Q) (hx : x ∉ P) :
    Calls Tryz.prog 48 #[.pointer v, .int .i64 x] w fun e w' => e = .returned (.int .i64 (P.length : Nat)) ∧ RowKit.Below w.heap.size w w' := by
  have hz : 0 < sz T := by rw [← items_len, hi]; simp; omega
  have HI : Hid (items T = P ++ x :: Q) := hi
  have HX : Hid (x ∉ P) := hx
  clear hi hx
  go_enter Tryz.func48, Tryz.ntmps48
  go_wp2_with fail
  refine (list_own h (by omega) hz).mono ?_
  rintro e w1 ⟨g, rfl, hb, hg, hg1, hh⟩
  go_wp2_with fail
  refine (index_any g (sz T) (sz T) (items T) x w1 (items_len T).symm (by omega) (holds_cell hh)).mono ?_
  rintro e w2 ⟨rfl, rfl⟩
  go_wp2_with fail
  go_ret
  exact ⟨by rw [HI.out, idx_at P Q x HX.out]; rfl, hb⟩

end Go.Proofs.YtcebfloeikjjcabGreat
