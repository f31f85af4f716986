/-
  Mj Mi
-/
import Derived.Test.YtcfemppdeidjmacGreatW11
import Derived.Test.YtcfemppdeidjmacGreatW13
import Derived.Test.YtcfemppdeidjmacGreatW10
namespace Go.Proofs.YtcfemppdeidjmacGreat.Gr
set_option linter.unusedSectionVars false
variable [Inhabited Zed]
open Go.RowKit Go.Deep Go.Maps
open Go.RowKit (Below)
set_option linter.unusedVariables false

variable {w w' : World} {G : GPl} {A A' : List (Nat × Nat)} {lv : Nat × Nat → Nat} {tr : Nat × Nat → Bool} {X : Nat → List (Nat × Nat)} {a b : Nat}

theorem GMem.reput (h : GMem w G A lv tr X) (he : (a, b) ∈ A) (l : Nat) (t : Bool) :
    ∃ w', (Instr.mapUpdate 85 (.map (some G.mb)) (ev a b) (hv l t)).run Tryz.prog w = .ok () w' ∧ GMem w' G A (upd lv (a, b) l) (upd tr (a, b) t) X ∧ w.mapTurned w' G.mb := by
  obtain ⟨D, hD⟩ := h.map
  have hn := h.node he
  have h60 := h.n60
  have h200 := h.m200
  obtain ⟨w', D', hrun, hD', ht⟩ := hD.put (A' := A) (lv' := upd lv (a, b) l) (tr' := upd tr (a, b) t) (by omega) (by omega) (by omega) l t (fun e => ⟨Or.inr, fun q => q.elim (fun q => q ▸ he) id⟩) (by rw [if_pos he]) ⟨upd_same .., upd_same ..⟩ (fun e _ hne => ⟨upd_other hne, upd_other hne⟩)
  exact ⟨w', hrun, h.mapped ⟨D', hD'⟩ ht h.rises h.among h.less h.m200, ht⟩

theorem GMem.turns_map (t : w.mapTurned w' G.mb) : Turns (GFoot G) w w' := Turns.grown t.grown (Or.inl rfl)

theorem turns_forest {k : Nat} (hk : k < G.K) (t : Turn (G.L k) w w') : Turns (GFoot G) w w' := (Turns.of_turn t).mono fun b hb => Or.inr ⟨k, hk, hb⟩

set_option maxRecDepth 100000 in
set_option maxHeartbeats 2000000 in
theorem raise_rest (h : GMem w G A lv tr X) (he : (a, b) ∈ A) (ht : tr (a, b) = false) (l : Nat) (hl : lv (a, b) = l) (hl2 : l < 1000) :
    Calls Tryz.prog 142 #[.pointer (some ⟨G.g, 0, none⟩), ev a b] w fun e w' => e = .returned (.tuple #[]) ∧ Turns (GFoot G) w w' ∧ GMem w' G A (upd lv (a, b) (l + 1)) tr X := by
  have hnd := h.node he
  have hn60 := h.n60
  obtain ⟨w1, hw1⟩ : ∃ w1, w1 = w.alloc (.cells #[.int .i64 (a : Int), .int .i64 (b : Int)] 44) := ⟨_, rfl⟩
  have hb1 : Below w.heap.size w w1 := by rw [hw1]; exact (Below.refl _ _).alloc (Nat.le_refl _) _
  have s1 : w1.heap.size = w.heap.size + 1 := by rw [hw1]; simp
  have e0 : w1.cell? ⟨w.heap.size, 0, none⟩ = some (.int .i64 (a : Int)) := by rw [hw1]; simp
  have e1 : w1.cell? ⟨w.heap.size, 1, none⟩ = some (.int .i64 (b : Int)) := by rw [hw1]; simp
  have h1 := h.below hb1
  have c1 := h1.c1
  obtain ⟨W2, hW2⟩ : ∃ W2, W2 = (w1.alloc (.cells #[.int .i64 (l : Nat), .bool false] 91)).drew := ⟨_, rfl⟩
  have bz : Below w1.heap.size w1 (w1.alloc (.cells #[.int .i64 0, .bool false] 91)).drew := ((Below.refl _ _).alloc (Nat.le_refl _) _).drew
  have hb2 : Below w1.heap.size w1 W2 := by rw [hW2]; exact ((Below.refl _ _).alloc (Nat.le_refl _) _).drew
  obtain ⟨D, hD⟩ := h1.map
  have l1 := (hD.of_block (w' := w1.drew) rfl).look (a := a) (b := b) (by omega) (by omega) he
  have l2 := (hD.of_block (bz.block _ (map_lt hD.isMap))).look (a := a) (b := b) (by omega) (by omega) he
  rw [hl, ht] at l1 l2
  have r2 : W2.rowIs w1.heap.size 91 2 (hcells l false) := by rw [hW2]; exact (row_new w1 l false).drew
  rw [s1] at r2
  obtain ⟨bh, hbh⟩ : ∃ bh, bh = w.heap.size + 1 := ⟨_, rfl⟩
  rw [← hbh] at r2
  have b02 : Below w.heap.size w W2 := below_step hb1 hb2
  obtain ⟨W3, hW3⟩ : ∃ W3, W3 = W2.setCell ⟨bh, 0, none⟩ (.int .i64 ((l : Int) + 1)) := ⟨_, rfl⟩
  have b03 : Below w.heap.size w W3 := by rw [hW3]; exact b02.setCell (by show w.heap.size ≤ bh; omega) _
  have b13 : Below w1.heap.size w1 W3 := by rw [hW3]; exact hb2.setCell (by show w1.heap.size ≤ bh; omega) _
  have r3 : W3.rowIs bh 91 2 (hcells (l + 1) false) := by
    rw [hW3]
    refine (r2.set 0 _).congr fun i hi => ?_
    match i, hi with
    | 0, _ => simp [hcells]
    | 1, _ => rfl
  have h3 := h.below b03
  obtain ⟨w4, hrun4, h4, t4⟩ := h3.drew.reput he (l + 1) false
  have T4 : Turns (GFoot G) w w4 := (Turns.of_below (b03.drew)).trans (GMem.turns_map t4)
  have hfin : GMem w4 G A (upd lv (a, b) (l + 1)) tr X := h4.told (fun x hx => ⟨rfl, by
    by_cases e : x = (a, b)
    · subst e; rw [upd_same]; exact ht.symm
    · exact upd_other e⟩)
  have f2 := r2.frozen 0
  have q2 := r2.cell (i := 0) (by omega)
  have q30 := r3.cell (i := 0) (by omega)
  have q31 := r3.cell (i := 1) (by omega)
  have c13 := h3.c1
  have e03 := cell_keep b13 e0
  have e13 := cell_keep b13 e1
  have q41 : w4.cell? ⟨bh, 1, none⟩ = some (.bool false) := (World.cell?_of_block (w := W3.drew) (a := ⟨bh, 1, none⟩) (t4.grown.block bh r3.lt (fun e => by
    have h5 := h.foot_lt (Or.inl rfl : GFoot G G.mb)
    cases e
    omega))).trans q31
  have HT : Hid (Turns (GFoot G) w w4 ∧ GMem w4 G A (upd lv (a, b) (l + 1)) tr X) := ⟨T4, hfin⟩
  have HW2 : Hid (W2 = (w1.alloc (.cells #[.int .i64 (l : Nat), .bool false] 91)).drew) := hW2
  have HW3 : Hid (W3 = W2.setCell ⟨bh, 0, none⟩ (.int .i64 ((l : Int) + 1))) := hW3
  have HBH : Hid (bh = w.heap.size + 1) := hbh
  clear hD hW2 hW3 r2 r3 h3 h4 t4 T4 hfin b02 b03 b13 hb2 bz hb1 h h1 he ht hl
  dsimp only [ev, hv, hcells] at l1 l2 hrun4 q2 q30 q31
  simp only [Int.natCast_add, Int.natCast_one, if_true, if_false, Nat.one_ne_zero] at hrun4 q2 q30 q31
  go_enter Tryz.func142, Tryz.ntmps142
  dsimp only [ev]
  go_wp2_with fail
  rw [← hw1]
  clear hw1
  go_region_held3 (fun V => V.cell? ⟨G.g, 1, none⟩ = some (.map (some G.mb)) ∧ V.cell? ⟨w.heap.size, 0, none⟩ = some (.int .i64 (a : Int)) ∧ V.cell? ⟨w.heap.size, 1, none⟩ = some (.int .i64 (b : Int))) (first | (go_keep; done) | exact ⟨c1, e0, e1⟩) (fail)
  all_goals
    rw [← HW2.out]
    rw [← hbh]
    clear l1 l2 e0 e1 c1 s1 hbh
    go_wp2_with fail
    rw [← HW3.out]
    go_region
    go_wp2_with fail
    go_end0
    exact ⟨rfl, HT.out⟩

set_option maxRecDepth 100000 in
set_option maxHeartbeats 2000000 in
theorem raise_tree (h : GMem w G A lv tr X) (he : (a, b) ∈ A) (ht : tr (a, b) = true) (l : Nat) (hl : lv (a, b) = l) (hl2 : l + 1 < G.K) (hnc : ¬ Conn (X (l + 1)) a b) (Y : List (Nat × Nat)) (hY : ∀ P Q, X (l + 1) = P ++ Q → Rises (P ++ (a, b) :: Q) → P ++ (a, b) :: Q = Y) :
    Calls Tryz.prog 142 #[.pointer (some ⟨G.g, 0, none⟩), ev a b] w fun e w' => e = .returned (.tuple #[]) ∧ Turns (GFoot G) w w' ∧ GMem w' G A (upd lv (a, b) (l + 1)) tr (fun j => if j = l + 1 then Y else X j) := by
  have hk6 := h.k10
  have hnd := h.node he
  have hn60 := h.n60
  obtain ⟨w1, hw1⟩ : ∃ w1, w1 = w.alloc (.cells #[.int .i64 (a : Int), .int .i64 (b : Int)] 44) := ⟨_, rfl⟩
  have hb1 : Below w.heap.size w w1 := by rw [hw1]; exact (Below.refl _ _).alloc (Nat.le_refl _) _
  have s1 : w1.heap.size = w.heap.size + 1 := by rw [hw1]; simp
  have e0 : w1.cell? ⟨w.heap.size, 0, none⟩ = some (.int .i64 (a : Int)) := by rw [hw1]; simp
  have e1 : w1.cell? ⟨w.heap.size, 1, none⟩ = some (.int .i64 (b : Int)) := by rw [hw1]; simp
  have h1 := h.below hb1
  have c1 := h1.c1
  obtain ⟨W2, hW2⟩ : ∃ W2, W2 = (w1.alloc (.cells #[.int .i64 (l : Nat), .bool true] 91)).drew := ⟨_, rfl⟩
  have bz : Below w1.heap.size w1 (w1.alloc (.cells #[.int .i64 0, .bool false] 91)).drew := ((Below.refl _ _).alloc (Nat.le_refl _) _).drew
  have hb2 : Below w1.heap.size w1 W2 := by rw [hW2]; exact ((Below.refl _ _).alloc (Nat.le_refl _) _).drew
  obtain ⟨D, hD⟩ := h1.map
  have l1 := (hD.of_block (w' := w1.drew) rfl).look (a := a) (b := b) (by omega) (by omega) he
  have l2 := (hD.of_block (bz.block _ (map_lt hD.isMap))).look (a := a) (b := b) (by omega) (by omega) he
  rw [hl, ht] at l1 l2
  have r2 : W2.rowIs w1.heap.size 91 2 (hcells l true) := by rw [hW2]; exact (row_new w1 l true).drew
  rw [s1] at r2
  obtain ⟨bh, hbh⟩ : ∃ bh, bh = w.heap.size + 1 := ⟨_, rfl⟩
  rw [← hbh] at r2
  have b02 : Below w.heap.size w W2 := below_step hb1 hb2
  obtain ⟨m, hm⟩ : ∃ m, m = l + 1 := ⟨_, rfl⟩
  obtain ⟨W3, hW3⟩ : ∃ W3, W3 = W2.setCell ⟨bh, 0, none⟩ (.int .i64 ((l : Int) + 1)) := ⟨_, rfl⟩
  have b03 : Below w.heap.size w W3 := by rw [hW3]; exact b02.setCell (by show w.heap.size ≤ bh; omega) _
  have b13 : Below w1.heap.size w1 W3 := by rw [hW3]; exact hb2.setCell (by show w1.heap.size ≤ bh; omega) _
  have r3 : W3.rowIs bh 91 2 (hcells m true) := by
    rw [hW3]
    refine (r2.set 0 _).congr fun i hi => ?_
    match i, hi with
    | 0, _ => simp [hcells, hm]
    | 1, _ => rfl
  have h3 := h.below b03
  obtain ⟨w4, hrun4, h4, t4⟩ := h3.drew.reput he m true
  have T4 : Turns (GFoot G) w w4 := (Turns.of_below (b03.drew)).trans (GMem.turns_map t4)
  have hfin : GMem w4 G A (upd lv (a, b) m) tr X := h4.told (fun x hx => ⟨rfl, by
    by_cases e : x = (a, b)
    · subst e; rw [upd_same]; exact ht.symm
    · exact upd_other e⟩)
  have f2 := r2.frozen 0
  have q2 := r2.cell (i := 0) (by omega)
  have q30 := r3.cell (i := 0) (by omega)
  have q31 := r3.cell (i := 1) (by omega)
  have c13 := h3.c1
  have e03 := cell_keep b13 e0
  have e13 := cell_keep b13 e1
  have q41 : w4.cell? ⟨bh, 1, none⟩ = some (.bool true) := (World.cell?_of_block (w := W3.drew) (a := ⟨bh, 1, none⟩) (t4.grown.block bh r3.lt (fun e => by
    have h5 := h.foot_lt (Or.inl rfl : GFoot G G.mb)
    have e9 := Option.some.inj e
    omega))).trans q31
  have ne4 : ∀ {o : Nat} {v : Value}, W3.cell? ⟨bh, o, none⟩ = some v → w4.cell? ⟨bh, o, none⟩ = some v := fun {o v} hv => (World.cell?_of_block (w := W3.drew) (a := ⟨bh, o, none⟩) (t4.grown.block bh r3.lt (fun e => by
    have h5 := h.foot_lt (Or.inl rfl : GFoot G G.mb)
    have e9 := Option.some.inj e
    omega))).trans hv
  have be4 : ∀ {o : Nat} {v : Value}, W3.cell? ⟨w.heap.size, o, none⟩ = some v → w4.cell? ⟨w.heap.size, o, none⟩ = some v := fun {o v} hv => (World.cell?_of_block (w := W3.drew) (a := ⟨w.heap.size, o, none⟩) (t4.grown.block w.heap.size (World.block_lt_of_cell? _ _ hv) (fun e => by
    have h5 := h.foot_lt (Or.inl rfl : GFoot G G.mb)
    have e9 := Option.some.inj e
    omega))).trans hv
  have q40 := ne4 q30
  have e04 := be4 e03
  have e14 := be4 e13
  have c24 := hfin.c2
  have r24 := hfin.row m (by omega)
  obtain ⟨p, f4⟩ := hfin.drew.fo m (by omega)
  have hne : p a ≠ p b := fun q => hnc (by rw [← hm]; exact (f4.grown.rest.same a b).1 q)
  have hln := hfin.ln m (by omega)
  have hlk := flink_any f4 a b (by rw [hln]; exact hnd.1) (by rw [hln]; exact hnd.2.1) hne
  have hbl : ∀ {c o : Nat} {v : Value} {w5 : World}, w4.cell? ⟨c, o, none⟩ = some v → ¬ Foot (G.L m) c → Turn (G.L m) w4.drew w5 → w5.cell? ⟨c, o, none⟩ = some v := fun {c o v w5} hv hn t => (World.cell?_of_block (w := w4.drew) (a := ⟨c, o, none⟩) (t.block c (World.block_lt_of_cell? _ _ hv) hn)).trans hv
  have hft : ∀ {c : Nat}, Foot (G.L m) c → c < w.heap.size := fun {c} hc => h.foot_lt (Or.inr ⟨m, by omega, hc⟩)
  have hmi : ((m : Nat) : Int) < (G.K : Nat) := by omega
  have hmi0 : (0 : Int) ≤ ((m : Nat) : Int) := by omega
  have hg4 : ¬ Foot (G.L m) G.g := fat_plain f4 _ _ (rowIs_tag hfin.drew.st) (by decide)
  have hf4 : ¬ Foot (G.L m) G.fb := fat_plain f4 _ _ hfin.drew.tag (by decide)
  have hlk2 : Calls Tryz.prog 18 #[.pointer (some ⟨(G.L m).g, 0, none⟩), .int .i64 (a : Int), .int .i64 (b : Int)] w4.drew fun e w5 => e = .returned .nilIface ∧
      (w5.cell? ⟨G.g, 2, none⟩ = some (.slice (some ⟨G.fb, 0, none⟩) G.K G.cap) ∧ w5.cell? ⟨bh, 0, none⟩ = some (.int .i64 (m : Nat)) ∧ w5.cell? ⟨G.fb, m, none⟩ = some (.pointer (some ⟨(G.L m).g, 0, none⟩)) ∧ w5.cell? ⟨w.heap.size, 0, none⟩ = some (.int .i64 (a : Int)) ∧ w5.cell? ⟨w.heap.size, 1, none⟩ = some (.int .i64 (b : Int))) ∧
      Hid (Turns (GFoot G) w w5 ∧ GMem w5 G A (upd lv (a, b) (l + 1)) tr (fun j => if j = l + 1 then Y else X j)) := by
    refine hlk.mono ?_
    rintro e w5 ⟨rfl, t5, P, Q, p', hE, -, f5⟩
    refine ⟨rfl, ⟨hbl c24 hg4 t5, hbl q40 (fun q => by have := hft q; omega) t5, hbl r24 hf4 t5, hbl e04 (fun q => by have := hft q; omega) t5, hbl e14 (fun q => by have := hft q; omega) t5⟩, ?_, ?_⟩
    · exact (T4.trans (Turns.of_below (Below.refl _ _).drew)).trans (turns_forest (by omega) t5)
    · have hmin : min a b = a := Nat.min_eq_left (by omega)
      have hmax : max a b = b := Nat.max_eq_right (by omega)
      rw [hmin, hmax] at f5
      rw [hm] at hE
      have hy := hY P Q hE f5.grown.rises
      rw [hy] at f5
      rw [← hm]
      exact hfin.drew.forest (by omega) t5 f5
  have HW2 : Hid (W2 = (w1.alloc (.cells #[.int .i64 (l : Nat), .bool true] 91)).drew) := hW2
  have HW3 : Hid (W3 = W2.setCell ⟨bh, 0, none⟩ (.int .i64 ((l : Int) + 1))) := hW3
  have HM : Hid (m = l + 1) := hm
  clear hD hW2 hW3 r2 r3 h3 h4 t4 T4 hfin b02 b03 b13 hb2 bz hb1 h h1 he ht hl ne4 be4 hbl hft hlk f4 hne hln hg4 hf4 hnc hY hm
  dsimp only [ev, hv, hcells] at l1 l2 hrun4 q2 q30 q31 q40
  simp only [if_true, if_false, Nat.one_ne_zero] at hrun4 q2 q30 q31 q40
  go_enter Tryz.func142, Tryz.ntmps142
  dsimp only [ev]
  go_wp2_with fail
  rw [← hw1]
  clear hw1
  go_region_held3 (fun V => V.cell? ⟨G.g, 1, none⟩ = some (.map (some G.mb)) ∧ V.cell? ⟨w.heap.size, 0, none⟩ = some (.int .i64 (a : Int)) ∧ V.cell? ⟨w.heap.size, 1, none⟩ = some (.int .i64 (b : Int))) (first | (go_keep; done) | exact ⟨c1, e0, e1⟩) (fail)
  all_goals
    rw [← HW2.out]
    rw [← hbh]
    clear l1 l2 e0 e1 c1 s1 hbh
    go_wp2_with fail
    rw [← HW3.out]
    go_region
    clear hrun4 q2 q30 q31 c13 e03 e13
    go_wp2_with fail
    go_region_held3 (fun V => V.cell? ⟨G.g, 2, none⟩ = some (.slice (some ⟨G.fb, 0, none⟩) G.K G.cap) ∧ V.cell? ⟨bh, 0, none⟩ = some (.int .i64 (m : Nat)) ∧ V.cell? ⟨G.fb, m, none⟩ = some (.pointer (some ⟨(G.L m).g, 0, none⟩)) ∧ V.cell? ⟨w.heap.size, 0, none⟩ = some (.int .i64 (a : Int)) ∧ V.cell? ⟨w.heap.size, 1, none⟩ = some (.int .i64 (b : Int)))
      (first | (go_keep; done) | exact ⟨c24, q40, r24, e04, e14⟩ | exact hS5)
      (first
        | (go_at_call 18; refine hlk2.mono ?_; rintro e w5 ⟨rfl, hS5, HT⟩))
    go_wp2_with fail
    go_end0
    exact ⟨rfl, HT.out⟩

end Go.Proofs.YtcfemppdeidjmacGreat.Gr

namespace Go.Proofs.YtcfemppdeidjmacGreat.Gr
set_option linter.unusedSectionVars false
variable [Inhabited Zed]
open Go.RowKit Go.Deep Go.Maps
open Go.RowKit (Below)
set_option linter.unusedVariables false

variable {w w' : World} {G : GPl} {A A' : List (Nat × Nat)} {lv : Nat × Nat → Nat} {tr : Nat × Nat → Bool} {X Y : Nat → List (Nat × Nat)} {a b : Nat}

def mixed (X Y : Nat → List (Nat × Nat)) (j : Nat) : Nat → List (Nat × Nat) := fun k => if k < j then Y k else X k

theorem mixed_next (X Y : Nat → List (Nat × Nat)) (j k : Nat) : (if k = j then Y j else mixed X Y j k) = mixed X Y (j + 1) k := by
  unfold mixed
  by_cases e : k = j
  · subst e; rw [if_pos rfl, if_pos (by omega)]
  · rw [if_neg e]
    by_cases h : k < j
    · rw [if_pos h, if_pos (by omega)]
    · rw [if_neg h, if_neg (by omega)]

theorem mixed_at (X Y : Nat → List (Nat × Nat)) (j : Nat) : mixed X Y j j = X j := if_neg (Nat.lt_irrefl _)
theorem mixed_zero (X Y : Nat → List (Nat × Nat)) : mixed X Y 0 = X := by funext k; exact if_neg (Nat.not_lt_zero _)

structure Step (w0 w : World) (G : GPl) (A : List (Nat × Nat)) (lv : Nat × Nat → Nat) (tr : Nat × Nat → Bool) (X Y : Nat → List (Nat × Nat)) (be a b j : Nat) : Prop where
  mem : GMem w G A lv tr (mixed X Y j)
  turns : Turns (GFoot G) w0 w
  e0 : w.cell? ⟨be, 0, none⟩ = some (.int .i64 (a : Int))
  e1 : w.cell? ⟨be, 1, none⟩ = some (.int .i64 (b : Int))
  off : ¬ GFoot G be

def Reads (V : World) (G : GPl) (be a b j : Nat) : Prop :=
  V.cell? ⟨G.g, 2, none⟩ = some (.slice (some ⟨G.fb, 0, none⟩) G.K G.cap) ∧ V.cell? ⟨G.fb, j, none⟩ = some (.pointer (some ⟨(G.L j).g, 0, none⟩)) ∧ V.cell? ⟨be, 0, none⟩ = some (.int .i64 (a : Int)) ∧ V.cell? ⟨be, 1, none⟩ = some (.int .i64 (b : Int))

theorem Step.reads {w0 : World} {be j : Nat} (h : Step w0 w G A lv tr X Y be a b j) (hj : j < G.K) : Reads w G be a b j := ⟨h.mem.c2, h.mem.row j hj, h.e0, h.e1⟩

theorem Step.turn {w0 : World} {be j : Nat} (h : Step w0 w G A lv tr X Y be a b j) (hj : j < G.K) {p : Nat → Nat} (t : Turn (G.L j) w.drew w') (f : FAt w' (G.L j) (Y j) p) : Step w0 w' G A lv tr X Y be a b (j + 1) := by
  have t1 : Turns (GFoot G) w.drew w' := turns_forest hj t
  have hb : ∀ {o : Nat} {v : Value}, w.cell? ⟨be, o, none⟩ = some v → w'.cell? ⟨be, o, none⟩ = some v := fun {o v} hv => (World.cell?_of_block (w := w.drew) (a := ⟨be, o, none⟩) (t1.block be (World.block_lt_of_cell? _ _ hv) h.off)).trans hv
  exact ⟨(h.mem.drew.forest hj t f).congr fun k _ => mixed_next X Y j k, h.turns.trans ((Turns.of_below (Below.refl _ _).drew).trans t1), hb h.e0, hb h.e1, h.off⟩

theorem Step.reads_turn {w0 : World} {be j : Nat} (h : Step w0 w G A lv tr X Y be a b j) (hj : j < G.K) (t : Turn (G.L j) w.drew w') : Reads w' G be a b j := by
  have t1 : Turns (GFoot G) w.drew w' := turns_forest hj t
  have hb : ∀ {o c : Nat} {v : Value}, w.cell? ⟨c, o, none⟩ = some v → ¬ GFoot G c → w'.cell? ⟨c, o, none⟩ = some v := fun {o c v} hv hc => (World.cell?_of_block (w := w.drew) (a := ⟨c, o, none⟩) (t1.block c (World.block_lt_of_cell? _ _ hv) hc)).trans hv
  exact ⟨hb h.mem.c2 (h.mem.plain _ _ (rowIs_tag h.mem.st) (by decide)), hb (h.mem.row j hj) (h.mem.plain _ _ h.mem.tag (by decide)), hb h.e0 h.off, hb h.e1 h.off⟩

theorem step_link {w0 : World} {be j : Nat} (h : Step w0 w G A lv tr X Y be a b j) (hj : j < G.K) (ha : a < b) (hb : b < G.n) (hc : ¬ Conn (X j) a b) (hY : ∀ P Q, X j = P ++ Q → Rises (P ++ (a, b) :: Q) → P ++ (a, b) :: Q = Y j) :
    Calls Tryz.prog 18 #[.pointer (some ⟨(G.L j).g, 0, none⟩), .int .i64 (a : Int), .int .i64 (b : Int)] w.drew fun e w5 => e = .returned .nilIface ∧ Reads w5 G be a b j ∧ Hid (Step w0 w5 G A lv tr X Y be a b (j + 1)) := by
  obtain ⟨p, f⟩ := h.mem.drew.fo j hj
  rw [mixed_at] at f
  have hln := h.mem.ln j hj
  have hlk := flink_any f a b (by rw [hln]; omega) (by rw [hln]; omega) (fun q => hc ((f.grown.rest.same a b).1 q))
  refine hlk.mono ?_
  rintro e w5 ⟨rfl, t5, P, Q, p', hE, -, f5⟩
  rw [Nat.min_eq_left (by omega), Nat.max_eq_right (by omega)] at f5
  have hy := hY P Q hE f5.grown.rises
  rw [hy] at f5
  exact ⟨rfl, h.reads_turn hj t5, h.turn hj t5 f5⟩

theorem step_cut {w0 : World} {be j : Nat} (h : Step w0 w G A lv tr X Y be a b j) (hj : j < G.K) (ha : a < b) (hb : b < G.n) {P Q : List (Nat × Nat)} (hX : X j = P ++ (a, b) :: Q) (hY : Y j = P ++ Q) :
    Calls Tryz.prog 105 #[.pointer (some ⟨(G.L j).g, 0, none⟩), .int .i64 (a : Int), .int .i64 (b : Int)] w.drew fun e w5 => e = .returned .nilIface ∧ Reads w5 G be a b j ∧ Hid (Step w0 w5 G A lv tr X Y be a b (j + 1)) := by
  obtain ⟨p, f⟩ := h.mem.drew.fo j hj
  rw [mixed_at, hX] at f
  have hln := h.mem.ln j hj
  have hmin : (a, b) = (min a b, max a b) := by rw [Nat.min_eq_left (by omega), Nat.max_eq_right (by omega)]
  rw [hmin] at f
  have hlk := fcut_any a b f (by rw [hln]; omega) (by rw [hln]; omega)
  refine hlk.mono ?_
  rintro e w5 ⟨rfl, t5, p', -, f5⟩
  rw [← hY] at f5
  exact ⟨rfl, h.reads_turn hj t5, h.turn hj t5 f5⟩

set_option maxRecDepth 100000 in
set_option maxHeartbeats 2000000 in
theorem fell_any (h : GMem w G A lv tr X) (ha : a < b) (hb : b < G.n) (l : Nat) (hl : l < G.K) (hX : ∀ k, k ≤ l → ∃ P Q, X k = P ++ (a, b) :: Q ∧ Y k = P ++ Q) :
    Calls Tryz.prog 71 #[.pointer (some ⟨G.g, 0, none⟩), ev a b, .int .i64 (l : Nat)] w fun e w' => e = .returned (.tuple #[]) ∧ Turns (GFoot G) w w' ∧ GMem w' G A lv tr (mixed X Y (l + 1)) := by
  obtain ⟨w1, hw1⟩ : ∃ w1, w1 = w.alloc (.cells #[.int .i64 (a : Int), .int .i64 (b : Int)] 44) := ⟨_, rfl⟩
  have hb1 : Below w.heap.size w w1 := by rw [hw1]; exact (Below.refl _ _).alloc (Nat.le_refl _) _
  have e0 : w1.cell? ⟨w.heap.size, 0, none⟩ = some (.int .i64 (a : Int)) := by rw [hw1]; simp
  have e1 : w1.cell? ⟨w.heap.size, 1, none⟩ = some (.int .i64 (b : Int)) := by rw [hw1]; simp
  have hS : Step w w1 G A lv tr X Y w.heap.size a b 0 := ⟨by rw [mixed_zero]; exact h.below hb1, Turns.of_below hb1, e0, e1, fun q => by have := h.foot_lt q; omega⟩
  have hk6 := h.k10
  have HS : Hid (Step w w1 G A lv tr X Y w.heap.size a b 0) := hS
  have HX : Hid (∀ k, k ≤ l → ∃ P Q, X k = P ++ (a, b) :: Q ∧ Y k = P ++ Q) := hX
  have HN : Hid (a < b ∧ b < G.n) := ⟨ha, hb⟩
  clear h hS hX e0 e1 hb1 ha hb
  go_enter Tryz.func71, Tryz.ntmps71
  dsimp only [ev]
  go_wp2_with fail
  rw [← hw1]
  clear hw1
  generalize w.heap.size = be at *
  go_loopw [6, 9] (fun _ i wr => ∃ j : Nat, j ≤ l + 1 ∧ i = .int .i64 (j : Nat) ∧ Step w wr G A lv tr X Y be a b j) (fun _ i _ => l + 1 - (intOf i).toNat)
  case atStart => exact ⟨0, Nat.zero_le _, rfl, HS.out⟩
  case round =>
    obtain ⟨j, hj, rfl, hR⟩ := hrel
    by_cases hlt : j < l + 1
    · obtain ⟨P, Q, hx, hy⟩ := HX.out j (by omega)
      have hc := step_cut hR (by omega) HN.out.1 HN.out.2 hx hy
      obtain ⟨r1, r2, r3, r4⟩ := hR.reads (by omega)
      have i0 : (0 : Int) ≤ (j : Int) := by omega
      have i1 : (j : Int) < (l : Int) + 1 := by omega
      have i2 : (j : Int) < (G.K : Int) := by omega
      clear hR hx hy
      go_wp2_with fail
      go_region_held3 (fun V => V.cell? ⟨G.g, 2, none⟩ = some (.slice (some ⟨G.fb, 0, none⟩) G.K G.cap) ∧ V.cell? ⟨G.fb, j, none⟩ = some (.pointer (some ⟨(G.L j).g, 0, none⟩)) ∧ V.cell? ⟨be, 0, none⟩ = some (.int .i64 (a : Int)) ∧ V.cell? ⟨be, 1, none⟩ = some (.int .i64 (b : Int)))
        (first | (go_keep; done) | exact ⟨r1, r2, r3, r4⟩ | exact hS5)
        (first
          | (go_at_call 105; refine hc.mono ?_; rintro e w5 ⟨rfl, hS5, HT⟩))
      clear r1 r2 r3 r4 hc hS5
      go_wp2_with fail
      go_roundw
      case rel => exact ⟨j + 1, by omega, by go_num, HT.out⟩
      case measure => simp [intOf]; omega
    · obtain rfl : j = l + 1 := by omega
      have HE : Hid (Step w wr G A lv tr X Y be a b (l + 1)) := hR
      clear hR
      have i1 : ¬ (((l + 1 : Nat) : Int) < (l : Int) + 1) := by omega
      go_wp2_with fail
      go_end0
      exact ⟨rfl, HE.out.turns, HE.out.mem⟩

set_option maxRecDepth 100000 in
set_option maxHeartbeats 2000000 in
theorem plant_any (h : GMem w G A lv tr X) (he : (a, b) ∈ A) (ht : tr (a, b) = false) (l : Nat) (hl : lv (a, b) = l) (hl2 : l < G.K) (hc : ∀ k, k ≤ l → ¬ Conn (X k) a b) (hY : ∀ k, k ≤ l → ∀ P Q, X k = P ++ Q → Rises (P ++ (a, b) :: Q) → P ++ (a, b) :: Q = Y k) :
    Calls Tryz.prog 74 #[.pointer (some ⟨G.g, 0, none⟩), ev a b] w fun e w' => e = .returned (.tuple #[]) ∧ Turns (GFoot G) w w' ∧ GMem w' G A lv (upd tr (a, b) true) (mixed X Y (l + 1)) := by
  have hnd := h.node he
  have hn60 := h.n60
  have hk6 := h.k10
  obtain ⟨w1, hw1⟩ : ∃ w1, w1 = w.alloc (.cells #[.int .i64 (a : Int), .int .i64 (b : Int)] 44) := ⟨_, rfl⟩
  have hb1 : Below w.heap.size w w1 := by rw [hw1]; exact (Below.refl _ _).alloc (Nat.le_refl _) _
  have s1 : w1.heap.size = w.heap.size + 1 := by rw [hw1]; simp
  have e0 : w1.cell? ⟨w.heap.size, 0, none⟩ = some (.int .i64 (a : Int)) := by rw [hw1]; simp
  have e1 : w1.cell? ⟨w.heap.size, 1, none⟩ = some (.int .i64 (b : Int)) := by rw [hw1]; simp
  have h1 := h.below hb1
  have c1 := h1.c1
  obtain ⟨W2, hW2⟩ : ∃ W2, W2 = (w1.alloc (.cells #[.int .i64 (l : Nat), .bool false] 91)).drew := ⟨_, rfl⟩
  have bz : Below w1.heap.size w1 (w1.alloc (.cells #[.int .i64 0, .bool false] 91)).drew := ((Below.refl _ _).alloc (Nat.le_refl _) _).drew
  have hb2 : Below w1.heap.size w1 W2 := by rw [hW2]; exact ((Below.refl _ _).alloc (Nat.le_refl _) _).drew
  obtain ⟨D, hD⟩ := h1.map
  have l1 := (hD.of_block (w' := w1.drew) rfl).look (a := a) (b := b) (by omega) (by omega) he
  have l2 := (hD.of_block (bz.block _ (map_lt hD.isMap))).look (a := a) (b := b) (by omega) (by omega) he
  rw [hl, ht] at l1 l2
  have r2 : W2.rowIs w1.heap.size 91 2 (hcells l false) := by rw [hW2]; exact (row_new w1 l false).drew
  rw [s1] at r2
  obtain ⟨bh, hbh⟩ : ∃ bh, bh = w.heap.size + 1 := ⟨_, rfl⟩
  rw [← hbh] at r2
  have b02 : Below w.heap.size w W2 := below_step hb1 hb2
  obtain ⟨W3, hW3⟩ : ∃ W3, W3 = W2.setCell ⟨bh, 1, none⟩ (.bool true) := ⟨_, rfl⟩
  have b03 : Below w.heap.size w W3 := by rw [hW3]; exact b02.setCell (by show w.heap.size ≤ bh; omega) _
  have b13 : Below w1.heap.size w1 W3 := by rw [hW3]; exact hb2.setCell (by show w1.heap.size ≤ bh; omega) _
  have r3 : W3.rowIs bh 91 2 (hcells l true) := by
    rw [hW3]
    refine (r2.set 1 _).congr fun i hi => ?_
    match i, hi with
    | 0, _ => rfl
    | 1, _ => rfl
  have h3 := h.below b03
  obtain ⟨w4, hrun4, h4, t4⟩ := h3.drew.reput he l true
  have T4 : Turns (GFoot G) w w4 := (Turns.of_below (b03.drew)).trans (GMem.turns_map t4)
  have hfin : GMem w4 G A lv (upd tr (a, b) true) X := h4.told (fun x hx => ⟨by
    by_cases e : x = (a, b)
    · subst e; rw [upd_same]; exact hl.symm
    · exact upd_other e, rfl⟩)
  have f2 := r2.frozen 1
  have q2 := r2.cell (i := 1) (by omega)
  have q30 := r3.cell (i := 0) (by omega)
  have q31 := r3.cell (i := 1) (by omega)
  have c13 := h3.c1
  have e03 := cell_keep b13 e0
  have e13 := cell_keep b13 e1
  have bl4 : ∀ {c o : Nat} {v : Value}, W3.cell? ⟨c, o, none⟩ = some v → w.heap.size ≤ c → w4.cell? ⟨c, o, none⟩ = some v := fun {c o v} hv hc => (World.cell?_of_block (w := W3.drew) (a := ⟨c, o, none⟩) (t4.grown.block c (World.block_lt_of_cell? _ _ hv) (fun e => by
    have h5 := h.foot_lt (Or.inl rfl : GFoot G G.mb)
    have e9 := Option.some.inj e
    omega))).trans hv
  have q40 := bl4 q30 (by omega)
  have hS : Step w w4 G A lv (upd tr (a, b) true) X Y w.heap.size a b 0 := ⟨by rw [mixed_zero]; exact hfin, T4, bl4 e03 (Nat.le_refl _), bl4 e13 (Nat.le_refl _), fun q => by have := h.foot_lt q; omega⟩
  have HS : Hid (Step w w4 G A lv (upd tr (a, b) true) X Y w.heap.size a b 0) := hS
  have HC : Hid (∀ k, k ≤ l → ¬ Conn (X k) a b) := hc
  have HY : Hid (∀ k, k ≤ l → ∀ P Q, X k = P ++ Q → Rises (P ++ (a, b) :: Q) → P ++ (a, b) :: Q = Y k) := hY
  have HW2 : Hid (W2 = (w1.alloc (.cells #[.int .i64 (l : Nat), .bool false] 91)).drew) := hW2
  have HW3 : Hid (W3 = W2.setCell ⟨bh, 1, none⟩ (.bool true)) := hW3
  clear hD hW2 hW3 r2 r3 h3 h4 t4 T4 hfin b02 b03 b13 hb2 bz hb1 h h1 he ht hl bl4 hS hc hY
  dsimp only [ev, hv, hcells] at l1 l2 hrun4 q2 q30 q31 q40
  simp only [if_true, if_false, Nat.one_ne_zero] at hrun4 q2 q30 q31 q40
  generalize upd tr (a, b) true = tr' at *
  go_enter Tryz.func74, Tryz.ntmps74
  dsimp only [ev]
  go_wp2_with fail
  rw [← hw1]
  clear hw1
  go_region_held3 (fun V => V.cell? ⟨G.g, 1, none⟩ = some (.map (some G.mb)) ∧ V.cell? ⟨w.heap.size, 0, none⟩ = some (.int .i64 (a : Int)) ∧ V.cell? ⟨w.heap.size, 1, none⟩ = some (.int .i64 (b : Int))) (first | (go_keep; done) | exact ⟨c1, e0, e1⟩) (fail)
  all_goals
    rw [← HW2.out]
    rw [← hbh]
    clear l1 l2 e0 e1 c1 s1 hbh
    go_wp2_with fail
    rw [← HW3.out]
    go_region
    clear hrun4 q2 q30 q31 c13 e03 e13 HW2 HW3 f2
    go_wp2_with fail
    clear q40
    generalize w.heap.size = be at *
    go_loopw [5, 22] (fun _ i wr => ∃ j : Nat, j ≤ l + 1 ∧ i = .int .i64 (j : Nat) ∧ Step w wr G A lv tr' X Y be a b j) (fun _ i _ => l + 1 - (intOf i).toNat)
    case atStart => exact ⟨0, Nat.zero_le _, rfl, HS.out⟩
    case round =>
      obtain ⟨j, hj, rfl, hR⟩ := hrel
      by_cases hlt : j < l + 1
      · have hc := step_link hR (by omega) hnd.2.2 hnd.2.1 (HC.out j (by omega)) (HY.out j (by omega))
        obtain ⟨r1, r2, r3, r4⟩ := hR.reads (by omega)
        have i0 : (0 : Int) ≤ (j : Int) := by omega
        have i1 : (j : Int) < (l : Int) + 1 := by omega
        have i2 : (j : Int) < (G.K : Int) := by omega
        clear hR
        go_wp2_with fail
        go_region_held3 (fun V => V.cell? ⟨G.g, 2, none⟩ = some (.slice (some ⟨G.fb, 0, none⟩) G.K G.cap) ∧ V.cell? ⟨G.fb, j, none⟩ = some (.pointer (some ⟨(G.L j).g, 0, none⟩)) ∧ V.cell? ⟨be, 0, none⟩ = some (.int .i64 (a : Int)) ∧ V.cell? ⟨be, 1, none⟩ = some (.int .i64 (b : Int)))
          (first | (go_keep; done) | exact ⟨r1, r2, r3, r4⟩ | exact hS5)
          (first
            | (go_at_call 18; refine hc.mono ?_; rintro e w5 ⟨rfl, hS5, HT⟩))
        clear r1 r2 r3 r4 hc hS5
        go_wp2_with fail
        go_roundw
        case rel => exact ⟨j + 1, by omega, by go_num, HT.out⟩
        case measure => simp [intOf]; omega
      · obtain rfl : j = l + 1 := by omega
        have HE : Hid (Step w wr G A lv tr' X Y be a b (l + 1)) := hR
        clear hR
        have i1 : ¬ (((l + 1 : Nat) : Int) < (l : Int) + 1) := by omega
        go_wp2_with fail
        go_end0
        exact ⟨rfl, HE.out.turns, HE.out.mem⟩

end Go.Proofs.YtcfemppdeidjmacGreat.Gr

namespace Go.Proofs.YtcfemppdeidjmacGreat.Gr
set_option linter.unusedSectionVars false
variable [Inhabited Zed]
open Go.RowKit Go.Deep Go.Maps
open Go.RowKit (Below)
set_option linter.unusedVariables false

variable {w0 wr w' : World} {G : GPl} {A P Q T : List (Nat × Nat)} {lv lv' : Nat × Nat → Nat} {tr : Nat × Nat → Bool} {X Y : Nat → List (Nat × Nat)} {a b k bk bi b7 b8 s : Nat} {f : Nat × Nat}

structure Mends (w0 wr : World) (G : GPl) (A : List (Nat × Nat)) (lv : Nat × Nat → Nat) (tr : Nat × Nat → Bool) (a b k bk bi b7 b8 s : Nat) : Prop where
  at_ : GAt wr G A lv tr
  cut : Cut G.n A lv tr a b (k + 1)
  turns : Turns (GFoot G) w0 wr
  seen : Seen wr (G.L k) bk bi k b7 b8 s
  hi : w0.heap.size ≤ bk ∧ w0.heap.size ≤ bi ∧ w0.heap.size ≤ b7 ∧ w0.heap.size ≤ b8
  foot : ∀ c, GFoot G c → c < w0.heap.size
  kk : k < G.K
  sn : s < G.n

theorem turn_cell {c o : Nat} {v : Value} (hF : ∀ c, GFoot G c → c < w0.heap.size) (hc : w0.heap.size ≤ c) (t : Turns (GFoot G) wr w') (h : wr.cell? ⟨c, o, none⟩ = some v) : w'.cell? ⟨c, o, none⟩ = some v :=
  (World.cell?_of_block (w := wr) (a := ⟨c, o, none⟩) (t.block c (World.block_lt_of_cell? _ _ h) (fun q => by have := hF c q; omega))).trans h

theorem turn_edges {ad : Option Addr} (hF : ∀ c, GFoot G c → c < w0.heap.size) (hc : ∀ c, ad = some ⟨c, 0, none⟩ → w0.heap.size ≤ c) (t : Turns (GFoot G) wr w') (h : EdgesAt wr ad T) : EdgesAt w' ad T :=
  ⟨fun i hi => by obtain ⟨c, e, h1, h2⟩ := h.cell i hi; exact ⟨c, e, turn_cell hF (hc c e) t h1, turn_cell hF (hc c e) t h2⟩⟩

theorem Mends.step (m : Mends w0 wr G A lv tr a b k bk bi b7 b8 s) (t : Turns (GFoot G) wr w') (h' : GAt w' G A lv' tr) (c' : Cut G.n A lv' tr a b (k + 1)) : Mends w0 w' G A lv' tr a b k bk bi b7 b8 s :=
  ⟨h', c', m.turns.trans t, ⟨turn_cell m.foot m.hi.1 t m.seen.ck, turn_cell m.foot m.hi.2.1 t m.seen.ci, turn_cell m.foot m.hi.2.2.1 t m.seen.side.c7, turn_cell m.foot m.hi.2.2.2 t m.seen.side.c8⟩, m.hi, m.foot, m.kk, m.sn⟩

theorem Mends.below (m : Mends w0 wr G A lv tr a b k bk bi b7 b8 s) (hb : Below wr.heap.size wr w') : Mends w0 w' G A lv tr a b k bk bi b7 b8 s :=
  m.step (Turns.of_below hb) (GMem.below m.at_ hb) m.cut

theorem Mends.side (m : Mends w0 wr G A lv tr a b k bk bi b7 b8 s) (x : Nat) (hx : x < G.n) (q : Bool) (hq : q = true ↔ Conn (Fo A lv tr k) s x) :
    Calls Tryz.prog 186 #[.int .i64 (x : Nat), .pointer (some ⟨b7, 0, none⟩), .pointer (some ⟨b8, 0, none⟩)] wr fun e w' => e = .returned (.bool q) ∧ Below wr.heap.size wr w' := by
  obtain ⟨p, f⟩ := GMem.fo m.at_ k m.kk
  have hn := GMem.ln m.at_ k m.kk
  exact side_any f m.seen.side (by rw [hn]; exact m.sn) x (by rw [hn]; exact hx) q (by rw [Bool.eq_iff_iff, hq, decide_eq_true_eq]; exact f.grown.rest.same s x)

theorem Mends.raise1 (m : Mends w0 wr G A (lvUp lv P) tr a b k bk bi b7 b8 s) (hs : Side1 A lv tr k s (P ++ f :: Q)) (hf : Few G.n (Fo A lv tr k) s (G.n / 2 ^ (k + 1))) :
    Calls Tryz.prog 142 #[.pointer (some ⟨G.g, 0, none⟩), ev f.1 f.2] wr fun e w' => e = .returned (.tuple #[]) ∧ Turns (GFoot G) wr w' ∧ Hid (Mends w0 w' G A (lvUp lv (P ++ [f])) tr a b k bk bi b7 b8 s) := by
  have hA := GMem.rises m.at_
  have hfA : f ∈ A := ((hs.mem f).1 (by simp)).1
  have hl := GMem.less m.at_ f hfA
  obtain ⟨h1, r, h3, h4, h5⟩ := m.cut.rise1 hs hf (by omega)
  obtain ⟨g1, g2⟩ := rise_fo hA r h4
  refine (raise_tree m.at_ (a := f.1) (b := f.2) hfA h4 k r.was ((GMem.levels m.at_ (k + 1)).2 h5) h3 (Fo A (lvUp lv (P ++ [f])) tr (k + 1)) g1).mono ?_
  rintro e w1 ⟨rfl, t1, h6⟩
  refine ⟨rfl, t1, m.step t1 ?_ h1⟩
  refine (GMem.told h6 fun x hx => ⟨?_, rfl⟩).congr fun i _ => ?_
  · by_cases c : x = f
    · subst c; rw [r.is]; exact upd_same ..
    · rw [r.rest x hx c]; exact upd_other c
  · by_cases c : i = k + 1
    · subst c; rw [if_pos rfl]
    · rw [if_neg c]; exact g2 i c

theorem Mends.raise2 (m : Mends w0 wr G A (lvUp lv P) tr a b k bk bi b7 b8 s) (hs : Side2 A lv tr k s (P ++ f :: Q)) (h1 : ∀ e ∈ A, tr e = true → lv e = k → ¬ Conn (Fo A lv tr k) s e.1) (hx : Conn (Fo A lv tr k) s f.1) (hy : Conn (Fo A lv tr k) s f.2) :
    Calls Tryz.prog 142 #[.pointer (some ⟨G.g, 0, none⟩), ev f.1 f.2] wr fun e w' => e = .returned (.tuple #[]) ∧ Turns (GFoot G) wr w' ∧ Hid (Mends w0 w' G A (lvUp lv (P ++ [f])) tr a b k bk bi b7 b8 s) := by
  have hfA : f ∈ A := ((hs.mem f).1 (by simp)).1
  have hk6 := GMem.k10 m.at_
  have hkk := m.kk
  obtain ⟨h2, r, h4⟩ := m.cut.rise2 hs h1 hx hy
  refine (raise_rest m.at_ (a := f.1) (b := f.2) hfA h4 k r.was (by omega)).mono ?_
  rintro e w1 ⟨rfl, t1, h6⟩
  refine ⟨rfl, t1, m.step t1 ?_ h2⟩
  refine (GMem.told h6 fun x hx => ⟨?_, rfl⟩).congr fun i _ => rise_rest_fo r h4 i
  by_cases c : x = f
  · subst c; rw [r.is]; exact upd_same ..
  · rw [r.rest x hx c]; exact upd_other c

def Mended (w0 w' : World) (G : GPl) (A : List (Nat × Nat)) (lv : Nat × Nat → Nat) (tr : Nat × Nat → Bool) (a b k : Nat) (q : Bool) : Prop :=
  Turns (GFoot G) w0 w' ∧ (q = true → ∃ lv' tr', GAt w' G A lv' tr' ∧ Levels G.n A lv' tr' ∧ ∀ e ∈ A, lv e ≤ lv' e) ∧ (q = false → ∃ lv', GAt w' G A lv' tr ∧ Cut G.n A lv' tr a b k ∧ ∀ e ∈ A, lv e ≤ lv' e)

theorem Mends.plant (m : Mends w0 wr G A (lvUp lv' P) tr a b k bk bi b7 b8 s) (hs : Side2 A lv' tr k s (P ++ f :: Q)) (ho : ¬ (Conn (Fo A lv' tr k) s f.1 ∧ Conn (Fo A lv' tr k) s f.2)) (hle : ∀ e ∈ A, lv e ≤ lv' e) :
    Calls Tryz.prog 74 #[.pointer (some ⟨G.g, 0, none⟩), ev f.1 f.2] wr fun e w' => e = .returned (.tuple #[]) ∧ Hid (Mended w0 w' G A lv tr a b k true) := by
  have hA := GMem.rises m.at_
  obtain ⟨h1, h2, h3, h4, h5⟩ := m.cut.found (rises_nodup hA) hs ho
  obtain ⟨g1, g2⟩ := plant_fo hA h2 h4 h3
  refine (plant_any m.at_ (a := f.1) (b := f.2) (Y := Fo A (lvUp lv' P) (upd tr f true)) h2 h3 k h4 m.kk (fun v _ => h5 v) g1).mono ?_
  rintro e w1 ⟨rfl, t1, h6⟩
  refine ⟨rfl, m.turns.trans t1, fun _ => ⟨lvUp lv' P, upd tr f true, ?_, h1, fun e he => Nat.le_trans (hle e he) (lvUp_le P e)⟩, fun q => by cases q⟩
  refine GMem.congr h6 fun i _ => ?_
  unfold mixed
  by_cases c : i < k + 1
  · rw [if_pos c]
  · rw [if_neg c]; exact g2 i (by omega)

theorem Mends.last (m : Mends w0 wr G A (lvUp lv' T) tr a b k bk bi b7 b8 s) (hs : Side2 A lv' tr k s T) (hab : s = a ∨ s = b) (hle : ∀ e ∈ A, lv e ≤ lv' e) : Mended w0 wr G A lv tr a b k false :=
  And.intro m.turns (And.intro (fun q => by cases q) (fun _ => ⟨lvUp lv' T, m.at_, m.cut.last hs hab, fun e he => Nat.le_trans (hle e he) (lvUp_le T e)⟩))

set_option maxRecDepth 100000 in
theorem Mends.pick1 (m : Mends w0 wr G A lv tr a b k bk bi b7 b8 s) :
    ∃ T, Side1 A lv tr k s T ∧ Calls Tryz.prog 46 #[.pointer (some ⟨G.g, 0, none⟩), .func (.func 141) #[] #[.pointer (some ⟨bk, 0, none⟩), .pointer (some ⟨bi, 0, none⟩)]] wr fun e w' => ∃ ad c, e = .returned (.slice ad T.length c) ∧ Below wr.heap.size wr w' ∧ EdgesAt w' ad T ∧ (∀ c, ad = some ⟨c, 0, none⟩ → wr.heap.size ≤ c) ∧ T.length ≤ 200 := by
  obtain ⟨p, f⟩ := GMem.fo m.at_ k m.kk
  have hn := GMem.ln m.at_ k m.kk
  refine ⟨_, side1_of (GMem.rises m.at_) f.grown.rest (s := s), ?_⟩
  refine (picked_any m.at_ (fun e => tr e && decide (lv e = k) && decide (p s = p e.1)) 141 #[.pointer (some ⟨bk, 0, none⟩), .pointer (some ⟨bi, 0, none⟩)] (enters_of Tryz.func141 (by kernel_rfl) rfl) (fun W hW e he => ?_)).mono ?_
  · have hnd := GMem.node m.at_ he
    exact pick1_any (f.below hW) (m.seen.below hW) (by rw [hn]; exact m.sn) e.1 e.2 (by rw [hn]; exact hnd.1) (lv e) (tr e)
  · rintro e w1 ⟨ad, c, rfl, hb, hE, hf, _⟩
    exact ⟨ad, c, rfl, hb, hE, hf, Nat.le_trans (List.length_filter_le ..) (GMem.m200 m.at_)⟩

set_option maxRecDepth 100000 in
theorem Mends.pick2 (m : Mends w0 wr G A lv tr a b k bk bi b7 b8 s) :
    ∃ T, Side2 A lv tr k s T ∧ Calls Tryz.prog 46 #[.pointer (some ⟨G.g, 0, none⟩), .func (.func 143) #[] #[.pointer (some ⟨bk, 0, none⟩), .pointer (some ⟨bi, 0, none⟩)]] wr fun e w' => ∃ ad c, e = .returned (.slice ad T.length c) ∧ Below wr.heap.size wr w' ∧ EdgesAt w' ad T ∧ (∀ c, ad = some ⟨c, 0, none⟩ → wr.heap.size ≤ c) ∧ T.length ≤ 200 := by
  obtain ⟨p, f⟩ := GMem.fo m.at_ k m.kk
  have hn := GMem.ln m.at_ k m.kk
  refine ⟨_, side2_of (GMem.rises m.at_) f.grown.rest (s := s), ?_⟩
  refine (picked_any m.at_ (fun e => !tr e && decide (lv e = k) && (decide (p s = p e.1) || decide (p s = p e.2))) 143 #[.pointer (some ⟨bk, 0, none⟩), .pointer (some ⟨bi, 0, none⟩)] (enters_of Tryz.func143 (by kernel_rfl) rfl) (fun W hW e he => ?_)).mono ?_
  · have hnd := GMem.node m.at_ he
    exact pick2_any (f.below hW) (m.seen.below hW) (by rw [hn]; exact m.sn) e.1 e.2 (by rw [hn]; exact hnd.1) (by rw [hn]; exact hnd.2.1) (lv e) (tr e)
  · rintro e w1 ⟨ad, c, rfl, hb, hE, hf, _⟩
    exact ⟨ad, c, rfl, hb, hE, hf, Nat.le_trans (List.length_filter_le ..) (GMem.m200 m.at_)⟩

end Go.Proofs.YtcfemppdeidjmacGreat.Gr

namespace Go.Proofs.YtcfemppdeidjmacGreat.Gr
set_option linter.unusedSectionVars false
variable [Inhabited Zed]
open Go.RowKit Go.Deep Go.Maps
open Go.RowKit (Below)
set_option linter.unusedVariables false

variable {w wr w' : World} {G : GPl} {A P Q T : List (Nat × Nat)} {lv lv' : Nat × Nat → Nat} {tr : Nat × Nat → Bool} {X Y : Nat → List (Nat × Nat)} {a b k : Nat}

theorem take_next {T : List (Nat × Nat)} {j : Nat} (hj : j < T.length) : T = T.take j ++ T.getD j (0, 0) :: T.drop (j + 1) ∧ T.take (j + 1) = T.take j ++ [T.getD j (0, 0)] := by
  have e : T.getD j (0, 0) = T[j] := by rw [List.getD_eq_getElem?_getD, List.getElem?_eq_getElem hj]; rfl
  rw [e]
  exact ⟨by rw [List.getElem_cons_drop, List.take_append_drop], by rw [List.take_add_one, List.getElem?_eq_getElem hj]; rfl⟩

def MendPost (w : World) (G : GPl) (A : List (Nat × Nat)) (lv : Nat × Nat → Nat) (tr : Nat × Nat → Bool) (a b k : Nat) (e : Ending) (w' : World) : Prop := ∃ q, e = .returned (.bool q) ∧ Mended w w' G A lv tr a b k q

set_option maxRecDepth 100000 in
set_option maxHeartbeats 8000000 in
theorem mendAt_any (h : GAt w G A lv tr) (hc : Cut G.n A lv tr a b (k + 1)) (hk : k < G.K) :
    Calls Tryz.prog 106 #[.pointer (some ⟨G.g, 0, none⟩), ev a b, .int .i64 (k : Nat)] w (MendPost w G A lv tr a b k) := by
  obtain ⟨ha, hb⟩ := hc.ends
  have hb2 : Below w.heap.size w ((w.alloc (.cells #[.int .i64 (a : Int), .int .i64 (b : Int)] 44)).alloc (.cells #[.int .i64 (k : Nat)] 3)) := ((Below.refl _ _).alloc (Nat.le_refl _) _).alloc (by simp) _
  have ck : ((w.alloc (.cells #[.int .i64 (a : Int), .int .i64 (b : Int)] 44)).alloc (.cells #[.int .i64 (k : Nat)] 3)).cell? ⟨w.heap.size + 1, 0, none⟩ = some (.int .i64 (k : Nat)) := by simp
  have h2 : GMem _ G A lv tr (Fo A lv tr) := GMem.below h hb2
  obtain ⟨p, f2⟩ := h2.fo k hk
  have hls := lesser_any h2 k hk f2 ha hb
  have HH : Hid (GAt w G A lv tr ∧ Cut G.n A lv tr a b (k + 1) ∧ k < G.K ∧ Rest (Fo A lv tr k) p) := ⟨h, hc, hk, f2.grown.rest⟩
  have eg : ∀ args w, (callFunc 186 args).run Tryz.prog w = .ok (.enter 186 args) w := enters_of Tryz.func186 (by kernel_rfl) rfl
  clear h hc h2 f2 hk
  dsimp only [ev] at hls
  go_enter Tryz.func106, Tryz.ntmps106
  dsimp only [ev]
  go_wp2_with fail
  obtain ⟨bk, hbk⟩ : ∃ bk, bk = w.heap.size + 1 := ⟨_, rfl⟩
  rw [← hbk] at ck
  rw [← hbk]
  generalize ((w.alloc (.cells #[.int .i64 (a : Int), .int .i64 (b : Int)] 44)).alloc (.cells #[.int .i64 (k : Nat)] 3)) = w2 at *
  refine hls.mono ?_
  rintro e w3 ⟨b7, b8, s, t, rfl, hb3, hsd, hle, hh7, hh8⟩
  clear hls
  dsimp only [sideFn]
  have hb03 := below_step hb2 hb3
  have ck3 := cell_keep hb3 ck
  have HB3 : Hid (Below w.heap.size w w3 ∧ w3.cell? ⟨bk, 0, none⟩ = some (.int .i64 (k : Nat)) ∧ Side w3 (G.L k) b7 b8 s ∧ Lesser G.n p a b s t ∧ w.heap.size ≤ b7 ∧ w.heap.size ≤ b8 ∧ w.heap.size ≤ bk) := by
    have := hb2.size
    exact ⟨hb03, ck3, hsd, hle, by omega, by omega, by omega⟩
  clear hb03 ck3 hsd hle hh7 hh8 hb3 hb2 ck hbk
  have hM : Mends w (w3.alloc (.cells #[sideFn b7 b8] 173)) G A lv tr a b k bk w3.heap.size b7 b8 s ∧ Few G.n (Fo A lv tr k) s (G.n / 2 ^ (k + 1)) ∧ (s = a ∨ s = b) := by
    obtain ⟨q1, q2, q3, q4, q5, q6, q7⟩ := HB3.out
    obtain ⟨h, hc, hk, hr⟩ := HH.out
    have hb4 : Below w3.heap.size w3 (w3.alloc (.cells #[sideFn b7 b8] 173)) := (Below.refl _ _).alloc (Nat.le_refl _) _
    have hb5 := below_step q1 hb4
    refine ⟨⟨GMem.below h hb5, hc, Turns.of_below hb5, ⟨cell_keep hb4 q2, by simp, q3.below hb4⟩, ⟨q7, q1.size, q5, q6⟩, fun c hc => GMem.foot_lt h hc, hk, ?_⟩, hc.lesser hr q4.one q4.le, ?_⟩
    · rcases q4.one with ⟨e, _⟩ | ⟨e, _⟩ <;> rw [e] <;> assumption
    · rcases q4.one with ⟨e, _⟩ | ⟨e, _⟩
      · exact Or.inl e
      · exact Or.inr e
  obtain ⟨T1, hT1, hp1⟩ := hM.1.pick1
  have HM : Hid (Mends w (w3.alloc (.cells #[sideFn b7 b8] 173)) G A lv tr a b k bk w3.heap.size b7 b8 s ∧ Few G.n (Fo A lv tr k) s (G.n / 2 ^ (k + 1)) ∧ (s = a ∨ s = b) ∧ Side1 A lv tr k s T1) := ⟨hM.1, hM.2.1, hM.2.2, hT1⟩
  clear hM hT1 HB3 HH
  dsimp only [sideFn] at hp1 HM
  go_wp2_with fail
  obtain ⟨bi, hbi⟩ : ∃ bi, bi = w3.heap.size := ⟨_, rfl⟩
  rw [← hbi] at HM hp1
  rw [← hbi]
  generalize (w3.alloc (.cells #[.func (.func 186) #[] #[.pointer (some ⟨b7, 0, none⟩), .pointer (some ⟨b8, 0, none⟩)]] 173)) = w4 at *
  clear hbi
  refine hp1.mono ?_
  rintro e w5 ⟨ad, c, rfl, hb5, hE5, hf5, hl5⟩
  have HT : Hid (Mends w w5 G A lv tr a b k bk bi b7 b8 s ∧ EdgesAt w5 ad T1 ∧ ∀ c, ad = some ⟨c, 0, none⟩ → w.heap.size ≤ c) := ⟨HM.out.1.below hb5, hE5, fun c e => Nat.le_trans HM.out.1.turns.size (hf5 c e)⟩
  clear hp1 hb5 hE5 hf5
  obtain ⟨m1, hm1⟩ : ∃ m1, m1 = T1.length := ⟨_, rfl⟩
  rw [← hm1] at hl5
  rw [← hm1]
  have HL1 : Hid (m1 = T1.length) := hm1
  clear hm1
  go_wp2_with fail
  go_loopw [9, 20] (fun _ i wr => ∃ j : Nat, j ≤ m1 ∧ i = .int .i64 (j : Nat) ∧ Mends w wr G A (lvUp lv (T1.take j)) tr a b k bk bi b7 b8 s ∧ EdgesAt wr ad T1) (fun _ i _ => m1 - (intOf i).toNat)
  case atStart => exact ⟨0, Nat.zero_le _, rfl, by rw [List.take_zero, lvUp_nil]; exact HT.out.1, HT.out.2.1⟩
  case round =>
    obtain ⟨j, hj, rfl, hR, hE⟩ := hrel
    by_cases hlt : j < m1
    · obtain ⟨t1, t2⟩ := take_next (T := T1) (j := j) (by rw [← HL1.out]; exact hlt)
      obtain ⟨bb, rfl, q1, q2⟩ := hE.cell j (by rw [← HL1.out]; exact hlt)
      obtain ⟨x, hx⟩ : ∃ x, (T1.getD j (0, 0)).1 = x := ⟨_, rfl⟩
      obtain ⟨y, hy⟩ : ∃ y, (T1.getD j (0, 0)).2 = y := ⟨_, rfl⟩
      have hb6 : Below wr.heap.size wr (wr.alloc (.cells #[.int .i64 (x : Int), .int .i64 (y : Int)] 44)) := (Below.refl _ _).alloc (Nat.le_refl _) _
      have hcl := (hR.below hb6).raise1 (f := T1.getD j (0, 0)) (Q := T1.drop (j + 1)) (by rw [← t1]; exact HM.out.2.2.2) HM.out.2.1
      rw [← t2] at hcl
      rw [hx] at q1 hcl
      rw [hy] at q2 hcl
      have HE : Hid (EdgesAt (wr.alloc (.cells #[.int .i64 (x : Int), .int .i64 (y : Int)] 44)) (some ⟨bb, 0, none⟩) T1 ∧ ∀ c, GFoot G c → c < w.heap.size) := ⟨hE.below hb6, hR.foot⟩
      have i0 : (0 : Int) ≤ (j : Int) := by omega
      have i1 : (j : Int) < (m1 : Int) := by omega
      clear hR hE t1 t2 hx hy hb6
      dsimp only [ev] at hcl
      go_wp2_with fail
      refine hcl.mono ?_
      rintro e w6 ⟨rfl, t6, HN⟩
      have HE6 : Hid (EdgesAt w6 (some ⟨bb, 0, none⟩) T1) := turn_edges HE.out.2 HT.out.2.2 t6 HE.out.1
      clear hcl t6 q1 q2
      go_wp2_with fail
      go_roundw
      case rel => exact ⟨j + 1, by omega, by go_num, HN.out, HE6.out⟩
      case measure => simp [intOf]; omega
    · obtain rfl : j = m1 := by omega
      have hR' : Mends w wr G A (lvUp lv T1) tr a b k bk bi b7 b8 s := by
        have := hR
        rw [HL1.out, List.take_length] at this
        exact this
      clear hR hE HT
      obtain ⟨g1, g2⟩ := side1_done HM.out.2.2.2
      obtain ⟨T2, hT2, hp2⟩ := hR'.pick2
      have HM2 : Hid (Mends w wr G A (lvUp lv T1) tr a b k bk bi b7 b8 s ∧ Side2 A (lvUp lv T1) tr k s T2 ∧ (∀ e ∈ A, tr e = true → lvUp lv T1 e = k → ¬ Conn (Fo A (lvUp lv T1) tr k) s e.1) ∧ (s = a ∨ s = b) ∧ ∀ e ∈ A, lv e ≤ lvUp lv T1 e) := ⟨hR', hT2, by rw [g1]; exact g2, HM.out.2.2.1, fun e _ => lvUp_le T1 e⟩
      clear hR' g1 g2 hT2 HM
      have i1 : ¬ ((j : Int) < (j : Int)) := by omega
      go_wp2_with fail
      refine hp2.mono ?_
      rintro e w7 ⟨ad2, c2, rfl, hb7, hE7, hf7, hl7⟩
      have HT2 : Hid (Mends w w7 G A (lvUp lv T1) tr a b k bk bi b7 b8 s ∧ EdgesAt w7 ad2 T2 ∧ ∀ c, ad2 = some ⟨c, 0, none⟩ → w.heap.size ≤ c) := ⟨HM2.out.1.below hb7, hE7, fun c e => Nat.le_trans HM2.out.1.turns.size (hf7 c e)⟩
      clear hp2 hb7 hE7 hf7
      obtain ⟨m2, hm2⟩ : ∃ m2, m2 = T2.length := ⟨_, rfl⟩
      rw [← hm2] at hl7
      rw [← hm2]
      have HL2 : Hid (m2 = T2.length) := hm2
      clear hm2 hj hlt i1
      go_wp2_with fail
      go_loopw [11, 32] (fun _ i wr => ∃ j : Nat, j ≤ m2 ∧ i = .int .i64 (j : Nat) ∧ Mends w wr G A (lvUp (lvUp lv T1) (T2.take j)) tr a b k bk bi b7 b8 s ∧ EdgesAt wr ad2 T2) (fun _ i _ => m2 - (intOf i).toNat)
      case atStart => exact ⟨0, Nat.zero_le _, rfl, by rw [List.take_zero, lvUp_nil]; exact HT2.out.1, HT2.out.2.1⟩
      case round =>
        obtain ⟨i, hi, rfl, hR, hE⟩ := hrel
        by_cases hlt : i < m2
        · obtain ⟨t1, t2⟩ := take_next (T := T2) (j := i) (by rw [← HL2.out]; exact hlt)
          obtain ⟨bb, rfl, q1, q2⟩ := hE.cell i (by rw [← HL2.out]; exact hlt)
          have hside : Side2 A (lvUp lv T1) tr k s (T2.take i ++ T2.getD i (0, 0) :: T2.drop (i + 1)) := by rw [← t1]; exact HM2.out.2.1
          have hfA : T2.getD i (0, 0) ∈ A := ((hside.mem _).1 (by simp)).1
          have hnd := GMem.node hR.at_ hfA
          have e1 : Fo A (lvUp (lvUp lv T1) (T2.take i)) tr k = Fo A (lvUp lv T1) tr k := Fo_up fun e he => ((hside.mem e).1 (List.mem_append_left _ he)).2.2.1
          obtain ⟨x, hx⟩ : ∃ x, (T2.getD i (0, 0)).1 = x := ⟨_, rfl⟩
          obtain ⟨y, hy⟩ : ∃ y, (T2.getD i (0, 0)).2 = y := ⟨_, rfl⟩
          have hb6 : Below wr.heap.size wr (wr.alloc (.cells #[.int .i64 (x : Int), .int .i64 (y : Int)] 44)) := (Below.refl _ _).alloc (Nat.le_refl _) _
          have hM6 := hR.below hb6
          have z0 : (wr.alloc (.cells #[.int .i64 (x : Int), .int .i64 (y : Int)] 44)).cell? ⟨wr.heap.size, 0, none⟩ = some (.int .i64 (x : Int)) := by simp
          have z1 : (wr.alloc (.cells #[.int .i64 (x : Int), .int .i64 (y : Int)] 44)).cell? ⟨wr.heap.size, 1, none⟩ = some (.int .i64 (y : Int)) := by simp
          rw [hx] at q1
          rw [hy] at q2
          have ci := hM6.seen.ci
          obtain ⟨qx, hqx⟩ : ∃ qx : Bool, qx = true ↔ Conn (Fo A (lvUp (lvUp lv T1) (T2.take i)) tr k) s x := ⟨@decide _ (Classical.propDecidable _), @decide_eq_true_iff _ (Classical.propDecidable _)⟩
          obtain ⟨qy, hqy⟩ : ∃ qy : Bool, qy = true ↔ Conn (Fo A (lvUp (lvUp lv T1) (T2.take i)) tr k) s y := ⟨@decide _ (Classical.propDecidable _), @decide_eq_true_iff _ (Classical.propDecidable _)⟩
          have hin := hM6.side x (by omega) qx hqx
          rw [e1, ← hx] at hqx
          have hyn : y < G.n := by omega
          have HQ : Hid ((qx = true ↔ Conn (Fo A (lvUp lv T1) tr k) s (T2.getD i (0, 0)).1) ∧ (qy = true ↔ Conn (Fo A (lvUp (lvUp lv T1) (T2.take i)) tr k) s y) ∧ (qy = true ↔ Conn (Fo A (lvUp lv T1) tr k) s (T2.getD i (0, 0)).2)) := ⟨hqx, hqy, by rw [hqy, e1, hy]⟩
          have HS : Hid (Side2 A (lvUp lv T1) tr k s (T2.take i ++ T2.getD i (0, 0) :: T2.drop (i + 1)) ∧ T2.take (i + 1) = T2.take i ++ [T2.getD i (0, 0)] ∧ ev ((T2.getD i (0, 0)).1 : Nat) ((T2.getD i (0, 0)).2 : Nat) = .agg #[.int .i64 (x : Int), .int .i64 (y : Int)]) := ⟨hside, t2, by rw [hx, hy]; rfl⟩
          have HM6 : Hid (Mends w (wr.alloc (.cells #[.int .i64 (x : Int), .int .i64 (y : Int)] 44)) G A (lvUp (lvUp lv T1) (T2.take i)) tr a b k bk bi b7 b8 s ∧ EdgesAt (wr.alloc (.cells #[.int .i64 (x : Int), .int .i64 (y : Int)] 44)) (some ⟨bb, 0, none⟩) T2) := ⟨hM6, hE.below hb6⟩
          have i0 : (0 : Int) ≤ (i : Int) := by omega
          have i1 : (i : Int) < (m2 : Int) := by omega
          clear hR hE t1 t2 hx hy hb6 hM6 hside hfA hnd e1 hqx hqy
          dsimp only [sideFn] at ci
          go_wp2_with fail
          generalize (wr.alloc (.cells #[.int .i64 (x : Int), .int .i64 (y : Int)] 44)) = w8 at *
          refine hin.mono ?_
          rintro e w9 ⟨rfl, hb9⟩
          have hM9 := HM6.out.1.below hb9
          have HE9 : Hid (EdgesAt w9 (some ⟨bb, 0, none⟩) T2) := HM6.out.2.below hb9
          replace z0 := cell_keep hb9 z0
          replace z1 := cell_keep hb9 z1
          replace ci := cell_keep hb9 ci
          clear hin HM6 hb9 q1 q2
          cases qx with
          | false =>
            have hpl := hM9.plant (lv := lv) HS.out.1 (fun h => by have := HQ.out.1.2 h.1; cases this) HM2.out.2.2.2.2
            rw [HS.out.2.2] at hpl
            clear hM9
            go_wp2_with fail
            refine hpl.mono ?_
            rintro e w10 ⟨rfl, HN⟩
            clear hpl
            go_wp2_with fail
            go_ret
            exact ⟨true, rfl, HN.out⟩
          | true =>
            have hin := hM9.side y hyn qy HQ.out.2.1
            have HM9 : Hid (Mends w w9 G A (lvUp (lvUp lv T1) (T2.take i)) tr a b k bk bi b7 b8 s) := hM9
            clear hM9
            go_wp2_with fail
            refine hin.mono ?_
            rintro e w10 ⟨rfl, hb10⟩
            have hM10 := HM9.out.below hb10
            have HE10 : Hid (EdgesAt w10 (some ⟨bb, 0, none⟩) T2) := HE9.out.below hb10
            replace z0 := cell_keep hb10 z0
            replace z1 := cell_keep hb10 z1
            clear hin HM9 HE9 hb10 ci
            cases qy with
            | false =>
              have hpl := hM10.plant (lv := lv) HS.out.1 (fun h => by have := HQ.out.2.2.2 h.2; cases this) HM2.out.2.2.2.2
              rw [HS.out.2.2] at hpl
              clear hM10
              go_wp2_with fail
              refine hpl.mono ?_
              rintro e w11 ⟨rfl, HN⟩
              clear hpl
              go_wp2_with fail
              go_ret
              exact ⟨true, rfl, HN.out⟩
            | true =>
              have hcl := hM10.raise2 HS.out.1 HM2.out.2.2.1 (HQ.out.1.1 (by first | exact trivial | rfl)) (HQ.out.2.2.1 (by first | exact trivial | rfl))
              rw [HS.out.2.2, ← HS.out.2.1] at hcl
              have HF : Hid (∀ c, GFoot G c → c < w.heap.size) := hM10.foot
              clear hM10
              go_wp2_with fail
              refine hcl.mono ?_
              rintro e w11 ⟨rfl, t11, HN⟩
              have HE11 : Hid (EdgesAt w11 (some ⟨bb, 0, none⟩) T2) := turn_edges HF.out HT2.out.2.2 t11 HE10.out
              clear hcl t11
              go_wp2_with fail
              go_roundw
              case rel => exact ⟨i + 1, by omega, by go_num, HN.out, HE11.out⟩
              case measure => simp [intOf]; omega
        · obtain rfl : i = m2 := by omega
          have HN : Hid (Mended w wr G A lv tr a b k false) := by
            have h1 := hR
            rw [HL2.out, List.take_length] at h1
            exact h1.last HM2.out.2.1 HM2.out.2.2.2.1 HM2.out.2.2.2.2
          have i1 : ¬ ((i : Int) < (i : Int)) := by omega
          clear hR hE
          go_wp2_with fail
          go_ret
          exact ⟨false, rfl, HN.out⟩

def Whole (w w' : World) (G : GPl) (A : List (Nat × Nat)) (lv : Nat × Nat → Nat) : Prop :=
  Turns (GFoot G) w w' ∧ ∃ lv' tr', GAt w' G A lv' tr' ∧ Levels G.n A lv' tr' ∧ ∀ e ∈ A, lv e ≤ lv' e

structure Down (w wr : World) (G : GPl) (A : List (Nat × Nat)) (lv : Nat × Nat → Nat) (tr : Nat × Nat → Bool) (a b k : Nat) : Prop where
  turns : Turns (GFoot G) w wr
  at_ : ∃ lv', GAt wr G A lv' tr ∧ Cut G.n A lv' tr a b k ∧ ∀ e ∈ A, lv e ≤ lv' e

set_option maxRecDepth 100000 in
set_option maxHeartbeats 2000000 in
theorem mend_any (h : GAt w G A lv tr) (l : Nat) (hl : l < G.K) (hc : Cut G.n A lv tr a b (l + 1)) :
    Calls Tryz.prog 72 #[.pointer (some ⟨G.g, 0, none⟩), ev a b, .int .i64 (l : Nat)] w fun e w' => e = .returned (.tuple #[]) ∧ Whole w w' G A lv := by
  have hk6 := GMem.k10 h
  have hb1 : Below w.heap.size w (w.alloc (.cells #[.int .i64 (a : Int), .int .i64 (b : Int)] 44)) := (Below.refl _ _).alloc (Nat.le_refl _) _
  have z0 : (w.alloc (.cells #[.int .i64 (a : Int), .int .i64 (b : Int)] 44)).cell? ⟨w.heap.size, 0, none⟩ = some (.int .i64 (a : Int)) := by simp
  have z1 : (w.alloc (.cells #[.int .i64 (a : Int), .int .i64 (b : Int)] 44)).cell? ⟨w.heap.size, 1, none⟩ = some (.int .i64 (b : Int)) := by simp
  have HS : Hid (Down w (w.alloc (.cells #[.int .i64 (a : Int), .int .i64 (b : Int)] 44)) G A lv tr a b (l + 1)) := ⟨Turns.of_below hb1, lv, GMem.below h hb1, hc, fun _ _ => Nat.le_refl _⟩
  have HF : Hid (∀ c, GFoot G c → c < w.heap.size) := fun c hc => GMem.foot_lt h hc
  have HZ : Hid ((w.alloc (.cells #[.int .i64 (a : Int), .int .i64 (b : Int)] 44)).cell? ⟨w.heap.size, 0, none⟩ = some (.int .i64 (a : Int)) ∧ (w.alloc (.cells #[.int .i64 (a : Int), .int .i64 (b : Int)] 44)).cell? ⟨w.heap.size, 1, none⟩ = some (.int .i64 (b : Int))) := ⟨z0, z1⟩
  clear h hc hb1 z0 z1
  go_enter Tryz.func72, Tryz.ntmps72
  dsimp only [ev]
  go_wp2_with fail
  generalize (w.alloc (.cells #[.int .i64 (a : Int), .int .i64 (b : Int)] 44)) = w1 at *
  go_loopw [6] (fun i wr => ∃ j : Nat, j ≤ l + 1 ∧ i = .int .i64 ((j : Int) - 1) ∧ Down w wr G A lv tr a b j ∧ wr.cell? ⟨w.heap.size, 0, none⟩ = some (.int .i64 (a : Int)) ∧ wr.cell? ⟨w.heap.size, 1, none⟩ = some (.int .i64 (b : Int))) (fun i _ => (intOf i + 1).toNat)
  case atStart => exact ⟨l + 1, Nat.le_refl _, by simp, HS.out, HZ.out⟩
  case round =>
    obtain ⟨j, hj, rfl, hR, z0, z1⟩ := hrel
    cases j with
    | zero =>
      have HE : Hid (Whole w wr G A lv) := by
        obtain ⟨lv', h1, h2, h3⟩ := hR.at_
        exact ⟨hR.turns, lv', tr, h1, h2.done, h3⟩
      clear hR
      have e1 : ¬ ((0 : Int) ≤ -1) := by omega
      go_wp2_with fail
      go_end0
      exact ⟨rfl, HE.out⟩
    | succ j =>
      obtain ⟨lv', h1, h2, h3⟩ := hR.at_
      have hcl := mendAt_any h1 h2 (by omega)
      have HR : Hid (Turns (GFoot G) w wr ∧ ∀ e ∈ A, lv e ≤ lv' e) := ⟨hR.turns, h3⟩
      have e1 : (((j + 1 : Nat) : Int) - 1) = (j : Int) := by omega
      have e2 : (0 : Int) ≤ (j : Int) := by omega
      clear hR h1 h2 h3
      rw [e1]
      clear e1
      dsimp only [ev] at hcl
      go_wp2_with fail
      refine hcl.mono ?_
      rintro e w2 ⟨q, rfl, t2, g1, g2⟩
      have z0' := turn_cell HF.out (Nat.le_refl _) t2 z0
      have z1' := turn_cell HF.out (Nat.le_refl _) t2 z1
      clear hcl z0 z1
      cases q with
      | true =>
        have HE : Hid (Whole w w2 G A lv) := by
          obtain ⟨lv2, tr2, k1, k2, k3⟩ := g1 rfl
          exact ⟨HR.out.1.trans t2, lv2, tr2, k1, k2, fun e he => Nat.le_trans (HR.out.2 e he) (k3 e he)⟩
        clear g1 g2 t2
        go_wp2_with fail
        refine bodyPost_ret (results_none rfl _ _ _) rfl ?_
        exact ⟨rfl, HE.out⟩
      | false =>
        have HE : Hid (Down w w2 G A lv tr a b j) := by
          obtain ⟨lv2, k1, k2, k3⟩ := g2 rfl
          exact ⟨HR.out.1.trans t2, lv2, k1, k2, fun e he => Nat.le_trans (HR.out.2 e he) (k3 e he)⟩
        clear g1 g2 t2
        go_wp2_with fail
        go_roundw
        case rel => exact ⟨j, by omega, by first | rfl | go_num, HE.out, z0', z1'⟩
        case measure => simp [intOf]

end Go.Proofs.YtcfemppdeidjmacGreat.Gr
