/-
  raise, plant and fell of package graph.
  plant and fell of package graph: forest by forest.
-/
import Derived.Test.YtcfemppdeidjmacGreatDoorF6
namespace Go.Proofs.YtcfemppdeidjmacGreatDoor.Gr
set_option linter.unusedSectionVars false
variable [Inhabited Zed]
open Go.RowKit Go.Deep Go.Maps
open Go.RowKit (Below)
set_option linter.unusedVariables false

variable {w w' : World} {G : GPl} {A A' : List (Nat × Nat)} {lv : Nat × Nat → Nat} {tr : Nat × Nat → Bool} {X : Nat → List (Nat × Nat)} {a b : Nat}

/-- What is known of an edge is written anew. -/
theorem GMem.reput (h : GMem w G A lv tr X) (he : (a, b) ∈ A) (l : Nat) (t : Bool) :
    ∃ w', (Instr.mapUpdate 117 (.map (some G.mb)) (ev a b) (hv l t)).run Tryz.prog w = .ok () w' ∧ GMem w' G A (upd lv (a, b) l) (upd tr (a, b) t) X ∧ w.mapTurned w' G.mb := by
  obtain ⟨D, hD⟩ := h.map
  have hn := h.node he
  have h60 := h.n60
  have h200 := h.m200
  obtain ⟨w', D', hrun, hD', ht⟩ := hD.put (A' := A) (lv' := upd lv (a, b) l) (tr' := upd tr (a, b) t) (by omega) (by omega) (by omega) l t (fun e => ⟨Or.inr, fun q => q.elim (fun q => q ▸ he) id⟩) (by rw [if_pos he]) ⟨upd_same .., upd_same ..⟩ (fun e _ hne => ⟨upd_other hne, upd_other hne⟩)
  exact ⟨w', hrun, h.mapped ⟨D', hD'⟩ ht h.rises h.among h.less h.m200, ht⟩

theorem GMem.turns_map (t : w.mapTurned w' G.mb) : Turns (GFoot G) w w' := Turns.grown t.grown (Or.inl rfl)

theorem turns_forest {k : Nat} (hk : k < G.K) (t : Turn (G.L k) w w') : Turns (GFoot G) w w' := (Turns.of_turn t).mono fun b hb => Or.inr ⟨k, hk, hb⟩

/-- A cell that is none of the graph's. -/
theorem turns_cell (h : GMem w G A lv tr X) {c : Nat} {o : Nat} {v : Value} {t : TypeId} (ht : Tag w c t) (hn : t ≠ 3) (hc : w.cell? ⟨c, o, none⟩ = some v) (tn : Turns (GFoot G) w w') : w'.cell? ⟨c, o, none⟩ = some v :=
  (World.cell?_of_block (w := w) (a := ⟨c, o, none⟩) (tn.block c (tag_lt ht) (h.plain c t ht hn))).trans hc

theorem Turns.size_le {F : Nat → Prop} (h : Turns F w w') : w.heap.size ≤ w'.heap.size := h.size

theorem turns_step {F : Nat → Prop} {w0 : World} (hb : Below w0.heap.size w0 w) (hF : ∀ b, F b → b < w0.heap.size) (t : Turns F w w') : Turns F w0 w' :=
  (Turns.of_below hb).trans t

set_option maxRecDepth 100000 in
set_option maxHeartbeats 2000000 in
theorem raise_rest (h : GMem w G A lv tr X) (he : (a, b) ∈ A) (ht : tr (a, b) = false) (l : Nat) (hl : lv (a, b) = l) (hl2 : l < 1000) :
    Calls Tryz.prog 123 #[.pointer (some ⟨G.g, 0, none⟩), ev a b] w fun e w' => e = .returned (.tuple #[]) ∧ Turns (GFoot G) w w' ∧ GMem w' G A (upd lv (a, b) (l + 1)) tr X := by
  have hnd := h.node he
  have hn60 := h.n60
  -- the edge in its own block
  obtain ⟨w1, hw1⟩ : ∃ w1, w1 = w.alloc (.cells #[.int .i64 (a : Int), .int .i64 (b : Int)] 92) := ⟨_, rfl⟩
  have hb1 : Below w.heap.size w w1 := by rw [hw1]; exact (Below.refl _ _).alloc (Nat.le_refl _) _
  have s1 : w1.heap.size = w.heap.size + 1 := by rw [hw1]; simp
  have e0 : w1.cell? ⟨w.heap.size, 0, none⟩ = some (.int .i64 (a : Int)) := by rw [hw1]; simp
  have e1 : w1.cell? ⟨w.heap.size, 1, none⟩ = some (.int .i64 (b : Int)) := by rw [hw1]; simp
  have h1 := h.below hb1
  have c1 := h1.c1
  -- what is known of it in another
  obtain ⟨W2, hW2⟩ : ∃ W2, W2 = (w1.alloc (.cells #[.int .i64 (l : Nat), .bool false] 95)).drew := ⟨_, rfl⟩
  have bz : Below w1.heap.size w1 (w1.alloc (.cells #[.int .i64 0, .bool false] 95)).drew := ((Below.refl _ _).alloc (Nat.le_refl _) _).drew
  have hb2 : Below w1.heap.size w1 W2 := by rw [hW2]; exact ((Below.refl _ _).alloc (Nat.le_refl _) _).drew
  obtain ⟨D, hD⟩ := h1.map
  have l1 := (hD.of_block (w' := w1.drew) rfl).look (a := a) (b := b) (by omega) (by omega) he
  have l2 := (hD.of_block (bz.block _ (map_lt hD.isMap))).look (a := a) (b := b) (by omega) (by omega) he
  rw [hl, ht] at l1 l2
  have r2 : W2.rowIs w1.heap.size 95 2 (hcells l false) := by rw [hW2]; exact (row_new w1 l false).drew
  rw [s1] at r2
  obtain ⟨bh, hbh⟩ : ∃ bh, bh = w.heap.size + 1 := ⟨_, rfl⟩
  rw [← hbh] at r2
  have b02 : Below w.heap.size w W2 := below_step hb1 hb2
  obtain ⟨W3, hW3⟩ : ∃ W3, W3 = W2.setCell ⟨bh, 0, none⟩ (.int .i64 ((l : Int) + 1)) := ⟨_, rfl⟩
  have b03 : Below w.heap.size w W3 := by rw [hW3]; exact b02.setCell (by show w.heap.size ≤ bh; omega) _
  have b13 : Below w1.heap.size w1 W3 := by rw [hW3]; exact hb2.setCell (by show w1.heap.size ≤ bh; omega) _
  have r3 : W3.rowIs bh 95 2 (hcells (l + 1) false) := by
    rw [hW3]
    refine (r2.set 0 _).congr fun i hi => ?_
    match i, hi with
    | 0, _ => simp [hcells]
    | 1, _ => rfl
  have h3 := h.below b03
  obtain ⟨w4, hrun4, h4, t4⟩ := h3.drew.reput he (l + 1) false
  have T4 : Turns (GFoot G) w w4 := (Turns.of_below (b03.drew)).trans (GMem.turns_map t4)
  have hfin : GMem w4 G A (upd lv (a, b) (l + 1)) tr X := h4.told (fun x hx => ⟨rfl, by
    by_cases e : x = (a, b)
    · subst e; rw [upd_same]; exact ht.symm
    · exact upd_other e⟩)
  have f2 := r2.frozen 0
  have q2 := r2.cell (i := 0) (by omega)
  have q30 := r3.cell (i := 0) (by omega)
  have q31 := r3.cell (i := 1) (by omega)
  have c13 := h3.c1
  have e03 := cell_keep b13 e0
  have e13 := cell_keep b13 e1
  have q41 : w4.cell? ⟨bh, 1, none⟩ = some (.bool false) := (World.cell?_of_block (w := W3.drew) (a := ⟨bh, 1, none⟩) (t4.grown.block bh r3.lt (fun e => by
    have h5 := h.foot_lt (Or.inl rfl : GFoot G G.mb)
    cases e
    omega))).trans q31
  have HT : Hid (Turns (GFoot G) w w4 ∧ GMem w4 G A (upd lv (a, b) (l + 1)) tr X) := ⟨T4, hfin⟩
  have HW2 : Hid (W2 = (w1.alloc (.cells #[.int .i64 (l : Nat), .bool false] 95)).drew) := hW2
  have HW3 : Hid (W3 = W2.setCell ⟨bh, 0, none⟩ (.int .i64 ((l : Int) + 1))) := hW3
  have HBH : Hid (bh = w.heap.size + 1) := hbh
  clear hD hW2 hW3 r2 r3 h3 h4 t4 T4 hfin b02 b03 b13 hb2 bz hb1 h h1 he ht hl
  dsimp only [ev, hv, hcells] at l1 l2 hrun4 q2 q30 q31
  simp only [Int.natCast_add, Int.natCast_one, if_true, if_false, Nat.one_ne_zero] at hrun4 q2 q30 q31
  go_enter Tryz.func123, Tryz.ntmps123
  dsimp only [ev]
  go_wp2_with fail
  rw [← hw1]
  clear hw1
  go_region_held3 (fun V => V.cell? ⟨G.g, 1, none⟩ = some (.map (some G.mb)) ∧ V.cell? ⟨w.heap.size, 0, none⟩ = some (.int .i64 (a : Int)) ∧ V.cell? ⟨w.heap.size, 1, none⟩ = some (.int .i64 (b : Int))) (first | (go_keep; done) | exact ⟨c1, e0, e1⟩) (fail)
  all_goals
    rw [← HW2.out]
    rw [← hbh]
    clear l1 l2 e0 e1 c1 s1 hbh
    go_wp2_with fail
    rw [← HW3.out]
    go_region
    go_wp2_with fail
    go_end0
    exact ⟨rfl, HT.out⟩

set_option maxRecDepth 100000 in
set_option maxHeartbeats 2000000 in
theorem raise_tree (h : GMem w G A lv tr X) (he : (a, b) ∈ A) (ht : tr (a, b) = true) (l : Nat) (hl : lv (a, b) = l) (hl2 : l + 1 < G.K) (hnc : ¬ Conn (X (l + 1)) a b) (Y : List (Nat × Nat)) (hY : ∀ P Q, X (l + 1) = P ++ Q → Rises (P ++ (a, b) :: Q) → P ++ (a, b) :: Q = Y) :
    Calls Tryz.prog 123 #[.pointer (some ⟨G.g, 0, none⟩), ev a b] w fun e w' => e = .returned (.tuple #[]) ∧ Turns (GFoot G) w w' ∧ GMem w' G A (upd lv (a, b) (l + 1)) tr (fun j => if j = l + 1 then Y else X j) := by
  have hk6 := h.k10
  have hnd := h.node he
  have hn60 := h.n60
  -- the edge in its own block
  obtain ⟨w1, hw1⟩ : ∃ w1, w1 = w.alloc (.cells #[.int .i64 (a : Int), .int .i64 (b : Int)] 92) := ⟨_, rfl⟩
  have hb1 : Below w.heap.size w w1 := by rw [hw1]; exact (Below.refl _ _).alloc (Nat.le_refl _) _
  have s1 : w1.heap.size = w.heap.size + 1 := by rw [hw1]; simp
  have e0 : w1.cell? ⟨w.heap.size, 0, none⟩ = some (.int .i64 (a : Int)) := by rw [hw1]; simp
  have e1 : w1.cell? ⟨w.heap.size, 1, none⟩ = some (.int .i64 (b : Int)) := by rw [hw1]; simp
  have h1 := h.below hb1
  have c1 := h1.c1
  -- what is known of it in another
  obtain ⟨W2, hW2⟩ : ∃ W2, W2 = (w1.alloc (.cells #[.int .i64 (l : Nat), .bool true] 95)).drew := ⟨_, rfl⟩
  have bz : Below w1.heap.size w1 (w1.alloc (.cells #[.int .i64 0, .bool false] 95)).drew := ((Below.refl _ _).alloc (Nat.le_refl _) _).drew
  have hb2 : Below w1.heap.size w1 W2 := by rw [hW2]; exact ((Below.refl _ _).alloc (Nat.le_refl _) _).drew
  obtain ⟨D, hD⟩ := h1.map
  have l1 := (hD.of_block (w' := w1.drew) rfl).look (a := a) (b := b) (by omega) (by omega) he
  have l2 := (hD.of_block (bz.block _ (map_lt hD.isMap))).look (a := a) (b := b) (by omega) (by omega) he
  rw [hl, ht] at l1 l2
  have r2 : W2.rowIs w1.heap.size 95 2 (hcells l true) := by rw [hW2]; exact (row_new w1 l true).drew
  rw [s1] at r2
  obtain ⟨bh, hbh⟩ : ∃ bh, bh = w.heap.size + 1 := ⟨_, rfl⟩
  rw [← hbh] at r2
  have b02 : Below w.heap.size w W2 := below_step hb1 hb2
  obtain ⟨m, hm⟩ : ∃ m, m = l + 1 := ⟨_, rfl⟩
  obtain ⟨W3, hW3⟩ : ∃ W3, W3 = W2.setCell ⟨bh, 0, none⟩ (.int .i64 ((l : Int) + 1)) := ⟨_, rfl⟩
  have b03 : Below w.heap.size w W3 := by rw [hW3]; exact b02.setCell (by show w.heap.size ≤ bh; omega) _
  have b13 : Below w1.heap.size w1 W3 := by rw [hW3]; exact hb2.setCell (by show w1.heap.size ≤ bh; omega) _
  have r3 : W3.rowIs bh 95 2 (hcells m true) := by
    rw [hW3]
    refine (r2.set 0 _).congr fun i hi => ?_
    match i, hi with
    | 0, _ => simp [hcells, hm]
    | 1, _ => rfl
  have h3 := h.below b03
  obtain ⟨w4, hrun4, h4, t4⟩ := h3.drew.reput he m true
  have T4 : Turns (GFoot G) w w4 := (Turns.of_below (b03.drew)).trans (GMem.turns_map t4)
  have hfin : GMem w4 G A (upd lv (a, b) m) tr X := h4.told (fun x hx => ⟨rfl, by
    by_cases e : x = (a, b)
    · subst e; rw [upd_same]; exact ht.symm
    · exact upd_other e⟩)
  have f2 := r2.frozen 0
  have q2 := r2.cell (i := 0) (by omega)
  have q30 := r3.cell (i := 0) (by omega)
  have q31 := r3.cell (i := 1) (by omega)
  have c13 := h3.c1
  have e03 := cell_keep b13 e0
  have e13 := cell_keep b13 e1
  have q41 : w4.cell? ⟨bh, 1, none⟩ = some (.bool true) := (World.cell?_of_block (w := W3.drew) (a := ⟨bh, 1, none⟩) (t4.grown.block bh r3.lt (fun e => by
    have h5 := h.foot_lt (Or.inl rfl : GFoot G G.mb)
    have e9 := Option.some.inj e
    omega))).trans q31
  have ne4 : ∀ {o : Nat} {v : Value}, W3.cell? ⟨bh, o, none⟩ = some v → w4.cell? ⟨bh, o, none⟩ = some v := fun {o v} hv => (World.cell?_of_block (w := W3.drew) (a := ⟨bh, o, none⟩) (t4.grown.block bh r3.lt (fun e => by
    have h5 := h.foot_lt (Or.inl rfl : GFoot G G.mb)
    have e9 := Option.some.inj e
    omega))).trans hv
  have be4 : ∀ {o : Nat} {v : Value}, W3.cell? ⟨w.heap.size, o, none⟩ = some v → w4.cell? ⟨w.heap.size, o, none⟩ = some v := fun {o v} hv => (World.cell?_of_block (w := W3.drew) (a := ⟨w.heap.size, o, none⟩) (t4.grown.block w.heap.size (World.block_lt_of_cell? _ _ hv) (fun e => by
    have h5 := h.foot_lt (Or.inl rfl : GFoot G G.mb)
    have e9 := Option.some.inj e
    omega))).trans hv
  have q40 := ne4 q30
  have e04 := be4 e03
  have e14 := be4 e13
  have c24 := hfin.c2
  have r24 := hfin.row m (by omega)
  obtain ⟨p, f4⟩ := hfin.drew.fo m (by omega)
  have hne : p a ≠ p b := fun q => hnc (by rw [← hm]; exact (f4.grown.rest.same a b).1 q)
  have hln := hfin.ln m (by omega)
  have hlk := flink_any f4 a b (by rw [hln]; exact hnd.1) (by rw [hln]; exact hnd.2.1) hne
  have hbl : ∀ {c o : Nat} {v : Value} {w5 : World}, w4.cell? ⟨c, o, none⟩ = some v → ¬ Foot (G.L m) c → Turn (G.L m) w4.drew w5 → w5.cell? ⟨c, o, none⟩ = some v := fun {c o v w5} hv hn t => (World.cell?_of_block (w := w4.drew) (a := ⟨c, o, none⟩) (t.block c (World.block_lt_of_cell? _ _ hv) hn)).trans hv
  have hft : ∀ {c : Nat}, Foot (G.L m) c → c < w.heap.size := fun {c} hc => h.foot_lt (Or.inr ⟨m, by omega, hc⟩)
  have hmi : ((m : Nat) : Int) < (G.K : Nat) := by omega
  have hmi0 : (0 : Int) ≤ ((m : Nat) : Int) := by omega
  have hg4 : ¬ Foot (G.L m) G.g := fat_plain f4 _ _ (rowIs_tag hfin.drew.st) (by decide)
  have hf4 : ¬ Foot (G.L m) G.fb := fat_plain f4 _ _ hfin.drew.tag (by decide)
  have hlk2 : Calls Tryz.prog 98 #[.pointer (some ⟨(G.L m).g, 0, none⟩), .int .i64 (a : Int), .int .i64 (b : Int)] w4.drew fun e w5 => e = .returned .nilIface ∧
      (w5.cell? ⟨G.g, 2, none⟩ = some (.slice (some ⟨G.fb, 0, none⟩) G.K G.cap) ∧ w5.cell? ⟨bh, 0, none⟩ = some (.int .i64 (m : Nat)) ∧ w5.cell? ⟨G.fb, m, none⟩ = some (.pointer (some ⟨(G.L m).g, 0, none⟩)) ∧ w5.cell? ⟨w.heap.size, 0, none⟩ = some (.int .i64 (a : Int)) ∧ w5.cell? ⟨w.heap.size, 1, none⟩ = some (.int .i64 (b : Int))) ∧
      Hid (Turns (GFoot G) w w5 ∧ GMem w5 G A (upd lv (a, b) (l + 1)) tr (fun j => if j = l + 1 then Y else X j)) := by
    refine hlk.mono ?_
    rintro e w5 ⟨rfl, t5, P, Q, p', hE, -, f5⟩
    refine ⟨rfl, ⟨hbl c24 hg4 t5, hbl q40 (fun q => by have := hft q; omega) t5, hbl r24 hf4 t5, hbl e04 (fun q => by have := hft q; omega) t5, hbl e14 (fun q => by have := hft q; omega) t5⟩, ?_, ?_⟩
    · exact (T4.trans (Turns.of_below (Below.refl _ _).drew)).trans (turns_forest (by omega) t5)
    · have hmin : min a b = a := Nat.min_eq_left (by omega)
      have hmax : max a b = b := Nat.max_eq_right (by omega)
      rw [hmin, hmax] at f5
      rw [hm] at hE
      have hy := hY P Q hE f5.grown.rises
      rw [hy] at f5
      rw [← hm]
      exact hfin.drew.forest (by omega) t5 f5
  have HW2 : Hid (W2 = (w1.alloc (.cells #[.int .i64 (l : Nat), .bool true] 95)).drew) := hW2
  have HW3 : Hid (W3 = W2.setCell ⟨bh, 0, none⟩ (.int .i64 ((l : Int) + 1))) := hW3
  have HM : Hid (m = l + 1) := hm
  clear hD hW2 hW3 r2 r3 h3 h4 t4 T4 hfin b02 b03 b13 hb2 bz hb1 h h1 he ht hl ne4 be4 hbl hft hlk f4 hne hln hg4 hf4 hnc hY hm
  dsimp only [ev, hv, hcells] at l1 l2 hrun4 q2 q30 q31 q40
  simp only [if_true, if_false, Nat.one_ne_zero] at hrun4 q2 q30 q31 q40
  go_enter Tryz.func123, Tryz.ntmps123
  dsimp only [ev]
  go_wp2_with fail
  rw [← hw1]
  clear hw1
  go_region_held3 (fun V => V.cell? ⟨G.g, 1, none⟩ = some (.map (some G.mb)) ∧ V.cell? ⟨w.heap.size, 0, none⟩ = some (.int .i64 (a : Int)) ∧ V.cell? ⟨w.heap.size, 1, none⟩ = some (.int .i64 (b : Int))) (first | (go_keep; done) | exact ⟨c1, e0, e1⟩) (fail)
  all_goals
    rw [← HW2.out]
    rw [← hbh]
    clear l1 l2 e0 e1 c1 s1 hbh
    go_wp2_with fail
    rw [← HW3.out]
    go_region
    clear hrun4 q2 q30 q31 c13 e03 e13
    go_wp2_with fail
    go_region_held3 (fun V => V.cell? ⟨G.g, 2, none⟩ = some (.slice (some ⟨G.fb, 0, none⟩) G.K G.cap) ∧ V.cell? ⟨bh, 0, none⟩ = some (.int .i64 (m : Nat)) ∧ V.cell? ⟨G.fb, m, none⟩ = some (.pointer (some ⟨(G.L m).g, 0, none⟩)) ∧ V.cell? ⟨w.heap.size, 0, none⟩ = some (.int .i64 (a : Int)) ∧ V.cell? ⟨w.heap.size, 1, none⟩ = some (.int .i64 (b : Int)))
      (first | (go_keep; done) | exact ⟨c24, q40, r24, e04, e14⟩ | exact hS5)
      (first
        | (go_at_call 98; refine hlk2.mono ?_; rintro e w5 ⟨rfl, hS5, HT⟩))
    go_wp2_with fail
    go_end0
    exact ⟨rfl, HT.out⟩

end Go.Proofs.YtcfemppdeidjmacGreatDoor.Gr

namespace Go.Proofs.YtcfemppdeidjmacGreatDoor.Gr
set_option linter.unusedSectionVars false
variable [Inhabited Zed]
open Go.RowKit Go.Deep Go.Maps
open Go.RowKit (Below)
set_option linter.unusedVariables false

variable {w w' : World} {G : GPl} {A A' : List (Nat × Nat)} {lv : Nat × Nat → Nat} {tr : Nat × Nat → Bool} {X Y : Nat → List (Nat × Nat)} {a b : Nat}

/-- The first j forests have turned. -/
def mixed (X Y : Nat → List (Nat × Nat)) (j : Nat) : Nat → List (Nat × Nat) := fun k => if k < j then Y k else X k

theorem mixed_next (X Y : Nat → List (Nat × Nat)) (j k : Nat) : (if k = j then Y j else mixed X Y j k) = mixed X Y (j + 1) k := by
  unfold mixed
  by_cases e : k = j
  · subst e; rw [if_pos rfl, if_pos (by omega)]
  · rw [if_neg e]
    by_cases h : k < j
    · rw [if_pos h, if_pos (by omega)]
    · rw [if_neg h, if_neg (by omega)]

theorem mixed_at (X Y : Nat → List (Nat × Nat)) (j : Nat) : mixed X Y j j = X j := if_neg (Nat.lt_irrefl _)
theorem mixed_zero (X Y : Nat → List (Nat × Nat)) : mixed X Y 0 = X := by funext k; exact if_neg (Nat.not_lt_zero _)

/-- Where such a loop stands: j forests have turned; the edge in its own block. -/
structure Step (w0 w : World) (G : GPl) (A : List (Nat × Nat)) (lv : Nat × Nat → Nat) (tr : Nat × Nat → Bool) (X Y : Nat → List (Nat × Nat)) (be a b j : Nat) : Prop where
  mem : GMem w G A lv tr (mixed X Y j)
  turns : Turns (GFoot G) w0 w
  e0 : w.cell? ⟨be, 0, none⟩ = some (.int .i64 (a : Int))
  e1 : w.cell? ⟨be, 1, none⟩ = some (.int .i64 (b : Int))
  off : ¬ GFoot G be

/-- What the region at a forest may read. -/
def Reads (V : World) (G : GPl) (be a b j : Nat) : Prop :=
  V.cell? ⟨G.g, 2, none⟩ = some (.slice (some ⟨G.fb, 0, none⟩) G.K G.cap) ∧ V.cell? ⟨G.fb, j, none⟩ = some (.pointer (some ⟨(G.L j).g, 0, none⟩)) ∧ V.cell? ⟨be, 0, none⟩ = some (.int .i64 (a : Int)) ∧ V.cell? ⟨be, 1, none⟩ = some (.int .i64 (b : Int))

theorem Step.reads {w0 : World} {be j : Nat} (h : Step w0 w G A lv tr X Y be a b j) (hj : j < G.K) : Reads w G be a b j := ⟨h.mem.c2, h.mem.row j hj, h.e0, h.e1⟩

theorem Step.turn {w0 : World} {be j : Nat} (h : Step w0 w G A lv tr X Y be a b j) (hj : j < G.K) {p : Nat → Nat} (t : Turn (G.L j) w.drew w') (f : FAt w' (G.L j) (Y j) p) : Step w0 w' G A lv tr X Y be a b (j + 1) := by
  have t1 : Turns (GFoot G) w.drew w' := turns_forest hj t
  have hb : ∀ {o : Nat} {v : Value}, w.cell? ⟨be, o, none⟩ = some v → w'.cell? ⟨be, o, none⟩ = some v := fun {o v} hv => (World.cell?_of_block (w := w.drew) (a := ⟨be, o, none⟩) (t1.block be (World.block_lt_of_cell? _ _ hv) h.off)).trans hv
  exact ⟨(h.mem.drew.forest hj t f).congr fun k _ => mixed_next X Y j k, h.turns.trans ((Turns.of_below (Below.refl _ _).drew).trans t1), hb h.e0, hb h.e1, h.off⟩

theorem Step.reads_turn {w0 : World} {be j : Nat} (h : Step w0 w G A lv tr X Y be a b j) (hj : j < G.K) (t : Turn (G.L j) w.drew w') : Reads w' G be a b j := by
  have t1 : Turns (GFoot G) w.drew w' := turns_forest hj t
  have hb : ∀ {o c : Nat} {v : Value}, w.cell? ⟨c, o, none⟩ = some v → ¬ GFoot G c → w'.cell? ⟨c, o, none⟩ = some v := fun {o c v} hv hc => (World.cell?_of_block (w := w.drew) (a := ⟨c, o, none⟩) (t1.block c (World.block_lt_of_cell? _ _ hv) hc)).trans hv
  exact ⟨hb h.mem.c2 (h.mem.plain _ _ (rowIs_tag h.mem.st) (by decide)), hb (h.mem.row j hj) (h.mem.plain _ _ h.mem.tag (by decide)), hb h.e0 h.off, hb h.e1 h.off⟩

/-- Link at a forest. -/
theorem step_link {w0 : World} {be j : Nat} (h : Step w0 w G A lv tr X Y be a b j) (hj : j < G.K) (ha : a < b) (hb : b < G.n) (hc : ¬ Conn (X j) a b) (hY : ∀ P Q, X j = P ++ Q → Rises (P ++ (a, b) :: Q) → P ++ (a, b) :: Q = Y j) :
    Calls Tryz.prog 98 #[.pointer (some ⟨(G.L j).g, 0, none⟩), .int .i64 (a : Int), .int .i64 (b : Int)] w.drew fun e w5 => e = .returned .nilIface ∧ Reads w5 G be a b j ∧ Hid (Step w0 w5 G A lv tr X Y be a b (j + 1)) := by
  obtain ⟨p, f⟩ := h.mem.drew.fo j hj
  rw [mixed_at] at f
  have hln := h.mem.ln j hj
  have hlk := flink_any f a b (by rw [hln]; omega) (by rw [hln]; omega) (fun q => hc ((f.grown.rest.same a b).1 q))
  refine hlk.mono ?_
  rintro e w5 ⟨rfl, t5, P, Q, p', hE, -, f5⟩
  rw [Nat.min_eq_left (by omega), Nat.max_eq_right (by omega)] at f5
  have hy := hY P Q hE f5.grown.rises
  rw [hy] at f5
  exact ⟨rfl, h.reads_turn hj t5, h.turn hj t5 f5⟩

/-- Cut at a forest. -/
theorem step_cut {w0 : World} {be j : Nat} (h : Step w0 w G A lv tr X Y be a b j) (hj : j < G.K) (ha : a < b) (hb : b < G.n) {P Q : List (Nat × Nat)} (hX : X j = P ++ (a, b) :: Q) (hY : Y j = P ++ Q) :
    Calls Tryz.prog 99 #[.pointer (some ⟨(G.L j).g, 0, none⟩), .int .i64 (a : Int), .int .i64 (b : Int)] w.drew fun e w5 => e = .returned .nilIface ∧ Reads w5 G be a b j ∧ Hid (Step w0 w5 G A lv tr X Y be a b (j + 1)) := by
  obtain ⟨p, f⟩ := h.mem.drew.fo j hj
  rw [mixed_at, hX] at f
  have hln := h.mem.ln j hj
  have hmin : (a, b) = (min a b, max a b) := by rw [Nat.min_eq_left (by omega), Nat.max_eq_right (by omega)]
  rw [hmin] at f
  have hlk := fcut_any a b f (by rw [hln]; omega) (by rw [hln]; omega)
  refine hlk.mono ?_
  rintro e w5 ⟨rfl, t5, p', -, f5⟩
  rw [← hY] at f5
  exact ⟨rfl, h.reads_turn hj t5, h.turn hj t5 f5⟩

set_option maxRecDepth 100000 in
set_option maxHeartbeats 2000000 in
theorem fell_any (h : GMem w G A lv tr X) (ha : a < b) (hb : b < G.n) (l : Nat) (hl : l < G.K) (hX : ∀ k, k ≤ l → ∃ P Q, X k = P ++ (a, b) :: Q ∧ Y k = P ++ Q) :
    Calls Tryz.prog 81 #[.pointer (some ⟨G.g, 0, none⟩), ev a b, .int .i64 (l : Nat)] w fun e w' => e = .returned (.tuple #[]) ∧ Turns (GFoot G) w w' ∧ GMem w' G A lv tr (mixed X Y (l + 1)) := by
  obtain ⟨w1, hw1⟩ : ∃ w1, w1 = w.alloc (.cells #[.int .i64 (a : Int), .int .i64 (b : Int)] 92) := ⟨_, rfl⟩
  have hb1 : Below w.heap.size w w1 := by rw [hw1]; exact (Below.refl _ _).alloc (Nat.le_refl _) _
  have e0 : w1.cell? ⟨w.heap.size, 0, none⟩ = some (.int .i64 (a : Int)) := by rw [hw1]; simp
  have e1 : w1.cell? ⟨w.heap.size, 1, none⟩ = some (.int .i64 (b : Int)) := by rw [hw1]; simp
  have hS : Step w w1 G A lv tr X Y w.heap.size a b 0 := ⟨by rw [mixed_zero]; exact h.below hb1, Turns.of_below hb1, e0, e1, fun q => by have := h.foot_lt q; omega⟩
  have hk6 := h.k10
  have HS : Hid (Step w w1 G A lv tr X Y w.heap.size a b 0) := hS
  have HX : Hid (∀ k, k ≤ l → ∃ P Q, X k = P ++ (a, b) :: Q ∧ Y k = P ++ Q) := hX
  have HN : Hid (a < b ∧ b < G.n) := ⟨ha, hb⟩
  clear h hS hX e0 e1 hb1 ha hb
  go_enter Tryz.func81, Tryz.ntmps81
  dsimp only [ev]
  go_wp2_with fail
  rw [← hw1]
  clear hw1
  generalize w.heap.size = be at *
  go_loopw [6, 9] (fun _ i wr => ∃ j : Nat, j ≤ l + 1 ∧ i = .int .i64 (j : Nat) ∧ Step w wr G A lv tr X Y be a b j) (fun _ i _ => l + 1 - (intOf i).toNat)
  case atStart => exact ⟨0, Nat.zero_le _, rfl, HS.out⟩
  case round =>
    obtain ⟨j, hj, rfl, hR⟩ := hrel
    by_cases hlt : j < l + 1
    · obtain ⟨P, Q, hx, hy⟩ := HX.out j (by omega)
      have hc := step_cut hR (by omega) HN.out.1 HN.out.2 hx hy
      obtain ⟨r1, r2, r3, r4⟩ := hR.reads (by omega)
      have i0 : (0 : Int) ≤ (j : Int) := by omega
      have i1 : (j : Int) < (l : Int) + 1 := by omega
      have i2 : (j : Int) < (G.K : Int) := by omega
      clear hR hx hy
      go_wp2_with fail
      go_region_held3 (fun V => V.cell? ⟨G.g, 2, none⟩ = some (.slice (some ⟨G.fb, 0, none⟩) G.K G.cap) ∧ V.cell? ⟨G.fb, j, none⟩ = some (.pointer (some ⟨(G.L j).g, 0, none⟩)) ∧ V.cell? ⟨be, 0, none⟩ = some (.int .i64 (a : Int)) ∧ V.cell? ⟨be, 1, none⟩ = some (.int .i64 (b : Int)))
        (first | (go_keep; done) | exact ⟨r1, r2, r3, r4⟩ | exact hS5)
        (first
          | (go_at_call 99; refine hc.mono ?_; rintro e w5 ⟨rfl, hS5, HT⟩))
      clear r1 r2 r3 r4 hc hS5
      go_wp2_with fail
      go_roundw
      case rel => exact ⟨j + 1, by omega, by go_num, HT.out⟩
      case measure => simp [intOf]; omega
    · obtain rfl : j = l + 1 := by omega
      have HE : Hid (Step w wr G A lv tr X Y be a b (l + 1)) := hR
      clear hR
      have i1 : ¬ (((l + 1 : Nat) : Int) < (l : Int) + 1) := by omega
      go_wp2_with fail
      go_end0
      exact ⟨rfl, HE.out.turns, HE.out.mem⟩

set_option maxRecDepth 100000 in
set_option maxHeartbeats 2000000 in
theorem plant_any (h : GMem w G A lv tr X) (he : (a, b) ∈ A) (ht : tr (a, b) = false) (l : Nat) (hl : lv (a, b) = l) (hl2 : l < G.K) (hc : ∀ k, k ≤ l → ¬ Conn (X k) a b) (hY : ∀ k, k ≤ l → ∀ P Q, X k = P ++ Q → Rises (P ++ (a, b) :: Q) → P ++ (a, b) :: Q = Y k) :
    Calls Tryz.prog 79 #[.pointer (some ⟨G.g, 0, none⟩), ev a b] w fun e w' => e = .returned (.tuple #[]) ∧ Turns (GFoot G) w w' ∧ GMem w' G A lv (upd tr (a, b) true) (mixed X Y (l + 1)) := by
  have hnd := h.node he
  have hn60 := h.n60
  have hk6 := h.k10
  -- the edge in its own block
  obtain ⟨w1, hw1⟩ : ∃ w1, w1 = w.alloc (.cells #[.int .i64 (a : Int), .int .i64 (b : Int)] 92) := ⟨_, rfl⟩
  have hb1 : Below w.heap.size w w1 := by rw [hw1]; exact (Below.refl _ _).alloc (Nat.le_refl _) _
  have s1 : w1.heap.size = w.heap.size + 1 := by rw [hw1]; simp
  have e0 : w1.cell? ⟨w.heap.size, 0, none⟩ = some (.int .i64 (a : Int)) := by rw [hw1]; simp
  have e1 : w1.cell? ⟨w.heap.size, 1, none⟩ = some (.int .i64 (b : Int)) := by rw [hw1]; simp
  have h1 := h.below hb1
  have c1 := h1.c1
  -- what is known of it in another
  obtain ⟨W2, hW2⟩ : ∃ W2, W2 = (w1.alloc (.cells #[.int .i64 (l : Nat), .bool false] 95)).drew := ⟨_, rfl⟩
  have bz : Below w1.heap.size w1 (w1.alloc (.cells #[.int .i64 0, .bool false] 95)).drew := ((Below.refl _ _).alloc (Nat.le_refl _) _).drew
  have hb2 : Below w1.heap.size w1 W2 := by rw [hW2]; exact ((Below.refl _ _).alloc (Nat.le_refl _) _).drew
  obtain ⟨D, hD⟩ := h1.map
  have l1 := (hD.of_block (w' := w1.drew) rfl).look (a := a) (b := b) (by omega) (by omega) he
  have l2 := (hD.of_block (bz.block _ (map_lt hD.isMap))).look (a := a) (b := b) (by omega) (by omega) he
  rw [hl, ht] at l1 l2
  have r2 : W2.rowIs w1.heap.size 95 2 (hcells l false) := by rw [hW2]; exact (row_new w1 l false).drew
  rw [s1] at r2
  obtain ⟨bh, hbh⟩ : ∃ bh, bh = w.heap.size + 1 := ⟨_, rfl⟩
  rw [← hbh] at r2
  have b02 : Below w.heap.size w W2 := below_step hb1 hb2
  obtain ⟨W3, hW3⟩ : ∃ W3, W3 = W2.setCell ⟨bh, 1, none⟩ (.bool true) := ⟨_, rfl⟩
  have b03 : Below w.heap.size w W3 := by rw [hW3]; exact b02.setCell (by show w.heap.size ≤ bh; omega) _
  have b13 : Below w1.heap.size w1 W3 := by rw [hW3]; exact hb2.setCell (by show w1.heap.size ≤ bh; omega) _
  have r3 : W3.rowIs bh 95 2 (hcells l true) := by
    rw [hW3]
    refine (r2.set 1 _).congr fun i hi => ?_
    match i, hi with
    | 0, _ => rfl
    | 1, _ => rfl
  have h3 := h.below b03
  obtain ⟨w4, hrun4, h4, t4⟩ := h3.drew.reput he l true
  have T4 : Turns (GFoot G) w w4 := (Turns.of_below (b03.drew)).trans (GMem.turns_map t4)
  have hfin : GMem w4 G A lv (upd tr (a, b) true) X := h4.told (fun x hx => ⟨by
    by_cases e : x = (a, b)
    · subst e; rw [upd_same]; exact hl.symm
    · exact upd_other e, rfl⟩)
  have f2 := r2.frozen 1
  have q2 := r2.cell (i := 1) (by omega)
  have q30 := r3.cell (i := 0) (by omega)
  have q31 := r3.cell (i := 1) (by omega)
  have c13 := h3.c1
  have e03 := cell_keep b13 e0
  have e13 := cell_keep b13 e1
  have bl4 : ∀ {c o : Nat} {v : Value}, W3.cell? ⟨c, o, none⟩ = some v → w.heap.size ≤ c → w4.cell? ⟨c, o, none⟩ = some v := fun {c o v} hv hc => (World.cell?_of_block (w := W3.drew) (a := ⟨c, o, none⟩) (t4.grown.block c (World.block_lt_of_cell? _ _ hv) (fun e => by
    have h5 := h.foot_lt (Or.inl rfl : GFoot G G.mb)
    have e9 := Option.some.inj e
    omega))).trans hv
  have q40 := bl4 q30 (by omega)
  have hS : Step w w4 G A lv (upd tr (a, b) true) X Y w.heap.size a b 0 := ⟨by rw [mixed_zero]; exact hfin, T4, bl4 e03 (Nat.le_refl _), bl4 e13 (Nat.le_refl _), fun q => by have := h.foot_lt q; omega⟩
  have HS : Hid (Step w w4 G A lv (upd tr (a, b) true) X Y w.heap.size a b 0) := hS
  have HC : Hid (∀ k, k ≤ l → ¬ Conn (X k) a b) := hc
  have HY : Hid (∀ k, k ≤ l → ∀ P Q, X k = P ++ Q → Rises (P ++ (a, b) :: Q) → P ++ (a, b) :: Q = Y k) := hY
  have HW2 : Hid (W2 = (w1.alloc (.cells #[.int .i64 (l : Nat), .bool false] 95)).drew) := hW2
  have HW3 : Hid (W3 = W2.setCell ⟨bh, 1, none⟩ (.bool true)) := hW3
  clear hD hW2 hW3 r2 r3 h3 h4 t4 T4 hfin b02 b03 b13 hb2 bz hb1 h h1 he ht hl bl4 hS hc hY
  dsimp only [ev, hv, hcells] at l1 l2 hrun4 q2 q30 q31 q40
  simp only [if_true, if_false, Nat.one_ne_zero] at hrun4 q2 q30 q31 q40
  generalize upd tr (a, b) true = tr' at *
  go_enter Tryz.func79, Tryz.ntmps79
  dsimp only [ev]
  go_wp2_with fail
  rw [← hw1]
  clear hw1
  go_region_held3 (fun V => V.cell? ⟨G.g, 1, none⟩ = some (.map (some G.mb)) ∧ V.cell? ⟨w.heap.size, 0, none⟩ = some (.int .i64 (a : Int)) ∧ V.cell? ⟨w.heap.size, 1, none⟩ = some (.int .i64 (b : Int))) (first | (go_keep; done) | exact ⟨c1, e0, e1⟩) (fail)
  all_goals
    rw [← HW2.out]
    rw [← hbh]
    clear l1 l2 e0 e1 c1 s1 hbh
    go_wp2_with fail
    rw [← HW3.out]
    go_region
    clear hrun4 q2 q30 q31 c13 e03 e13 HW2 HW3 f2
    go_wp2_with fail
    clear q40
    generalize w.heap.size = be at *
    go_loopw [5, 22] (fun _ i wr => ∃ j : Nat, j ≤ l + 1 ∧ i = .int .i64 (j : Nat) ∧ Step w wr G A lv tr' X Y be a b j) (fun _ i _ => l + 1 - (intOf i).toNat)
    case atStart => exact ⟨0, Nat.zero_le _, rfl, HS.out⟩
    case round =>
      obtain ⟨j, hj, rfl, hR⟩ := hrel
      by_cases hlt : j < l + 1
      · have hc := step_link hR (by omega) hnd.2.2 hnd.2.1 (HC.out j (by omega)) (HY.out j (by omega))
        obtain ⟨r1, r2, r3, r4⟩ := hR.reads (by omega)
        have i0 : (0 : Int) ≤ (j : Int) := by omega
        have i1 : (j : Int) < (l : Int) + 1 := by omega
        have i2 : (j : Int) < (G.K : Int) := by omega
        clear hR
        go_wp2_with fail
        go_region_held3 (fun V => V.cell? ⟨G.g, 2, none⟩ = some (.slice (some ⟨G.fb, 0, none⟩) G.K G.cap) ∧ V.cell? ⟨G.fb, j, none⟩ = some (.pointer (some ⟨(G.L j).g, 0, none⟩)) ∧ V.cell? ⟨be, 0, none⟩ = some (.int .i64 (a : Int)) ∧ V.cell? ⟨be, 1, none⟩ = some (.int .i64 (b : Int)))
          (first | (go_keep; done) | exact ⟨r1, r2, r3, r4⟩ | exact hS5)
          (first
            | (go_at_call 98; refine hc.mono ?_; rintro e w5 ⟨rfl, hS5, HT⟩))
        clear r1 r2 r3 r4 hc hS5
        go_wp2_with fail
        go_roundw
        case rel => exact ⟨j + 1, by omega, by go_num, HT.out⟩
        case measure => simp [intOf]; omega
      · obtain rfl : j = l + 1 := by omega
        have HE : Hid (Step w wr G A lv tr' X Y be a b (l + 1)) := hR
        clear hR
        have i1 : ¬ (((l + 1 : Nat) : Int) < (l : Int) + 1) := by omega
        go_wp2_with fail
        go_end0
        exact ⟨rfl, HE.out.turns, HE.out.mem⟩

end Go.Proofs.YtcfemppdeidjmacGreatDoor.Gr
