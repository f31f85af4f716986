/-
  The small functions of package graph: edgeOf, isNode, Has, find, Level, Joined, Size.
-/
import Derived.Test.YthhojlbfnffdeabGreatMf
import Derived.Laws.ResultCell
namespace Go.Proofs.YthhojlbfnffdeabGreat.Gr
open Go.RowKit Go.Deep Go.Maps
open Go.RowKit (Below)
set_option linter.unusedVariables false

variable {w w' : World} {G : GPl} {A : List (Nat × Nat)} {lv : Nat × Nat → Nat} {tr : Nat × Nat → Bool} {X : Nat → List (Nat × Nat)}

set_option maxRecDepth 100000 in
set_option maxHeartbeats 400000 in
theorem gedgeOf_any (a b : Nat) (ha : a < 1000000) (hb : b < 1000000) {w : World} :
    Calls Tryz.prog 25 #[.int .i64 (a : Int), .int .i64 (b : Int)] w fun e w' => e = .returned (ev (min a b : Nat) (max a b : Nat)) ∧ w' = w.alloc (.cells #[.int .i64 (min a b : Nat), .int .i64 (max a b : Nat)] 41) := by
  obtain ⟨x, hx⟩ : ∃ x, x = min a b := ⟨_, rfl⟩
  obtain ⟨y, hy⟩ : ∃ y, y = max a b := ⟨_, rfl⟩
  have HX : Hid (x = min a b ∧ y = max a b) := ⟨hx, hy⟩
  rw [← hx, ← hy]
  clear hx hy
  go_enter Tryz.func25, Tryz.ntmps25
  go_wp2_with fail
  all_goals
    refine bodyPost_ret (results_cell_row rfl _ _ w.heap.size 41 _ (0, 0) _ rfl (heap_alloc_new _ _) Tryz.underlying41 rfl Tryz.sizeEdge) rfl ?_
    obtain ⟨hx, hy⟩ := HX.out
    have ex : ((x : Nat) : Int) = min (a : Int) (b : Int) := by omega
    have ey : ((y : Nat) : Int) = max (a : Int) (b : Int) := by omega
    rw [ex, ey]
    exact ⟨rfl, rfl⟩

set_option maxHeartbeats 400000 in
theorem isNode_any (h : GMem w G A lv tr X) (a : Int) (q : Bool) (hq : q = true ↔ (0 ≤ a ∧ a < G.n)) :
    Calls Tryz.prog 43 #[.pointer (some ⟨G.g, 0, none⟩), .int .i64 a] w fun e w' => e = .returned (.bool q) ∧ w' = w := by
  have c0 := h.c0
  clear h
  generalize G.n = n at *
  generalize G.g = g at *
  by_cases h1 : 0 ≤ a
  · by_cases h2 : a < n
    · obtain rfl := hq.2 ⟨h1, h2⟩
      clear hq
      go_enter Tryz.func43, Tryz.ntmps43
      go_wp2_with fail
      go_ret
      exact ⟨rfl, rfl⟩
    · obtain rfl : q = false := by rw [Bool.eq_false_iff]; exact fun h => h2 (hq.1 h).2
      clear hq
      go_enter Tryz.func43, Tryz.ntmps43
      go_wp2_with fail
      go_ret
      exact ⟨rfl, rfl⟩
  · obtain rfl : q = false := by rw [Bool.eq_false_iff]; exact fun h => h1 (hq.1 h).1
    clear hq
    go_enter Tryz.func43, Tryz.ntmps43
    go_wp2_with fail
    go_ret
    exact ⟨rfl, rfl⟩

set_option maxHeartbeats 400000 in
theorem has_no (h : GMem w G A lv tr X) (a b : Int) (hn : ¬ ((0 ≤ a ∧ a < G.n) ∧ 0 ≤ b ∧ b < G.n)) :
    Calls Tryz.prog 24 #[.pointer (some ⟨G.g, 0, none⟩), .int .i64 a, .int .i64 b] w fun e w' => e = .returned (.tuple #[.bool false, .iface 58 (.int .i64 1)]) ∧ w' = w := by
  by_cases ha : 0 ≤ a ∧ a < G.n
  · have i1 := isNode_any h a true (by simp [ha])
    have i2 := isNode_any h b false (by simp; intro hb; exact Int.not_lt.1 fun q => hn ⟨ha, hb, q⟩)
    clear h ha hn
    go_enter Tryz.func24, Tryz.ntmps24
    go_wp2_with fail
    refine i1.mono ?_
    rintro e w1 ⟨rfl, rfl⟩
    go_wp2_with fail
    refine i2.mono ?_
    rintro e w2 ⟨rfl, rfl⟩
    go_wp2_with fail
    go_ret2
    exact ⟨rfl, rfl⟩
  · have i1 := isNode_any h a false (by simp; intro hb; exact Int.not_lt.1 fun q => ha ⟨hb, q⟩)
    clear h ha hn
    go_enter Tryz.func24, Tryz.ntmps24
    go_wp2_with fail
    refine i1.mono ?_
    rintro e w1 ⟨rfl, rfl⟩
    go_wp2_with fail
    go_ret2
    exact ⟨rfl, rfl⟩

set_option maxRecDepth 100000 in
set_option maxHeartbeats 2000000 in
theorem has_any (h : GMem w G A lv tr X) (a b : Nat) (ha : a < G.n) (hb : b < G.n) (q : Bool) (hq : q = true ↔ (min a b, max a b) ∈ A) :
    Calls Tryz.prog 24 #[.pointer (some ⟨G.g, 0, none⟩), .int .i64 (a : Int), .int .i64 (b : Int)] w fun e w' => e = .returned (.tuple #[.bool q, .nilIface]) ∧ Below w.heap.size w w' := by
  have i1 := isNode_any h a true (by simp; omega)
  have i2 := isNode_any h b true (by simp; omega)
  have hn60 := h.n60
  have c1 := h.c1
  obtain ⟨D, hD⟩ := h.map
  obtain ⟨O1, hO1⟩ : ∃ O1, O1 = Obj.cells #[.int .i64 (min a b : Nat), .int .i64 (max a b : Nat)] 41 := ⟨_, rfl⟩
  obtain ⟨Z, hZ⟩ : ∃ Z, Z = Obj.cells #[.int .i64 0, .bool false] 64 := ⟨_, rfl⟩
  have b1 : Below w.heap.size w (w.alloc O1).drew := ((Below.refl _ _).alloc (Nat.le_refl _) _).drew
  have b2 : Below w.heap.size w ((w.alloc O1).alloc Z).drew := (((Below.refl _ _).alloc (Nat.le_refl _) _).alloc (by simp) _).drew
  have b3 : Below w.heap.size w ((w.alloc Z).alloc O1).drew := (((Below.refl _ _).alloc (Nat.le_refl _) _).alloc (by simp) _).drew
  obtain ⟨k1, t1, l1⟩ := (hD.of_block (b1.block _ (map_lt hD.isMap))).look_ok (a := min a b) (b := max a b) (by omega) (by omega) q hq
  obtain ⟨k2, t2, l2⟩ := (hD.of_block (b2.block _ (map_lt hD.isMap))).look_ok (a := min a b) (b := max a b) (by omega) (by omega) q hq
  obtain ⟨k3, t3, l3⟩ := (hD.of_block (b3.block _ (map_lt hD.isMap))).look_ok (a := min a b) (b := max a b) (by omega) (by omega) q hq
  rw [hO1] at l1 b1
  rw [hO1, hZ] at l2 b2 l3 b3
  clear hD hO1 hZ h hq
  go_enter Tryz.func24, Tryz.ntmps24
  go_wp2_with fail
  refine i1.mono ?_
  rintro e w1 ⟨rfl, rfl⟩
  go_wp2_with fail
  refine i2.mono ?_
  rintro e w2 ⟨rfl, rfl⟩
  clear i1 i2
  go_wp2_with fail
  go_region_held3 (fun W => W.cell? ⟨G.g, 1, none⟩ = some (.map (some G.mb))) (first | (go_keep; done) | exact cell_keep b1 c1 | exact cell_keep b2 c1 | exact cell_keep b3 c1)
    (first
      | (go_at_call 25; refine (gedgeOf_any a b (by omega) (by omega)).mono ?_; rintro e w9 ⟨rfl, rfl⟩))
  all_goals
    go_wp2_with fail
    go_ret2
    exact ⟨rfl, (((Below.refl _ _).alloc (Nat.le_refl _) _).alloc (by simp) _).drew⟩

theorem results_row_tmp {P : Program} {fn : Func} {p u : Tmp} {ty : TypeId} (h : fn.results = #[.cell p ty, .tmp u]) (tmps : Array Value) (w : World) (g : Nat) (t : TypeId) (cs : Array Value) (fr : Nat × Nat) (d : TypeDesc)
    (hp : tmps.getD p undef = .pointer (some ⟨g, 0, none⟩)) (hg : w.heap[g]? = some (.cells cs t fr))
    (hu : P.underlying ty = some d) (hd : (match d with | .struct _ | .array _ _ => true | _ => false) = true) (hi : (P.info? ty).map (·.size) = some cs.size) :
    (results fn tmps).run P w = .ok (.tuple #[.agg cs, tmps.getD u undef]) w := by
  rw [results_cell_tmp h, hp]
  simp [asAddr, run_loadVar_row w g t ty cs fr d hg hu hd hi]

set_option maxRecDepth 1000000 in
theorem Tryz.sizeHeld : (Tryz.prog.info? 64).map (·.size) = some 2 := by kernel_rfl

/-- The two cells of what is known of an edge. -/
def hcells (l : Nat) (t : Bool) : Nat → Value := fun i => if i = 0 then .int .i64 (l : Nat) else .bool t

theorem row_new (w : World) (l : Nat) (t : Bool) : (w.alloc (.cells #[.int .i64 (l : Nat), .bool t] 64)).rowIs w.heap.size 64 2 (hcells l t) :=
  World.rowIs_alloc w #[.int .i64 (l : Nat), .bool t] 64 (hcells l t) (fun i hi => by
    match i, hi with
    | 0, _ => rfl
    | 1, _ => rfl)

theorem row_block {b l : Nat} {t : Bool} (h : w.rowIs b 64 2 (hcells l t)) : w.heap[b]? = some (.cells #[.int .i64 (l : Nat), .bool t] 64 (0, 0)) := by
  obtain ⟨c, hb, hs, hc⟩ := h
  have e : c = #[.int .i64 (l : Nat), .bool t] := by
    obtain ⟨c⟩ := c
    match c, hs, hc with
    | [x, y], _, hc =>
      have h0 := hc 0 (by omega)
      have h1 := hc 1 (by omega)
      simp [hcells] at h0 h1
      rw [h0, h1]
  rw [hb, e]

theorem row_two {b l : Nat} {t : Bool} {f : Nat → Value} (h : w.rowIs b 64 2 f) : ((w.setCell ⟨b, 0, none⟩ (.int .i64 (l : Nat))).setCell ⟨b, 1, none⟩ (.bool t)).rowIs b 64 2 (hcells l t) := by
  refine ((h.set 0 _).set 1 _).congr fun i hi => ?_
  match i, hi with
  | 0, _ => rfl
  | 1, _ => rfl

set_option maxHeartbeats 1000000 in
theorem find_no (h : GMem w G A lv tr X) (a b : Int) (hn : ¬ ((0 ≤ a ∧ a < G.n) ∧ 0 ≤ b ∧ b < G.n)) :
    Calls Tryz.prog 27 #[.pointer (some ⟨G.g, 0, none⟩), .int .i64 a, .int .i64 b] w fun e w' => e = .returned (.tuple #[hv 0 false, .iface 58 (.int .i64 1)]) ∧ Below w.heap.size w w' := by
  have hb0 : Below w.heap.size w (w.alloc (.cells #[.int .i64 0, .bool false] 64)) := (Below.refl _ _).alloc (Nat.le_refl _) _
  have hh := has_no (h.below hb0) a b hn
  clear h hn
  go_enter Tryz.func27, Tryz.ntmps27
  go_wp2_with fail
  refine hh.mono ?_
  rintro e w1 ⟨rfl, rfl⟩
  go_wp2_with fail
  refine bodyPost_ret (results_row_tmp rfl _ _ w.heap.size 64 _ (0, 0) _ rfl (heap_alloc_new _ _) Tryz.underlying64 rfl Tryz.sizeHeld) rfl ?_
  exact ⟨rfl, hb0⟩

set_option maxHeartbeats 1000000 in
theorem find_none (h : GMem w G A lv tr X) (a b : Nat) (ha : a < G.n) (hb : b < G.n) (hn : (min a b, max a b) ∉ A) :
    Calls Tryz.prog 27 #[.pointer (some ⟨G.g, 0, none⟩), .int .i64 (a : Int), .int .i64 (b : Int)] w fun e w' => e = .returned (.tuple #[hv 0 false, .iface 58 (.int .i64 4)]) ∧ Below w.heap.size w w' := by
  have hb0 : Below w.heap.size w (w.alloc (.cells #[.int .i64 (0 : Nat), .bool false] 64)) := (Below.refl _ _).alloc (Nat.le_refl _) _
  have hh := has_any (h.below hb0) a b ha hb false (by simp [hn])
  have r0 := row_new w 0 false
  clear h hn
  go_enter Tryz.func27, Tryz.ntmps27
  go_wp2_with fail
  refine hh.mono ?_
  rintro e w1 ⟨rfl, hb1⟩
  clear hh
  have hb2 := below_step hb0 hb1
  have r1 := r0.of_block (hb1.block _ r0.lt)
  have f0 := r1.frozen 0
  have f1 := r1.frozen 1
  have q0 := r1.cell (i := 0) (by omega)
  have q1 := r1.cell (i := 1) (by omega)
  have HR : Hid (w1.rowIs w.heap.size 64 2 (hcells 0 false)) := r1
  clear r0 hb1 hb0 r1
  go_wp2_with fail
  refine bodyPost_ret (results_row_tmp rfl _ _ w.heap.size 64 _ (0, 0) _ rfl (row_block (row_two (l := 0) (t := false) HR.out)) Tryz.underlying64 rfl Tryz.sizeHeld) rfl ?_
  exact ⟨rfl, (hb2.setCell (Nat.le_refl _) _).setCell (Nat.le_refl _) _⟩

set_option maxRecDepth 100000 in
set_option maxHeartbeats 2000000 in
theorem find_any (h : GMem w G A lv tr X) (a b : Nat) (ha : a < G.n) (hb : b < G.n) (hn : (min a b, max a b) ∈ A) (l : Nat) (t : Bool) (hl : lv (min a b, max a b) = l) (ht : tr (min a b, max a b) = t) :
    Calls Tryz.prog 27 #[.pointer (some ⟨G.g, 0, none⟩), .int .i64 (a : Int), .int .i64 (b : Int)] w fun e w' => e = .returned (.tuple #[hv l t, .nilIface]) ∧ Below w.heap.size w w' := by
  have hb0 : Below w.heap.size w (w.alloc (.cells #[.int .i64 (0 : Nat), .bool false] 64)) := (Below.refl _ _).alloc (Nat.le_refl _) _
  have hh := has_any (h.below hb0) a b ha hb true (by simp [hn])
  have r0 := row_new w 0 false
  have hn60 := h.n60
  have HH : Hid (GMem w G A lv tr X ∧ (min a b, max a b) ∈ A ∧ lv (min a b, max a b) = l ∧ tr (min a b, max a b) = t) := ⟨h, hn, hl, ht⟩
  clear h hn hl ht
  go_enter Tryz.func27, Tryz.ntmps27
  go_wp2_with fail
  refine hh.mono ?_
  rintro e w1 ⟨rfl, hb1⟩
  clear hh
  have hb2 := below_step hb0 hb1
  have r1 := r0.of_block (hb1.block _ r0.lt)
  have h1 := HH.out.1.below hb2
  have c1 := h1.c1
  have he : Calls Tryz.prog 25 #[.int .i64 (a : Int), .int .i64 (b : Int)] w1.drew fun e w' => e = .returned (ev (min a b : Nat) (max a b : Nat)) ∧ w' = (w1.alloc (.cells #[.int .i64 (min a b : Nat), .int .i64 (max a b : Nat)] 41)).drew := gedgeOf_any a b (by omega) (by omega)
  have b1 : Below w1.heap.size w1 (w1.alloc (.cells #[.int .i64 (min a b : Nat), .int .i64 (max a b : Nat)] 41)).drew := ((Below.refl _ _).alloc (Nat.le_refl _) _).drew
  generalize (w1.alloc (.cells #[.int .i64 (min a b : Nat), .int .i64 (max a b : Nat)] 41)).drew = W9 at he b1
  have hb3 := below_step hb2 b1
  have r2 := r1.of_block (b1.block _ r1.lt)
  obtain ⟨D, hD⟩ := (h1.below b1).map
  have l1 := hD.look (a := min a b) (b := max a b) (by omega) (by omega) HH.out.2.1
  rw [HH.out.2.2.1, HH.out.2.2.2] at l1
  have g1 := (h1.below b1).c1
  have f0 := r2.frozen 0
  have f1 := r2.frozen 1
  have q0 := r2.cell (i := 0) (by omega)
  have q1 := r2.cell (i := 1) (by omega)
  have HR : Hid (W9.rowIs w.heap.size 64 2 (hcells 0 false)) := r2
  have g2 : ((W9.setCell ⟨w.heap.size, 0, none⟩ (.int .i64 (l : Nat))).setCell ⟨w.heap.size, 1, none⟩ (.bool t)).cell? ⟨G.g, 1, none⟩ = some (.map (some G.mb)) := cell_keep ((hb3.setCell (Nat.le_refl _) _).setCell (Nat.le_refl _) _) HH.out.1.c1
  clear r0 r1 hb0 hb1 hb2 r2 h1 hD
  dsimp only [hv] at l1
  go_wp2_with fail
  go_region_held3 (fun W => W.cell? ⟨G.g, 1, none⟩ = some (.map (some G.mb))) (first | (go_keep; done) | exact c1 | exact g1 | exact g2)
    (first
      | (go_at_call 25; refine he.mono ?_; rintro e w9 ⟨rfl, rfl⟩))
  all_goals
    go_wp2_with fail
    refine bodyPost_ret (results_row_tmp rfl _ _ w.heap.size 64 _ (0, 0) _ rfl (row_block (row_two (l := l) (t := t) HR.out)) Tryz.underlying64 rfl Tryz.sizeHeld) rfl ?_
    exact ⟨rfl, (hb3.setCell (Nat.le_refl _) _).setCell (Nat.le_refl _) _⟩

set_option maxHeartbeats 400000 in
theorem level_no (h : GMem w G A lv tr X) (a b : Int) (hn : ¬ ((0 ≤ a ∧ a < G.n) ∧ 0 ≤ b ∧ b < G.n)) :
    Calls Tryz.prog 15 #[.pointer (some ⟨G.g, 0, none⟩), .int .i64 a, .int .i64 b] w fun e w' => e = .returned (.tuple #[.int .i64 0, .iface 58 (.int .i64 1)]) ∧ Below w.heap.size w w' := by
  have hh := find_no h a b hn
  clear h hn
  dsimp only [hv] at hh
  go_enter Tryz.func15, Tryz.ntmps15
  go_wp2_with fail
  refine hh.mono ?_
  rintro e w1 ⟨rfl, hb⟩
  go_wp2_with fail
  go_ret2
  exact ⟨rfl, below_step hb ((Below.refl _ _).alloc (Nat.le_refl _) _)⟩

set_option maxHeartbeats 400000 in
theorem level_none (h : GMem w G A lv tr X) (a b : Nat) (ha : a < G.n) (hb : b < G.n) (hn : (min a b, max a b) ∉ A) :
    Calls Tryz.prog 15 #[.pointer (some ⟨G.g, 0, none⟩), .int .i64 (a : Int), .int .i64 (b : Int)] w fun e w' => e = .returned (.tuple #[.int .i64 0, .iface 58 (.int .i64 4)]) ∧ Below w.heap.size w w' := by
  have hh := find_none h a b ha hb hn
  clear h hn
  dsimp only [hv] at hh
  go_enter Tryz.func15, Tryz.ntmps15
  go_wp2_with fail
  refine hh.mono ?_
  rintro e w1 ⟨rfl, hb⟩
  go_wp2_with fail
  go_ret2
  exact ⟨rfl, below_step hb ((Below.refl _ _).alloc (Nat.le_refl _) _)⟩

set_option maxHeartbeats 400000 in
theorem level_any (h : GMem w G A lv tr X) (a b : Nat) (ha : a < G.n) (hb : b < G.n) (hn : (min a b, max a b) ∈ A) (l : Nat) (hl : lv (min a b, max a b) = l) :
    Calls Tryz.prog 15 #[.pointer (some ⟨G.g, 0, none⟩), .int .i64 (a : Int), .int .i64 (b : Int)] w fun e w' => e = .returned (.tuple #[.int .i64 (l : Nat), .nilIface]) ∧ Below w.heap.size w w' := by
  have hh := find_any h a b ha hb hn l _ hl rfl
  generalize tr (min a b, max a b) = t at hh
  clear h hn hl
  dsimp only [hv] at hh
  go_enter Tryz.func15, Tryz.ntmps15
  go_wp2_with fail
  refine hh.mono ?_
  rintro e w1 ⟨rfl, hb⟩
  go_wp2_with fail
  go_ret2
  exact ⟨rfl, below_step hb ((Below.refl _ _).alloc (Nat.le_refl _) _)⟩

/-- The first of the forests, whose nodes' least fellows tell who is joined. -/
theorem GMem.zero (h : GMem w G A lv tr X) : ∃ p, FAt w (G.L 0) (X 0) p := h.fo 0 h.k0

set_option maxHeartbeats 400000 in
theorem joined_no (h : GMem w G A lv tr X) (a b : Int) (hn : ¬ ((0 ≤ a ∧ a < G.n) ∧ 0 ≤ b ∧ b < G.n)) :
    Calls Tryz.prog 9 #[.pointer (some ⟨G.g, 0, none⟩), .int .i64 a, .int .i64 b] w fun e w' => e = .returned (.tuple #[.bool false, .iface 58 (.int .i64 1)]) ∧ Below w.heap.size w w' := by
  obtain ⟨p, f⟩ := h.zero
  have hs := same_no f a b (by rw [h.ln 0 h.k0]; exact hn)
  have c2 := h.c2
  have r0 := h.row 0 h.k0
  have k0 := h.k0
  have i1 : (0 : Int) < (G.K : Nat) := by omega
  clear h f hn
  go_enter Tryz.func9, Tryz.ntmps9
  go_wp2_with fail
  refine hs.mono ?_
  rintro e w1 ⟨rfl, hb⟩
  go_wp2_with fail
  go_ret2
  exact ⟨rfl, hb⟩

set_option maxHeartbeats 400000 in
theorem joined_any (h : GMem w G A lv tr X) {p : Nat → Nat} (f : FAt w (G.L 0) (X 0) p) (a b : Nat) (ha : a < G.n) (hb : b < G.n) :
    Calls Tryz.prog 9 #[.pointer (some ⟨G.g, 0, none⟩), .int .i64 (a : Int), .int .i64 (b : Int)] w fun e w' => e = .returned (.tuple #[.bool (decide (p a = p b)), .nilIface]) ∧ Below w.heap.size w w' := by
  have hs := same_any f a b (by rw [h.ln 0 h.k0]; exact ha) (by rw [h.ln 0 h.k0]; exact hb)
  have c2 := h.c2
  have r0 := h.row 0 h.k0
  have k0 := h.k0
  have i1 : (0 : Int) < (G.K : Nat) := by omega
  generalize decide (p a = p b) = q at *
  clear h f
  go_enter Tryz.func9, Tryz.ntmps9
  go_wp2_with fail
  refine hs.mono ?_
  rintro e w1 ⟨rfl, hb⟩
  go_wp2_with fail
  go_ret2
  exact ⟨rfl, hb⟩

set_option maxHeartbeats 400000 in
theorem gsize_no (h : GMem w G A lv tr X) (a : Int) (hn : ¬ (0 ≤ a ∧ a < G.n)) :
    Calls Tryz.prog 21 #[.pointer (some ⟨G.g, 0, none⟩), .int .i64 a] w fun e w' => e = .returned (.tuple #[.int .i64 0, .iface 58 (.int .i64 1)]) ∧ Below w.heap.size w w' := by
  obtain ⟨p, f⟩ := h.zero
  have hs := size_no f a (by rw [h.ln 0 h.k0]; exact hn)
  have c2 := h.c2
  have r0 := h.row 0 h.k0
  have k0 := h.k0
  have i1 : (0 : Int) < (G.K : Nat) := by omega
  clear h f hn
  go_enter Tryz.func21, Tryz.ntmps21
  go_wp2_with fail
  refine hs.mono ?_
  rintro e w1 ⟨rfl, hb⟩
  go_wp2_with fail
  go_ret2
  exact ⟨rfl, hb⟩

set_option maxHeartbeats 400000 in
theorem gsize_any (h : GMem w G A lv tr X) {p : Nat → Nat} (f : FAt w (G.L 0) (X 0) p) (a : Nat) (ha : a < G.n) (N : Nat) (hN : (nodesOf G.n p (p a)).length = N) :
    Calls Tryz.prog 21 #[.pointer (some ⟨G.g, 0, none⟩), .int .i64 (a : Int)] w fun e w' => e = .returned (.tuple #[.int .i64 (N : Nat), .nilIface]) ∧ Below w.heap.size w w' := by
  have hs := size_tree f a (by rw [h.ln 0 h.k0]; exact ha) N (by rw [h.ln 0 h.k0]; exact hN)
  have c2 := h.c2
  have r0 := h.row 0 h.k0
  have k0 := h.k0
  have i1 : (0 : Int) < (G.K : Nat) := by omega
  clear h f hN
  go_enter Tryz.func21, Tryz.ntmps21
  go_wp2_with fail
  refine hs.mono ?_
  rintro e w1 ⟨rfl, hb⟩
  go_wp2_with fail
  go_ret2
  exact ⟨rfl, hb⟩

end Go.Proofs.YthhojlbfnffdeabGreat.Gr
