/-
  Gb Gf
-/
import Derived.Laws.ResultCell
import Derived.Test.YtcfemppdeidjmacGreatW10
namespace Go.Proofs.YtcfemppdeidjmacGreat.Gr
set_option linter.unusedSectionVars false
variable [Inhabited Zed]
open Go.RowKit Go.Deep Go.Maps
open Go.RowKit (Below)
set_option linter.unusedVariables false

variable {w w' : World} {G : GPl} {A : List (Nat × Nat)} {lv : Nat × Nat → Nat} {tr : Nat × Nat → Bool} {X : Nat → List (Nat × Nat)}

set_option maxRecDepth 100000 in
set_option maxHeartbeats 400000 in
theorem gedgeOf_any (a b : Nat) (ha : a < 1000000) (hb : b < 1000000) {w : World} :
    Calls Tryz.prog 70 #[.int .i64 (a : Int), .int .i64 (b : Int)] w fun e w' => e = .returned (ev (min a b : Nat) (max a b : Nat)) ∧ w' = w.alloc (.cells #[.int .i64 (min a b : Nat), .int .i64 (max a b : Nat)] 44) := by
  obtain ⟨x, hx⟩ : ∃ x, x = min a b := ⟨_, rfl⟩
  obtain ⟨y, hy⟩ : ∃ y, y = max a b := ⟨_, rfl⟩
  have HX : Hid (x = min a b ∧ y = max a b) := ⟨hx, hy⟩
  rw [← hx, ← hy]
  clear hx hy
  go_enter Tryz.func70, Tryz.ntmps70
  go_wp2_with fail
  all_goals
    refine bodyPost_ret (results_cell_row rfl _ _ w.heap.size 44 _ (0, 0) _ rfl (heap_alloc_new _ _) Tryz.underlying44 rfl Tryz.sizeEdge) rfl ?_
    obtain ⟨hx, hy⟩ := HX.out
    have ex : ((x : Nat) : Int) = min (a : Int) (b : Int) := by omega
    have ey : ((y : Nat) : Int) = max (a : Int) (b : Int) := by omega
    rw [ex, ey]
    exact ⟨rfl, rfl⟩

set_option maxHeartbeats 400000 in
theorem isNode_any (h : GMem w G A lv tr X) (a : Int) (q : Bool) (hq : q = true ↔ (0 ≤ a ∧ a < G.n)) :
    Calls Tryz.prog 107 #[.pointer (some ⟨G.g, 0, none⟩), .int .i64 a] w fun e w' => e = .returned (.bool q) ∧ w' = w := by
  have c0 := h.c0
  clear h
  generalize G.n = n at *
  generalize G.g = g at *
  by_cases h1 : 0 ≤ a
  · by_cases h2 : a < n
    · obtain rfl := hq.2 ⟨h1, h2⟩
      clear hq
      go_enter Tryz.func107, Tryz.ntmps107
      go_wp2_with fail
      go_ret
      exact ⟨rfl, rfl⟩
    · obtain rfl : q = false := by rw [Bool.eq_false_iff]; exact fun h => h2 (hq.1 h).2
      clear hq
      go_enter Tryz.func107, Tryz.ntmps107
      go_wp2_with fail
      go_ret
      exact ⟨rfl, rfl⟩
  · obtain rfl : q = false := by rw [Bool.eq_false_iff]; exact fun h => h1 (hq.1 h).1
    clear hq
    go_enter Tryz.func107, Tryz.ntmps107
    go_wp2_with fail
    go_ret
    exact ⟨rfl, rfl⟩

set_option maxHeartbeats 400000 in
theorem has_no (h : GMem w G A lv tr X) (a b : Int) (hn : ¬ ((0 ≤ a ∧ a < G.n) ∧ 0 ≤ b ∧ b < G.n)) :
    Calls Tryz.prog 73 #[.pointer (some ⟨G.g, 0, none⟩), .int .i64 a, .int .i64 b] w fun e w' => e = .returned (.tuple #[.bool false, .iface 102 (.int .i64 1)]) ∧ w' = w := by
  by_cases ha : 0 ≤ a ∧ a < G.n
  · have i1 := isNode_any h a true (by simp [ha])
    have i2 := isNode_any h b false (by simp; intro hb; exact Int.not_lt.1 fun q => hn ⟨ha, hb, q⟩)
    clear h ha hn
    go_enter Tryz.func73, Tryz.ntmps73
    go_wp2_with fail
    refine i1.mono ?_
    rintro e w1 ⟨rfl, rfl⟩
    go_wp2_with fail
    refine i2.mono ?_
    rintro e w2 ⟨rfl, rfl⟩
    go_wp2_with fail
    go_ret2
    exact ⟨rfl, rfl⟩
  · have i1 := isNode_any h a false (by simp; intro hb; exact Int.not_lt.1 fun q => ha ⟨hb, q⟩)
    clear h ha hn
    go_enter Tryz.func73, Tryz.ntmps73
    go_wp2_with fail
    refine i1.mono ?_
    rintro e w1 ⟨rfl, rfl⟩
    go_wp2_with fail
    go_ret2
    exact ⟨rfl, rfl⟩

set_option maxRecDepth 100000 in
set_option maxHeartbeats 2000000 in
theorem has_any (h : GMem w G A lv tr X) (a b : Nat) (ha : a < G.n) (hb : b < G.n) (q : Bool) (hq : q = true ↔ (min a b, max a b) ∈ A) :
    Calls Tryz.prog 73 #[.pointer (some ⟨G.g, 0, none⟩), .int .i64 (a : Int), .int .i64 (b : Int)] w fun e w' => e = .returned (.tuple #[.bool q, .nilIface]) ∧ Below w.heap.size w w' := by
  have i1 := isNode_any h a true (by simp; omega)
  have i2 := isNode_any h b true (by simp; omega)
  have hn60 := h.n60
  have c1 := h.c1
  obtain ⟨D, hD⟩ := h.map
  obtain ⟨O1, hO1⟩ : ∃ O1, O1 = Obj.cells #[.int .i64 (min a b : Nat), .int .i64 (max a b : Nat)] 44 := ⟨_, rfl⟩
  obtain ⟨Z, hZ⟩ : ∃ Z, Z = Obj.cells #[.int .i64 0, .bool false] 91 := ⟨_, rfl⟩
  have b1 : Below w.heap.size w (w.alloc O1).drew := ((Below.refl _ _).alloc (Nat.le_refl _) _).drew
  have b2 : Below w.heap.size w ((w.alloc O1).alloc Z).drew := (((Below.refl _ _).alloc (Nat.le_refl _) _).alloc (by simp) _).drew
  have b3 : Below w.heap.size w ((w.alloc Z).alloc O1).drew := (((Below.refl _ _).alloc (Nat.le_refl _) _).alloc (by simp) _).drew
  obtain ⟨k1, t1, l1⟩ := (hD.of_block (b1.block _ (map_lt hD.isMap))).look_ok (a := min a b) (b := max a b) (by omega) (by omega) q hq
  obtain ⟨k2, t2, l2⟩ := (hD.of_block (b2.block _ (map_lt hD.isMap))).look_ok (a := min a b) (b := max a b) (by omega) (by omega) q hq
  obtain ⟨k3, t3, l3⟩ := (hD.of_block (b3.block _ (map_lt hD.isMap))).look_ok (a := min a b) (b := max a b) (by omega) (by omega) q hq
  rw [hO1] at l1 b1
  rw [hO1, hZ] at l2 b2 l3 b3
  clear hD hO1 hZ h hq
  go_enter Tryz.func73, Tryz.ntmps73
  go_wp2_with fail
  refine i1.mono ?_
  rintro e w1 ⟨rfl, rfl⟩
  go_wp2_with fail
  refine i2.mono ?_
  rintro e w2 ⟨rfl, rfl⟩
  clear i1 i2
  go_wp2_with fail
  go_region_held3 (fun W => W.cell? ⟨G.g, 1, none⟩ = some (.map (some G.mb))) (first | (go_keep; done) | exact cell_keep b1 c1 | exact cell_keep b2 c1 | exact cell_keep b3 c1)
    (first
      | (go_at_call 70; refine (gedgeOf_any a b (by omega) (by omega)).mono ?_; rintro e w9 ⟨rfl, rfl⟩))
  all_goals
    go_wp2_with fail
    go_ret2
    exact ⟨rfl, (((Below.refl _ _).alloc (Nat.le_refl _) _).alloc (by simp) _).drew⟩

theorem results_row_tmp {P : Program} {fn : Func} {p u : Tmp} {ty : TypeId} (h : fn.results = #[.cell p ty, .tmp u]) (tmps : Array Value) (w : World) (g : Nat) (t : TypeId) (cs : Array Value) (fr : Nat × Nat) (d : TypeDesc)
    (hp : tmps.getD p undef = .pointer (some ⟨g, 0, none⟩)) (hg : w.heap[g]? = some (.cells cs t fr))
    (hu : P.underlying ty = some d) (hd : (match d with | .struct _ | .array _ _ => true | _ => false) = true) (hi : (P.info? ty).map (·.size) = some cs.size) :
    (results fn tmps).run P w = .ok (.tuple #[.agg cs, tmps.getD u undef]) w := by
  rw [results_cell_tmp h, hp]
  simp [asAddr, run_loadVar_row w g t ty cs fr d hg hu hd hi]

set_option maxRecDepth 1000000 in
theorem Tryz.sizeHeld : (Tryz.prog.info? 91).map (·.size) = some 2 := by kernel_rfl

def hcells (l : Nat) (t : Bool) : Nat → Value := fun i => if i = 0 then .int .i64 (l : Nat) else .bool t

theorem row_new (w : World) (l : Nat) (t : Bool) : (w.alloc (.cells #[.int .i64 (l : Nat), .bool t] 91)).rowIs w.heap.size 91 2 (hcells l t) :=
  World.rowIs_alloc w #[.int .i64 (l : Nat), .bool t] 91 (hcells l t) (fun i hi => by
    match i, hi with
    | 0, _ => rfl
    | 1, _ => rfl)

theorem row_block {b l : Nat} {t : Bool} (h : w.rowIs b 91 2 (hcells l t)) : w.heap[b]? = some (.cells #[.int .i64 (l : Nat), .bool t] 91 (0, 0)) := by
  obtain ⟨c, hb, hs, hc⟩ := h
  have e : c = #[.int .i64 (l : Nat), .bool t] := by
    obtain ⟨c⟩ := c
    match c, hs, hc with
    | [x, y], _, hc =>
      have h0 := hc 0 (by omega)
      have h1 := hc 1 (by omega)
      simp [hcells] at h0 h1
      rw [h0, h1]
  rw [hb, e]

theorem row_two {b l : Nat} {t : Bool} {f : Nat → Value} (h : w.rowIs b 91 2 f) : ((w.setCell ⟨b, 0, none⟩ (.int .i64 (l : Nat))).setCell ⟨b, 1, none⟩ (.bool t)).rowIs b 91 2 (hcells l t) := by
  refine ((h.set 0 _).set 1 _).congr fun i hi => ?_
  match i, hi with
  | 0, _ => rfl
  | 1, _ => rfl

set_option maxHeartbeats 1000000 in
theorem find_no (h : GMem w G A lv tr X) (a b : Int) (hn : ¬ ((0 ≤ a ∧ a < G.n) ∧ 0 ≤ b ∧ b < G.n)) :
    Calls Tryz.prog 69 #[.pointer (some ⟨G.g, 0, none⟩), .int .i64 a, .int .i64 b] w fun e w' => e = .returned (.tuple #[hv 0 false, .iface 102 (.int .i64 1)]) ∧ Below w.heap.size w w' := by
  have hb0 : Below w.heap.size w (w.alloc (.cells #[.int .i64 0, .bool false] 91)) := (Below.refl _ _).alloc (Nat.le_refl _) _
  have hh := has_no (h.below hb0) a b hn
  clear h hn
  go_enter Tryz.func69, Tryz.ntmps69
  go_wp2_with fail
  refine hh.mono ?_
  rintro e w1 ⟨rfl, rfl⟩
  go_wp2_with fail
  refine bodyPost_ret (results_row_tmp rfl _ _ w.heap.size 91 _ (0, 0) _ rfl (heap_alloc_new _ _) Tryz.underlying91 rfl Tryz.sizeHeld) rfl ?_
  exact ⟨rfl, hb0⟩

set_option maxHeartbeats 1000000 in
theorem find_none (h : GMem w G A lv tr X) (a b : Nat) (ha : a < G.n) (hb : b < G.n) (hn : (min a b, max a b) ∉ A) :
    Calls Tryz.prog 69 #[.pointer (some ⟨G.g, 0, none⟩), .int .i64 (a : Int), .int .i64 (b : Int)] w fun e w' => e = .returned (.tuple #[hv 0 false, .iface 102 (.int .i64 4)]) ∧ Below w.heap.size w w' := by
  have hb0 : Below w.heap.size w (w.alloc (.cells #[.int .i64 (0 : Nat), .bool false] 91)) := (Below.refl _ _).alloc (Nat.le_refl _) _
  have hh := has_any (h.below hb0) a b ha hb false (by simp [hn])
  have r0 := row_new w 0 false
  clear h hn
  go_enter Tryz.func69, Tryz.ntmps69
  go_wp2_with fail
  refine hh.mono ?_
  rintro e w1 ⟨rfl, hb1⟩
  clear hh
  have hb2 := below_step hb0 hb1
  have r1 := r0.of_block (hb1.block _ r0.lt)
  have f0 := r1.frozen 0
  have f1 := r1.frozen 1
  have q0 := r1.cell (i := 0) (by omega)
  have q1 := r1.cell (i := 1) (by omega)
  have HR : Hid (w1.rowIs w.heap.size 91 2 (hcells 0 false)) := r1
  clear r0 hb1 hb0 r1
  go_wp2_with fail
  refine bodyPost_ret (results_row_tmp rfl _ _ w.heap.size 91 _ (0, 0) _ rfl (row_block (row_two (l := 0) (t := false) HR.out)) Tryz.underlying91 rfl Tryz.sizeHeld) rfl ?_
  exact ⟨rfl, (hb2.setCell (Nat.le_refl _) _).setCell (Nat.le_refl _) _⟩

set_option maxRecDepth 100000 in
set_option maxHeartbeats 2000000 in
theorem find_any (h : GMem w G A lv tr X) (a b : Nat) (ha : a < G.n) (hb : b < G.n) (hn : (min a b, max a b) ∈ A) (l : Nat) (t : Bool) (hl : lv (min a b, max a b) = l) (ht : tr (min a b, max a b) = t) :
    Calls Tryz.prog 69 #[.pointer (some ⟨G.g, 0, none⟩), .int .i64 (a : Int), .int .i64 (b : Int)] w fun e w' => e = .returned (.tuple #[hv l t, .nilIface]) ∧ Below w.heap.size w w' := by
  have hb0 : Below w.heap.size w (w.alloc (.cells #[.int .i64 (0 : Nat), .bool false] 91)) := (Below.refl _ _).alloc (Nat.le_refl _) _
  have hh := has_any (h.below hb0) a b ha hb true (by simp [hn])
  have r0 := row_new w 0 false
  have hn60 := h.n60
  have HH : Hid (GMem w G A lv tr X ∧ (min a b, max a b) ∈ A ∧ lv (min a b, max a b) = l ∧ tr (min a b, max a b) = t) := ⟨h, hn, hl, ht⟩
  clear h hn hl ht
  go_enter Tryz.func69, Tryz.ntmps69
  go_wp2_with fail
  refine hh.mono ?_
  rintro e w1 ⟨rfl, hb1⟩
  clear hh
  have hb2 := below_step hb0 hb1
  have r1 := r0.of_block (hb1.block _ r0.lt)
  have h1 := HH.out.1.below hb2
  have c1 := h1.c1
  have he : Calls Tryz.prog 70 #[.int .i64 (a : Int), .int .i64 (b : Int)] w1.drew fun e w' => e = .returned (ev (min a b : Nat) (max a b : Nat)) ∧ w' = (w1.alloc (.cells #[.int .i64 (min a b : Nat), .int .i64 (max a b : Nat)] 44)).drew := gedgeOf_any a b (by omega) (by omega)
  have b1 : Below w1.heap.size w1 (w1.alloc (.cells #[.int .i64 (min a b : Nat), .int .i64 (max a b : Nat)] 44)).drew := ((Below.refl _ _).alloc (Nat.le_refl _) _).drew
  generalize (w1.alloc (.cells #[.int .i64 (min a b : Nat), .int .i64 (max a b : Nat)] 44)).drew = W9 at he b1
  have hb3 := below_step hb2 b1
  have r2 := r1.of_block (b1.block _ r1.lt)
  obtain ⟨D, hD⟩ := (h1.below b1).map
  have l1 := hD.look (a := min a b) (b := max a b) (by omega) (by omega) HH.out.2.1
  rw [HH.out.2.2.1, HH.out.2.2.2] at l1
  have g1 := (h1.below b1).c1
  have f0 := r2.frozen 0
  have f1 := r2.frozen 1
  have q0 := r2.cell (i := 0) (by omega)
  have q1 := r2.cell (i := 1) (by omega)
  have HR : Hid (W9.rowIs w.heap.size 91 2 (hcells 0 false)) := r2
  have g2 : ((W9.setCell ⟨w.heap.size, 0, none⟩ (.int .i64 (l : Nat))).setCell ⟨w.heap.size, 1, none⟩ (.bool t)).cell? ⟨G.g, 1, none⟩ = some (.map (some G.mb)) := cell_keep ((hb3.setCell (Nat.le_refl _) _).setCell (Nat.le_refl _) _) HH.out.1.c1
  clear r0 r1 hb0 hb1 hb2 r2 h1 hD
  dsimp only [hv] at l1
  go_wp2_with fail
  go_region_held3 (fun W => W.cell? ⟨G.g, 1, none⟩ = some (.map (some G.mb))) (first | (go_keep; done) | exact c1 | exact g1 | exact g2)
    (first
      | (go_at_call 70; refine he.mono ?_; rintro e w9 ⟨rfl, rfl⟩))
  all_goals
    go_wp2_with fail
    refine bodyPost_ret (results_row_tmp rfl _ _ w.heap.size 91 _ (0, 0) _ rfl (row_block (row_two (l := l) (t := t) HR.out)) Tryz.underlying91 rfl Tryz.sizeHeld) rfl ?_
    exact ⟨rfl, (hb3.setCell (Nat.le_refl _) _).setCell (Nat.le_refl _) _⟩

theorem GMem.zero (h : GMem w G A lv tr X) : ∃ p, FAt w (G.L 0) (X 0) p := h.fo 0 h.k0

set_option maxHeartbeats 400000 in
theorem joined_no (h : GMem w G A lv tr X) (a b : Int) (hn : ¬ ((0 ≤ a ∧ a < G.n) ∧ 0 ≤ b ∧ b < G.n)) :
    Calls Tryz.prog 10 #[.pointer (some ⟨G.g, 0, none⟩), .int .i64 a, .int .i64 b] w fun e w' => e = .returned (.tuple #[.bool false, .iface 102 (.int .i64 1)]) ∧ Below w.heap.size w w' := by
  obtain ⟨p, f⟩ := h.zero
  have hs := same_no f a b (by rw [h.ln 0 h.k0]; exact hn)
  have c2 := h.c2
  have r0 := h.row 0 h.k0
  have k0 := h.k0
  have i1 : (0 : Int) < (G.K : Nat) := by omega
  clear h f hn
  go_enter Tryz.func10, Tryz.ntmps10
  go_wp2_with fail
  refine hs.mono ?_
  rintro e w1 ⟨rfl, hb⟩
  go_wp2_with fail
  go_ret2
  exact ⟨rfl, hb⟩

set_option maxHeartbeats 400000 in
theorem joined_any (h : GMem w G A lv tr X) {p : Nat → Nat} (f : FAt w (G.L 0) (X 0) p) (a b : Nat) (ha : a < G.n) (hb : b < G.n) :
    Calls Tryz.prog 10 #[.pointer (some ⟨G.g, 0, none⟩), .int .i64 (a : Int), .int .i64 (b : Int)] w fun e w' => e = .returned (.tuple #[.bool (decide (p a = p b)), .nilIface]) ∧ Below w.heap.size w w' := by
  have hs := same_any f a b (by rw [h.ln 0 h.k0]; exact ha) (by rw [h.ln 0 h.k0]; exact hb)
  have c2 := h.c2
  have r0 := h.row 0 h.k0
  have k0 := h.k0
  have i1 : (0 : Int) < (G.K : Nat) := by omega
  generalize decide (p a = p b) = q at *
  clear h f
  go_enter Tryz.func10, Tryz.ntmps10
  go_wp2_with fail
  refine hs.mono ?_
  rintro e w1 ⟨rfl, hb⟩
  go_wp2_with fail
  go_ret2
  exact ⟨rfl, hb⟩

set_option maxHeartbeats 400000 in
theorem gsize_any (h : GMem w G A lv tr X) {p : Nat → Nat} (f : FAt w (G.L 0) (X 0) p) (a : Nat) (ha : a < G.n) (N : Nat) (hN : (nodesOf G.n p (p a)).length = N) :
    Calls Tryz.prog 22 #[.pointer (some ⟨G.g, 0, none⟩), .int .i64 (a : Int)] w fun e w' => e = .returned (.tuple #[.int .i64 (N : Nat), .nilIface]) ∧ Below w.heap.size w w' := by
  have hs := size_tree f a (by rw [h.ln 0 h.k0]; exact ha) N (by rw [h.ln 0 h.k0]; exact hN)
  have c2 := h.c2
  have r0 := h.row 0 h.k0
  have k0 := h.k0
  have i1 : (0 : Int) < (G.K : Nat) := by omega
  clear h f hN
  go_enter Tryz.func22, Tryz.ntmps22
  go_wp2_with fail
  refine hs.mono ?_
  rintro e w1 ⟨rfl, hb⟩
  go_wp2_with fail
  go_ret2
  exact ⟨rfl, hb⟩

end Go.Proofs.YtcfemppdeidjmacGreat.Gr

namespace Go.Proofs.YtcfemppdeidjmacGreat.Gr
set_option linter.unusedSectionVars false
variable [Inhabited Zed]
open Go.RowKit Go.Deep Go.Maps
open Go.RowKit (Below)
set_option linter.unusedVariables false

variable {w w' : World} {G : GPl} {L : Pl} {E : List (Nat × Nat)} {p : Nat → Nat} {A A' : List (Nat × Nat)} {lv : Nat × Nat → Nat} {tr : Nat × Nat → Bool} {X Y : Nat → List (Nat × Nat)} {a b : Nat}

structure Side (w : World) (L : Pl) (b7 b8 s : Nat) : Prop where
  c7 : w.cell? ⟨b7, 0, none⟩ = some (.pointer (some ⟨L.g, 0, none⟩))
  c8 : w.cell? ⟨b8, 0, none⟩ = some (.int .i64 (s : Nat))

def sideFn (b7 b8 : Nat) : Value := .func (.func 186) #[] #[.pointer (some ⟨b7, 0, none⟩), .pointer (some ⟨b8, 0, none⟩)]

theorem Side.below {b7 b8 s : Nat} (h : Side w L b7 b8 s) (hb : Below w.heap.size w w') : Side w' L b7 b8 s := ⟨cell_keep hb h.c7, cell_keep hb h.c8⟩

set_option maxHeartbeats 400000 in
theorem side_any (f : FAt w L E p) {b7 b8 s : Nat} (h : Side w L b7 b8 s) (hs : s < L.n) (x : Nat) (hx : x < L.n) (q : Bool) (hq : decide (p s = p x) = q) :
    Calls Tryz.prog 186 #[.int .i64 (x : Nat), .pointer (some ⟨b7, 0, none⟩), .pointer (some ⟨b8, 0, none⟩)] w fun e w' => e = .returned (.bool q) ∧ Below w.heap.size w w' := by
  have hh := same_any f s x hs hx
  rw [hq] at hh
  obtain ⟨c7, c8⟩ := h
  clear f hq
  go_enter Tryz.func186, Tryz.ntmps186
  go_wp2_with fail
  refine hh.mono ?_
  rintro e w1 ⟨rfl, hb⟩
  go_wp2_with fail
  go_ret
  exact ⟨rfl, hb⟩

structure Lesser (n : Nat) (p : Nat → Nat) (a b s t : Nat) : Prop where
  one : (s = a ∧ t = b) ∨ (s = b ∧ t = a)
  le : (nodesOf n p (p s)).length ≤ (nodesOf n p (p t)).length

set_option maxRecDepth 100000 in
set_option maxHeartbeats 1000000 in
theorem lesser_any (h : GMem w G A lv tr X) (k : Nat) (hk : k < G.K) (f : FAt w (G.L k) (X k) p) (ha : a < G.n) (hb : b < G.n) :
    Calls Tryz.prog 140 #[.pointer (some ⟨G.g, 0, none⟩), ev a b, .int .i64 (k : Nat)] w fun e w' => ∃ b7 b8 s t, e = .returned (sideFn b7 b8) ∧ Below w.heap.size w w' ∧ Side w' (G.L k) b7 b8 s ∧ Lesser G.n p a b s t ∧ w.heap.size ≤ b7 ∧ w.heap.size ≤ b8 := by
  have hln := h.ln k hk
  have c2 := h.c2
  have rk := h.row k hk
  have i0 : (0 : Int) ≤ (k : Int) := by omega
  have i1 : (k : Int) < (G.K : Int) := by omega
  obtain ⟨w1, hw1⟩ : ∃ w1, w1 = w.alloc (.cells #[.int .i64 (a : Int), .int .i64 (b : Int)] 44) := ⟨_, rfl⟩
  have b1 : Below w.heap.size w w1 := by rw [hw1]; exact (Below.refl _ _).alloc (Nat.le_refl _) _
  have s1 : w1.heap.size = w.heap.size + 1 := by rw [hw1]; simp
  have e0 : w1.cell? ⟨w.heap.size, 0, none⟩ = some (.int .i64 (a : Int)) := by rw [hw1]; simp
  have e1 : w1.cell? ⟨w.heap.size, 1, none⟩ = some (.int .i64 (b : Int)) := by rw [hw1]; simp
  obtain ⟨w2, hw2⟩ : ∃ w2, w2 = w1.alloc (.cells #[.pointer (some ⟨(G.L k).g, 0, none⟩)] 40) := ⟨_, rfl⟩
  have b2 : Below w1.heap.size w1 w2 := by rw [hw2]; exact (Below.refl _ _).alloc (Nat.le_refl _) _
  have s2 : w2.heap.size = w1.heap.size + 1 := by rw [hw2]; simp
  have q7 : w2.cell? ⟨w1.heap.size, 0, none⟩ = some (.pointer (some ⟨(G.L k).g, 0, none⟩)) := by rw [hw2]; simp
  obtain ⟨w3, hw3⟩ : ∃ w3, w3 = w2.alloc (.cells #[.int .i64 (a : Int)] 3) := ⟨_, rfl⟩
  have b3 : Below w2.heap.size w2 w3 := by rw [hw3]; exact (Below.refl _ _).alloc (Nat.le_refl _) _
  have s3 : w3.heap.size = w2.heap.size + 1 := by rw [hw3]; simp
  have q8 : w3.rowIs w2.heap.size 3 1 (fun _ => .int .i64 (a : Int)) := by
    rw [hw3]
    exact World.rowIs_alloc w2 #[.int .i64 (a : Int)] 3 _ (fun i hi => by match i, hi with | 0, _ => rfl)
  have b03 : Below w.heap.size w w3 := below_step (below_step b1 b2) b3
  have f3 := f.below b03
  have g1 := cell_keep b1 c2
  have g2 := cell_keep b1 rk
  have x0 := cell_keep b3 (cell_keep b2 e0)
  have x1 := cell_keep b3 (cell_keep b2 e1)
  have y0 := cell_keep b2 e0
  have y7 := cell_keep b3 q7
  obtain ⟨bs, hbs⟩ : ∃ bs, bs = w2.heap.size := ⟨_, rfl⟩
  obtain ⟨bf, hbf⟩ : ∃ bf, bf = w1.heap.size := ⟨_, rfl⟩
  rw [← hbs] at q8
  rw [← hbf] at q7 y7
  obtain ⟨na, hna⟩ : ∃ na, (nodesOf G.n p (p a)).length = na := ⟨_, rfl⟩
  obtain ⟨nb, hnb⟩ : ∃ nb, (nodesOf G.n p (p b)).length = nb := ⟨_, rfl⟩
  have hz1 := size_tree f3 a (by rw [hln]; exact ha) na (by rw [hln]; exact hna)
  have HZ2 : Hid (∀ W, Below w3.heap.size w3 W → Calls Tryz.prog 62 #[.pointer (some ⟨(G.L k).g, 0, none⟩), .int .i64 (b : Int)] W fun e w' => e = .returned (.tuple #[.int .i64 (nb : Nat), .nilIface]) ∧ Below W.heap.size W w') := fun W hW => size_tree (f3.below hW) b (by rw [hln]; exact hb) nb (by rw [hln]; exact hnb)
  have HB : Hid (Below w.heap.size w w3) := b03
  have HQ8 : Hid (w3.rowIs bs 3 1 (fun _ => .int .i64 (a : Int))) := q8
  have HX : Hid (w3.cell? ⟨w.heap.size, 0, none⟩ = some (.int .i64 (a : Int)) ∧ w3.cell? ⟨w.heap.size, 1, none⟩ = some (.int .i64 (b : Int)) ∧ w3.cell? ⟨bf, 0, none⟩ = some (.pointer (some ⟨(G.L k).g, 0, none⟩))) := ⟨x0, x1, y7⟩
  have HN : Hid ((nodesOf G.n p (p a)).length = na ∧ (nodesOf G.n p (p b)).length = nb ∧ w.heap.size ≤ bf ∧ w.heap.size ≤ bs) := ⟨hna, hnb, by omega, by omega⟩
  have HW : Hid (w3 = w2.alloc (.cells #[.int .i64 (a : Int)] 3) ∧ w2 = w1.alloc (.cells #[.pointer (some ⟨(G.L k).g, 0, none⟩)] 40) ∧ bs = w2.heap.size ∧ bf = w1.heap.size) := ⟨hw3, hw2, hbs, hbf⟩
  have hna60 : na ≤ 60 := by
    have := nodesOf_nodup G.n p (p a) |>.length_le_of_subset (l₂ := List.range G.n) (fun x hx => List.mem_range.2 (mem_nodesOf.1 hx).1)
    have := h.n60
    simp at *
    omega
  have hnb60 : nb ≤ 60 := by
    have := nodesOf_nodup G.n p (p b) |>.length_le_of_subset (l₂ := List.range G.n) (fun x hx => List.mem_range.2 (mem_nodesOf.1 hx).1)
    have := h.n60
    simp at *
    omega
  have hbf' : bf = w.heap.size + 1 := by omega
  have hbs' : bs = w.heap.size + 1 + 1 := by omega
  have HF : Hid (bf = w.heap.size + 1 ∧ bs = w.heap.size + 1 + 1) := ⟨hbf', hbs'⟩
  have HW3 : Hid (w3 = ((w.alloc (.cells #[.int .i64 (a : Int), .int .i64 (b : Int)] 44)).alloc (.cells #[.pointer (some ⟨(G.L k).g, 0, none⟩)] 40)).alloc (.cells #[.int .i64 (a : Int)] 3)) := by
    show w3 = _
    rw [hw3, hw2, hw1]
  rw [hw1] at g1 g2
  clear h f f3 b1 b2 b3 b03 hna hnb s1 s2 s3 q8 hw1 hw2 hw3 hbs hbf hbf' hbs' HW e0 e1 q7 x0 x1 y0 y7 c2 rk
  clear w1 w2
  go_enter Tryz.func140, Tryz.ntmps140
  dsimp only [ev]
  go_wp2_with fail
  rw [← HW3.out]
  rw [← HF.out.2]
  rw [← HF.out.1]
  obtain ⟨x0, x1, y7⟩ := HX.out
  clear g1 g2 HW3 HF
  refine hz1.mono ?_
  rintro e w4 ⟨rfl, b4⟩
  clear hz1
  replace x0 := cell_keep b4 x0
  replace x1 := cell_keep b4 x1
  replace y7 := cell_keep b4 y7
  have r8 := HQ8.out.of_block (b4.block _ HQ8.out.lt)
  have hz2 := HZ2.out w4 b4
  have HB4 : Hid (Below w.heap.size w w4) := below_step HB.out b4
  have HR8 : Hid (w4.rowIs bs 3 1 (fun _ => .int .i64 (a : Int))) := r8
  clear r8 b4
  go_wp2_with fail
  refine hz2.mono ?_
  rintro e w5 ⟨rfl, b5⟩
  clear hz2
  replace x0 := cell_keep b5 x0
  replace x1 := cell_keep b5 x1
  replace y7 := cell_keep b5 y7
  have r8 := HR8.out.of_block (b5.block _ HR8.out.lt)
  have HB5 : Hid (Below w.heap.size w w5) := below_step HB4.out b5
  have HR9 : Hid (w5.rowIs bs 3 1 (fun _ => .int .i64 (a : Int))) := r8
  have f8 := r8.frozen 0
  have q8 := r8.cell (i := 0) (by omega)
  clear r8 b5
  by_cases hlt : nb < na
  · have t1 : ((nb : Nat) : Int) < (na : Nat) := by omega
    go_wp2_with fail
    go_ret
    obtain ⟨hna, hnb, hf, hsb⟩ := HN.out
    have r9 := HR9.out.set 0 (.int .i64 (b : Int))
    have hnf : bf ≠ bs := fun e => by
      have h1 := HR9.out.cell (i := 0) (by omega)
      rw [← e, y7] at h1
      cases h1
    exact ⟨bf, bs, b, a, rfl, HB5.out.setCell hsb _, ⟨(World.cell?_setCell_far _ _ _ _ (fun e => hnf e.symm)).trans y7, r9.cell (i := 0) (by omega)⟩, ⟨Or.inr ⟨rfl, rfl⟩, by rw [hna, hnb]; omega⟩, hf, hsb⟩
  · have t1 : ¬ ((nb : Nat) : Int) < (na : Nat) := by omega
    go_wp2_with fail
    go_ret
    obtain ⟨hna, hnb, hf, hsb⟩ := HN.out
    exact ⟨bf, bs, a, b, rfl, HB5.out, ⟨y7, HR9.out.cell (i := 0) (by omega)⟩, ⟨Or.inl ⟨rfl, rfl⟩, by rw [hna, hnb]; omega⟩, hf, hsb⟩

structure Seen (w : World) (L : Pl) (bk bi k b7 b8 s : Nat) : Prop where
  ck : w.cell? ⟨bk, 0, none⟩ = some (.int .i64 (k : Nat))
  ci : w.cell? ⟨bi, 0, none⟩ = some (sideFn b7 b8)
  side : Side w L b7 b8 s

theorem Seen.below {bk bi k b7 b8 s : Nat} (h : Seen w L bk bi k b7 b8 s) (hb : Below w.heap.size w w') : Seen w' L bk bi k b7 b8 s := ⟨cell_keep hb h.ck, cell_keep hb h.ci, h.side.below hb⟩

set_option maxRecDepth 100000 in
set_option maxHeartbeats 1000000 in
theorem pick1_any (f : FAt w L E p) {bk bi k b7 b8 s : Nat} (h : Seen w L bk bi k b7 b8 s) (hs : s < L.n) (x y : Nat) (hx : x < L.n) (l : Nat) (t : Bool) :
    Calls Tryz.prog 141 #[ev x y, hv l t, .pointer (some ⟨bk, 0, none⟩), .pointer (some ⟨bi, 0, none⟩)] w fun e w' => e = .returned (.bool (t && decide (l = k) && decide (p s = p x))) ∧ Below w.heap.size w w' := by
  have hb2 : Below w.heap.size w ((w.alloc (.cells #[.int .i64 (x : Int), .int .i64 (y : Int)] 44)).alloc (.cells #[.int .i64 (l : Int), .bool t] 91)) := ((Below.refl _ _).alloc (Nat.le_refl _) _).alloc (by simp) _
  have h2 := h.below hb2
  have hc := side_any (f.below hb2) h2.side hs x hx _ rfl
  have ck := h2.ck
  have ci := h2.ci
  generalize decide (p s = p x) = q at *
  have eg : ∀ args w, (callFunc 186 args).run Tryz.prog w = .ok (.enter 186 args) w := enters_of Tryz.func186 (by kernel_rfl) rfl
  clear f h h2
  dsimp only [sideFn] at ci
  cases t with
  | false =>
    go_enter Tryz.func141, Tryz.ntmps141
    dsimp only [ev, hv]
    go_wp2_with fail
    go_ret
    exact ⟨rfl, hb2⟩
  | true =>
    by_cases hl : l = k
    · have e1 : (((l : Nat) : Int) == ((k : Nat) : Int)) = true := by rw [hl]; simp
      rw [decide_eq_true hl]
      clear hl
      go_enter Tryz.func141, Tryz.ntmps141
      dsimp only [ev, hv]
      go_wp2_with fail
      refine hc.mono ?_
      rintro e w1 ⟨rfl, hb⟩
      go_wp2_with fail
      go_ret
      exact ⟨rfl, below_step hb2 hb⟩
    · have e1 : (((l : Nat) : Int) == ((k : Nat) : Int)) = false := by rw [beq_eq_false_iff_ne]; omega
      rw [decide_eq_false hl]
      clear hl
      go_enter Tryz.func141, Tryz.ntmps141
      dsimp only [ev, hv]
      go_wp2_with fail
      go_ret
      exact ⟨rfl, hb2⟩

set_option maxRecDepth 100000 in
set_option maxHeartbeats 1000000 in
theorem pick2_any (f : FAt w L E p) {bk bi k b7 b8 s : Nat} (h : Seen w L bk bi k b7 b8 s) (hs : s < L.n) (x y : Nat) (hx : x < L.n) (hy : y < L.n) (l : Nat) (t : Bool) :
    Calls Tryz.prog 143 #[ev x y, hv l t, .pointer (some ⟨bk, 0, none⟩), .pointer (some ⟨bi, 0, none⟩)] w fun e w' => e = .returned (.bool (!t && decide (l = k) && (decide (p s = p x) || decide (p s = p y)))) ∧ Below w.heap.size w w' := by
  have hb2 : Below w.heap.size w ((w.alloc (.cells #[.int .i64 (x : Int), .int .i64 (y : Int)] 44)).alloc (.cells #[.int .i64 (l : Int), .bool t] 91)) := ((Below.refl _ _).alloc (Nat.le_refl _) _).alloc (by simp) _
  have h2 := h.below hb2
  have f2 := f.below hb2
  have hc := side_any f2 h2.side hs x hx _ rfl
  have HC : Hid (∀ W, Below ((w.alloc (.cells #[.int .i64 (x : Int), .int .i64 (y : Int)] 44)).alloc (.cells #[.int .i64 (l : Int), .bool t] 91)).heap.size ((w.alloc (.cells #[.int .i64 (x : Int), .int .i64 (y : Int)] 44)).alloc (.cells #[.int .i64 (l : Int), .bool t] 91)) W → Calls Tryz.prog 186 #[.int .i64 (y : Nat), .pointer (some ⟨b7, 0, none⟩), .pointer (some ⟨b8, 0, none⟩)] W fun e w' => e = .returned (.bool (decide (p s = p y))) ∧ Below W.heap.size W w') := fun W hW => side_any (f2.below hW) (h2.side.below hW) hs y hy _ rfl
  have ck := h2.ck
  have ci := h2.ci
  have y1 : ((w.alloc (.cells #[.int .i64 (x : Int), .int .i64 (y : Int)] 44)).alloc (.cells #[.int .i64 (l : Int), .bool t] 91)).cell? ⟨w.heap.size, 1, none⟩ = some (.int .i64 (y : Int)) := by simp
  generalize decide (p s = p x) = q at *
  generalize decide (p s = p y) = q' at *
  have eg : ∀ args w, (callFunc 186 args).run Tryz.prog w = .ok (.enter 186 args) w := enters_of Tryz.func186 (by kernel_rfl) rfl
  clear f h h2 f2
  dsimp only [sideFn] at ci
  cases t with
  | true =>
    go_enter Tryz.func143, Tryz.ntmps143
    dsimp only [ev, hv]
    go_wp2_with fail
    go_ret
    exact ⟨rfl, hb2⟩
  | false =>
    by_cases hl : l = k
    · have e1 : (((l : Nat) : Int) == ((k : Nat) : Int)) = true := by rw [hl]; simp
      rw [decide_eq_true hl]
      clear hl
      cases q with
      | true =>
        go_enter Tryz.func143, Tryz.ntmps143
        dsimp only [ev, hv]
        go_wp2_with fail
        refine hc.mono ?_
        rintro e w1 ⟨rfl, hb⟩
        go_wp2_with fail
        go_ret
        exact ⟨rfl, below_step hb2 hb⟩
      | false =>
        go_enter Tryz.func143, Tryz.ntmps143
        dsimp only [ev, hv]
        go_wp2_with fail
        refine hc.mono ?_
        rintro e w1 ⟨rfl, hb⟩
        have hd := HC.out w1 hb
        have ci1 := cell_keep hb ci
        have y2 := cell_keep hb y1
        have hb3 := below_step hb2 hb
        clear hc HC hb2 hb ck ci y1
        go_wp2_with fail
        refine hd.mono ?_
        rintro e w2 ⟨rfl, hb⟩
        go_wp2_with fail
        go_ret
        exact ⟨by simp, below_step hb3 hb⟩
    · have e1 : (((l : Nat) : Int) == ((k : Nat) : Int)) = false := by rw [beq_eq_false_iff_ne]; omega
      rw [decide_eq_false hl]
      clear hl
      go_enter Tryz.func143, Tryz.ntmps143
      dsimp only [ev, hv]
      go_wp2_with fail
      go_ret
      exact ⟨rfl, hb2⟩

theorem pickT_any (x y l : Nat) (t : Bool) (w : World) : Calls Tryz.prog 48 #[ev x y, hv l t] w fun e w' => e = .returned (.bool t) ∧ Below w.heap.size w w' := by
  go_enter Tryz.func48, Tryz.ntmps48
  dsimp only [ev, hv]
  go_wp2_with fail
  go_ret
  exact ⟨rfl, ((Below.refl _ _).alloc (Nat.le_refl _) _).alloc (by simp) _⟩

theorem pickA_any (x y l : Nat) (t : Bool) (w : World) : Calls Tryz.prog 47 #[ev x y, hv l t] w fun e w' => e = .returned (.bool true) ∧ Below w.heap.size w w' := by
  go_enter Tryz.func47, Tryz.ntmps47
  dsimp only [ev, hv]
  go_wp2_with fail
  go_ret
  exact ⟨rfl, ((Below.refl _ _).alloc (Nat.le_refl _) _).alloc (by simp) _⟩

end Go.Proofs.YtcfemppdeidjmacGreat.Gr
