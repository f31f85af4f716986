/-
  List of package seq: all items of a row in a new list, by a closure that calls itself.
-/
import Derived.Test.YthhojlbfnffdeabGreatWalks3
import Derived.Deep.RegionLaw
import Derived.Laws.EntriesVeiled
namespace Go.Proofs.YthhojlbfnffdeabGreat
open Go.RowKit Go.Deep

theorem Tryz.infoInt : (Tryz.prog.info? 3).map (fun i => (i.zero, i.size, i.bytes)) = some (some (.int .i64 0), 1, 8) := by kernel_rfl

theorem make_row (n : Nat) (hn : n ≤ 1000000) : ∃ CC : Array Value, CC.size = n ∧
    ∀ W : World, (Instr.makeSlice 33 (.int .i64 0) (.int .i64 (n : Int))).run Tryz.prog W = .ok (.slice (some ⟨W.heap.size, 0, none⟩) 0 n) (W.alloc (.cells CC 3)) := by
  obtain ⟨i0, hi, hz0, hz1, hz2⟩ := info_parts Tryz.infoInt
  refine ⟨madeCells #[.int .i64 0] n, size_madeCells _ _, fun W => ?_⟩
  have h := run_make (P := Tryz.prog) W 33 3 i0 (.int .i64 0) Tryz.underlying33 hi hz0 .i64 .i64 0 n (Int.le_refl _) (by omega) (by rw [hz2]; omega) (by omega)
  rw [hz1, Nat.mul_one] at h
  simpa [Value.cells] using h

/-- The function value that goes through a tree, with its two variables. -/
def walkFn (gw go : Nat) : Value := Value.func (Fn.func 94) #[] #[Value.pointer (some ⟨gw, 0, none⟩), Value.pointer (some ⟨go, 0, none⟩)]

/-- What holds while a tree is gone through: all that was there is as it was; the two variables, and the list so far. -/
structure Gone (w0 w : World) (gw go g cap : Nat) (xs : List Int) : Prop where
  below : Below w0.heap.size w0 w
  n1 : w0.heap.size ≤ gw
  n2 : w0.heap.size ≤ go
  n3 : w0.heap.size ≤ g
  d1 : g ≠ gw
  d2 : g ≠ go
  d3 : gw ≠ go
  fcell : w.cell? ⟨gw, 0, none⟩ = some (Value.func (Fn.func 94) #[] #[Value.pointer (some ⟨gw, 0, none⟩), Value.pointer (some ⟨go, 0, none⟩)])
  ocell : w.cell? ⟨go, 0, none⟩ = some (.slice (some ⟨g, 0, none⟩) xs.length cap)
  ofro : w.frozen? ⟨go, 0, none⟩ = false
  there : ∀ j, j < cap → (w.cell? ⟨g, j, none⟩).isSome = true ∧ w.frozen? ⟨g, j, none⟩ = false
  cells : ∀ j, j < xs.length → w.cell? ⟨g, j, none⟩ = some (.int .i64 (xs.getD j 0))

theorem Gone.drew {w0 w : World} {gw go g cap : Nat} {xs : List Int} (h : Gone w0 w gw go g cap xs) : Gone w0 w.drew gw go g cap xs :=
  ⟨h.below.drew, h.n1, h.n2, h.n3, h.d1, h.d2, h.d3, h.fcell, h.ocell, h.ofro, h.there, h.cells⟩

theorem Gone.grown {w0 w w' : World} {gw go g cap : Nat} {xs : List Int} (h : Gone w0 w gw go g cap xs) (hb : Below w.heap.size w w') : Gone w0 w' gw go g cap xs := by
  have z1 : gw < w.heap.size := World.block_lt_of_cell? _ _ h.fcell
  have z2 : go < w.heap.size := World.block_lt_of_cell? _ _ h.ocell
  have z3 : ∀ j, j < cap → g < w.heap.size := fun j hj => by
    obtain ⟨v, hv⟩ := Option.isSome_iff_exists.1 (h.there j hj).1
    exact World.block_lt_of_cell? _ _ hv
  refine ⟨below_step h.below hb, h.n1, h.n2, h.n3, h.d1, h.d2, h.d3, cell_keep hb h.fcell, cell_keep hb h.ocell, (hb.frozen (p := ⟨go, 0, none⟩) z2).trans h.ofro, fun j hj => ?_, fun j hj => cell_keep hb (h.cells j hj)⟩
  rw [hb.cell (p := ⟨g, j, none⟩) (z3 j hj), hb.frozen (p := ⟨g, j, none⟩) (z3 j hj)]
  exact h.there j hj

theorem cs_other {w : World} {a b : Addr} {v : Value} (h : a ≠ b) : (w.setCell a v).cell? b = w.cell? b := World.cell?_setCell_other (h := h) ..
theorem cs_same {w : World} {a : Addr} {v u : Value} (h : w.cell? a = some u) : (w.setCell a v).cell? a = some v := World.cell?_setCell_same (h := h) ..

theorem Gone.push {w0 w : World} {gw go g cap : Nat} {ys : List Int} (h : Gone w0 w gw go g cap ys) (hr : ys.length + 1 ≤ cap) (a : Int) :
    Gone w0 ((w.setCells g ys.length [Value.int IntKind.i64 a]).setCell ⟨go, 0, none⟩ (Value.slice (some ⟨g, 0, none⟩) (ys.length + 1) cap)) gw go g cap (ys ++ [a]) := by
  show Gone w0 ((w.setCell ⟨g, ys.length, none⟩ (Value.int IntKind.i64 a)).setCell ⟨go, 0, none⟩ (Value.slice (some ⟨g, 0, none⟩) (ys.length + 1) cap)) gw go g cap (ys ++ [a])
  obtain ⟨old, hold⟩ := Option.isSome_iff_exists.1 (h.there ys.length (by omega)).1
  have d1 := h.d1
  have d2 := h.d2
  have d3 := h.d3
  have off : ∀ (p : Addr), p.block ≠ g → p.block ≠ go → ((w.setCell ⟨g, ys.length, none⟩ (Value.int IntKind.i64 a)).setCell ⟨go, 0, none⟩ (Value.slice (some ⟨g, 0, none⟩) (ys.length + 1) cap)).cell? p = w.cell? p := fun p h1 h2 => by
    rw [cs_other (fun e => h2 (by rw [← e])), cs_other (fun e => h1 (by rw [← e]))]
  have inG : ∀ j, ((w.setCell ⟨g, ys.length, none⟩ (Value.int IntKind.i64 a)).setCell ⟨go, 0, none⟩ (Value.slice (some ⟨g, 0, none⟩) (ys.length + 1) cap)).cell? ⟨g, j, none⟩ = if j = ys.length then some (Value.int IntKind.i64 a) else w.cell? ⟨g, j, none⟩ := fun j => by
    rw [cs_other (by simp only [ne_eq, Addr.mk.injEq, not_and]; omega)]
    split
    · rename_i e; subst e; exact cs_same hold
    · exact cs_other (by simp only [ne_eq, Addr.mk.injEq, not_and]; omega)
  refine ⟨(h.below.setCell (p := ⟨g, ys.length, none⟩) h.n3 _).setCell (p := ⟨go, 0, none⟩) h.n2 _, h.n1, h.n2, h.n3, d1, d2, d3, ?_, ?_, ?_, fun j hj => ⟨?_, ?_⟩, fun j hj => ?_⟩
  · rw [off _ (by show gw ≠ g; omega) (by show gw ≠ go; omega)]; exact h.fcell
  · rw [List.length_append, List.length_singleton]
    exact cs_same (u := _) (by rw [cs_other (by simp only [ne_eq, Addr.mk.injEq, not_and]; omega)]; exact h.ocell)
  · rw [World.frozen?_setCell, World.frozen?_setCell]; exact h.ofro
  · rw [inG]; split
    · rfl
    · exact (h.there j hj).1
  · rw [World.frozen?_setCell, World.frozen?_setCell]; exact (h.there j hj).2
  · rw [List.length_append, List.length_singleton] at hj
    rw [inG]
    split
    · rename_i e; subst e; simp
    · rw [h.cells j (by omega)]
      simp only [List.getD_eq_getElem?_getD]
      rw [List.getElem?_append_left (by omega)]

def WalkSaid (T : BT Int) : Prop := ∀ {u : Option Addr} {w0 w : World} {gw go g cap : Nat} {xs : List Int}, At w0 u T → Gone w0 w gw go g cap xs → xs.length + sz T ≤ cap → cap < 1000000 →
  Calls Tryz.prog 94 #[.pointer u, .pointer (some ⟨gw, 0, none⟩), .pointer (some ⟨go, 0, none⟩)] w fun e w' => e = .returned (.tuple #[]) ∧ Gone w0 w' gw go g cap (xs ++ items T)

set_option maxHeartbeats 400000 in
theorem walk_nil : WalkSaid .nil := by
  intro u w0 w gw go g cap xs h hg _ _
  obtain rfl := h.open_nil
  go_enter Tryz.func94, Tryz.ntmps94
  go_wp2_with fail
  refine bodyPost_ret (results_none rfl _ _ _) rfl ?_
  exact ⟨rfl, by simpa [items] using hg⟩

set_option maxHeartbeats 1000000 in
theorem walk_node {b o : Nat} {a : Int} {l r : BT Int} (ihl : WalkSaid l) (ihr : WalkSaid r) : WalkSaid (.node b o a l r) := by
  intro u w0 w gw go g cap xs h hg hcap hm
  obtain ⟨u1, u2, rfl, h1, h2, c0, c1, c2, c3, c4⟩ := h.open_node
  clear c3 c4 h
  simp only [sz] at hcap
  have f0 := hg.fcell
  have k0 := (hg.below.cell (p := ⟨b, 0, none⟩) (World.block_lt_of_cell? _ _ c0)).trans c0
  go_enter Tryz.func94, Tryz.ntmps94
  go_wp2_with fail
  go_region_held3 (fun W => W.cell? ⟨gw, 0, none⟩ = some (Value.func (Fn.func 94) #[] #[Value.pointer (some ⟨gw, 0, none⟩), Value.pointer (some ⟨go, 0, none⟩)])  ∧ W.cell? ⟨b, 0, none⟩ = some (.pointer u1))
    (first | (go_keep; done) | exact ⟨hg1.fcell, (hg1.below.cell (p := ⟨b, 0, none⟩) (World.block_lt_of_cell? _ _ c0)).trans c0⟩)
    (first
      | (go_at_call 94; refine (ihl h1 hg.drew ?_ hm).mono ?_; (omega); rintro e w1 ⟨rfl, hg1⟩))
  go_wp2_with fail
  clear f0 k0
  have o1 := hg1.ocell
  have o2 := hg1.ofro
  have k2 := (hg1.below.cell (p := ⟨b, 2, none⟩) (World.block_lt_of_cell? _ _ c2)).trans c2
  have z1 : go < w1.heap.size := World.block_lt_of_cell? _ _ o1
  have z2 : b < w1.heap.size := World.block_lt_of_cell? _ _ k2
  have hroom : (xs ++ items l).length + 1 ≤ cap := by rw [List.length_append, items_len]; omega
  generalize hys : xs ++ items l = ys at *
  have HY : Hid (xs ++ items l = ys) := hys
  clear hys
  obtain ⟨i0, hi, hz0, hz1, hz2⟩ := info_parts Tryz.infoInt
  have s1 : Hid (([Value.int IntKind.i64 a] : List Value).length = 1 * 1) := rfl
  have s2 : Hid (∀ u ∈ [Value.int IntKind.i64 a], u.oneCell' = true) := by
    intro u hu
    simp only [List.mem_singleton] at hu
    subst hu
    rfl
  have s3 : ∀ (o : Obj), Hid (∀ j, j < ([Value.int IntKind.i64 a] : List Value).length → ((w1.alloc o).drew.cell? ⟨g, 0 + ys.length * 1 + j, none⟩).isSome = true ∧ (w1.alloc o).drew.frozen? ⟨g, 0 + ys.length * 1 + j, none⟩ = false) := by
    intro o j hj
    simp only [List.length_singleton] at hj
    have ht := hg1.there (ys.length) (by omega)
    have hlt : g < w1.heap.size := by
      obtain ⟨v, hv⟩ := Option.isSome_iff_exists.1 ht.1
      exact World.block_lt_of_cell? _ _ hv
    have hb : Below w1.heap.size w1 (w1.alloc o).drew := ((Below.refl _ _).alloc (Nat.le_refl _) _).drew
    have e : 0 + ys.length * 1 + j = ys.length := by omega
    rw [e, hb.cell (p := ⟨g, ys.length, none⟩) hlt, hb.frozen (p := ⟨g, ys.length, none⟩) hlt]
    exact ht
  have s4 : ∀ (t : TypeId), Hid (∀ j u, ([Value.int IntKind.i64 a] : List Value)[j]? = some u → (w1.alloc (.cells #[Value.int IntKind.i64 a] t)).drew.cell? ((⟨w1.heap.size, 0, none⟩ : Addr).add j) = some u) := by
    intro t j u hj
    match j, hj with
    | 0, hj => simp at hj; subst hj; simp [Addr.add]
  have q1 : ∀ o : Obj, ((w1.alloc o).drew.setCells g ys.length [Value.int IntKind.i64 a]).cell? ⟨go, 0, none⟩ = some (.slice (some ⟨g, 0, none⟩) ys.length cap) := fun o => by
    rw [World.cell?_setCells_out g _ _ _ _ (fun e => absurd e.symm hg1.d2)]
    exact (hg1.grown (((Below.refl _ _).alloc (Nat.le_refl _) _).drew)).ocell
  have q2 : ∀ o : Obj, ((w1.alloc o).drew.setCells g ys.length [Value.int IntKind.i64 a]).frozen? ⟨go, 0, none⟩ = false := fun o => by
    rw [World.frozen?_setCells]
    exact (hg1.grown (((Below.refl _ _).alloc (Nat.le_refl _) _).drew)).ofro
  go_region_law (refine step_append_room rfl (.tmp 12) (.tmp 17) 33 rfl 3 i0 1 Tryz.underlying33 hi hz1 g 0 ys.length cap (by simp [Act.eval]) ⟨w1.heap.size, 0, none⟩ 1 1 [Value.int IntKind.i64 a] (by simp [Act.eval]) s1.out (s4 _).out s2.out hroom (s3 _).out ?_)
  all_goals
    have hg2 := (hg1.grown (((Below.refl _ _).alloc (Nat.le_refl _) (Obj.cells #[Value.int IntKind.i64 a] 3)).drew)).push hroom a
    go_wp2_with fail
    generalize ((w1.alloc (Obj.cells #[Value.int IntKind.i64 a] 3)).drew.setCells g ys.length [Value.int IntKind.i64 a]).setCell ⟨go, 0, none⟩ (Value.slice (some ⟨g, 0, none⟩) (ys.length + 1) cap) = w2 at hg2 ⊢
    have f2 := hg2.fcell
    have k1 := (hg2.below.cell (p := ⟨b, 1, none⟩) (World.block_lt_of_cell? _ _ c1)).trans c1
    clear o1 o2 k2 s1 s2 s3 s4 q1 q2 hg1
    go_region_held3 (fun W => W.cell? ⟨gw, 0, none⟩ = some (Value.func (Fn.func 94) #[] #[Value.pointer (some ⟨gw, 0, none⟩), Value.pointer (some ⟨go, 0, none⟩)])  ∧ W.cell? ⟨b, 1, none⟩ = some (.pointer u2))
      (first | (go_keep; done) | exact ⟨hg3.fcell, (hg3.below.cell (p := ⟨b, 1, none⟩) (World.block_lt_of_cell? _ _ c1)).trans c1⟩)
      (first
        | (go_at_call 94; refine (ihr h2 hg2.drew ?_ hm).mono ?_; (rw [← HY.out, List.length_append, List.length_append, items_len, List.length_singleton]; omega); rintro e w3 ⟨rfl, hg3⟩))
    go_wp2_with fail
    go_end0
    refine ⟨rfl, ?_⟩
    rw [← HY.out] at hg3
    simpa [items] using hg3

theorem walk_any (T : BT Int) : WalkSaid T := by
  induction T with
  | nil => exact walk_nil
  | node b o a l r ihl ihr => exact walk_node ihl ihr

theorem RowAt.lies {w : World} {v : Option Addr} {T : BT Int} (h : RowAt w v T) : Lies w T := by
  rcases h.or with ⟨_, rfl⟩ | ⟨b, u, _, _, ha, _⟩
  · trivial
  · exact ha.lies

theorem gone_start {w : World} {CC : Array Value} {n : Nat} (h : CC.size = n) :
    Gone w (((w.alloc (Obj.cells CC 3)).alloc (Obj.cells #[Value.slice (some ⟨w.heap.size, 0, none⟩) 0 n] 33)).alloc (Obj.cells #[Value.func (Fn.func 94) #[] #[Value.pointer (some ⟨w.heap.size + 1 + 1, 0, none⟩), Value.pointer (some ⟨w.heap.size + 1, 0, none⟩)]] 151))
      (w.heap.size + 1 + 1) (w.heap.size + 1) w.heap.size n [] := by
  refine ⟨(((Below.refl _ _).alloc (Nat.le_refl _) _).alloc (by simp) _).alloc (by simp; omega) _, by omega, by omega, by omega, by omega, by omega, by omega, ?_, ?_, ?_, fun j hj => ⟨?_, ?_⟩, fun j hj => absurd hj (by simp)⟩
  · go_simp
  · go_simp
  · go_simp
  · go_simp
  · go_simp

set_option maxHeartbeats 1000000 in
theorem list_any {v : Option Addr} {T : BT Int} {w : World} (h : RowAt w v T) (hs : sz T < 1000000) :
    Calls Tryz.prog 68 #[.pointer v] w fun e w' => ∃ a cap, e = .returned (.slice a (sz T) cap) ∧ Below w.heap.size w w' ∧ IntsAt w' a (sz T) cap (items T) := by
  obtain ⟨CC, hCC, hmk⟩ := make_row (sz T) (by omega)
  have hg := gone_start (w := w) hCC
  have HG : Hid (Gone _ _ _ _ _ _ _) := hg
  clear hCC hg
  go_enter Tryz.func68, Tryz.ntmps68
  go_wp2_with fail
  refine (len_any h).mono ?_
  rintro e w' ⟨rfl, rfl⟩
  go_wp2_with fail
  have hg := HG.out
  clear HG hmk
  generalize (((w'.alloc (Obj.cells CC 3)).alloc (Obj.cells #[Value.slice (some ⟨w'.heap.size, 0, none⟩) 0 (sz T)] 33)).alloc (Obj.cells #[Value.func (Fn.func 94) #[] #[Value.pointer (some ⟨w'.heap.size + 1 + 1, 0, none⟩), Value.pointer (some ⟨w'.heap.size + 1, 0, none⟩)]] 151)) = W0 at hg ⊢
  generalize w'.heap.size + 1 + 1 = gw at hg ⊢
  generalize w'.heap.size + 1 = go at hg ⊢
  have f0 := hg.fcell
  have hbW := hg.below
  go_region_held3 (fun W => W.cell? ⟨gw, 0, none⟩ = some (Value.func (Fn.func 94) #[] #[Value.pointer (some ⟨gw, 0, none⟩), Value.pointer (some ⟨go, 0, none⟩)])) (first | (go_keep; done) | exact hg1.fcell)
    (first
      | (go_at_call 56; refine (tree_any (h.below hbW).drew).mono ?_; rintro e w2 ⟨u, rfl, rfl, ha⟩)
      | (go_at_call 94; refine (walk_any T (⟨h.lies, ha.at_⟩ : At w' u T) hg.drew ?_ ?_).mono ?_; (simp); (omega); rintro e w3 ⟨rfl, hg1⟩))
  rw [List.nil_append] at hg1
  have o1 := hg1.ocell
  rw [items_len] at o1
  go_wp2_with fail
  go_ret
  exact ⟨_, _, rfl, hg1.below, items_len T, Nat.le_refl _, fun i hi => ⟨_, 0, rfl, by rw [Nat.zero_add]; exact hg1.cells i (by rw [items_len]; exact hi)⟩⟩

end Go.Proofs.YthhojlbfnffdeabGreat
