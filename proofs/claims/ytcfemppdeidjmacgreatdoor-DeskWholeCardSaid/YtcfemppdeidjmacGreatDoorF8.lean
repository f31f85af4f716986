/-
  The statements' own answer: is there such a node, how many nodes there may be, an edge of two nodes, its place in a list.
  Edges, Tree and Parts of package graph; Add and Drop, whatever they are called with.
  Graphs stand where what they stand on is the same, whatever blocks are let.
-/
import Derived.Test.YtcfemppdeidjmacGreatDoorF7
import Derived.Test.YtcfemppdeidjmacGreatDoorF5
import Derived.Test.YtcfemppdeidjmacGreatDoorMh
namespace Go.Proofs.YtcfemppdeidjmacGreatDoor
set_option linter.unusedSectionVars false
variable [Inhabited Zed]
open Go.RowKit Go.Deep
set_option linter.unusedVariables false

variable {w w' : World} {L : Pl} {p p' : Nat → Nat} {E E' : List (Nat × Nat)}

set_option maxHeartbeats 400000 in
theorem fault_any (n : Int) (w : World) : Calls Tryz.prog 7 #[.int .i64 n] w fun e w' => e = .returned (.int .i64 (if n < 1 ∨ 60 < n then 1 else 0)) ∧ w' = w := by
  by_cases h1 : n < 1
  · rw [if_pos (Or.inl h1)]
    go_enter Tryz.func7, Tryz.ntmps7
    go_wp2_with fail
    go_ret
    exact ⟨rfl, rfl⟩
  · by_cases h2 : 60 < n
    · rw [if_pos (Or.inr h2)]
      go_enter Tryz.func7, Tryz.ntmps7
      go_wp2_with fail
      go_ret
      exact ⟨rfl, rfl⟩
    · rw [if_neg (by omega)]
      go_enter Tryz.func7, Tryz.ntmps7
      go_wp2_with fail
      go_ret
      exact ⟨rfl, rfl⟩

set_option maxHeartbeats 400000 in
theorem node_any (n a : Int) (w : World) (q : Bool) (hq : q = true ↔ (0 ≤ a ∧ a < n)) : Calls Tryz.prog 31 #[.int .i64 n, .int .i64 a] w fun e w' => e = .returned (.bool q) ∧ w' = w := by
  by_cases h1 : 0 ≤ a
  · by_cases h2 : a < n
    · obtain rfl := hq.2 ⟨h1, h2⟩
      clear hq
      go_enter Tryz.func31, Tryz.ntmps31
      go_wp2_with fail
      go_ret
      exact ⟨rfl, rfl⟩
    · obtain rfl : q = false := by rw [Bool.eq_false_iff]; exact fun h => h2 (hq.1 h).2
      clear hq
      go_enter Tryz.func31, Tryz.ntmps31
      go_wp2_with fail
      go_ret
      exact ⟨rfl, rfl⟩
  · obtain rfl : q = false := by rw [Bool.eq_false_iff]; exact fun h => h1 (hq.1 h).1
    clear hq
    go_enter Tryz.func31, Tryz.ntmps31
    go_wp2_with fail
    go_ret
    exact ⟨rfl, rfl⟩

set_option maxRecDepth 100000 in
set_option maxHeartbeats 400000 in
theorem of_edge (a b : Int) {w : World} :
    Calls Tryz.prog 52 #[.int .i64 a, .int .i64 b] w fun e w' => e = .returned (ev (min a b) (max a b)) ∧ w' = w.alloc (.cells #[.int .i64 (min a b), .int .i64 (max a b)] 92) := by
  obtain ⟨x, hx⟩ : ∃ x, x = min a b := ⟨_, rfl⟩
  obtain ⟨y, hy⟩ : ∃ y, y = max a b := ⟨_, rfl⟩
  have HX : Hid (x = min a b ∧ y = max a b) := ⟨hx, hy⟩
  rw [← hx, ← hy]
  clear hx hy
  by_cases h : a < b
  · go_enter Tryz.func52, Tryz.ntmps52
    go_wp2_with fail
    refine bodyPost_ret (results_cell_row rfl _ _ w.heap.size 92 _ (0, 0) _ rfl (heap_alloc_new _ _) Tryz.underlying92 rfl Tryz.sizeEdge) rfl ?_
    obtain ⟨hx, hy⟩ := HX.out
    rw [show x = a by omega, show y = b by omega]; exact ⟨rfl, rfl⟩
  · go_enter Tryz.func52, Tryz.ntmps52
    go_wp2_with fail
    refine bodyPost_ret (results_cell_row rfl _ _ w.heap.size 92 _ (0, 0) _ rfl (heap_alloc_new _ _) Tryz.underlying92 rfl Tryz.sizeEdge) rfl ?_
    obtain ⟨hx, hy⟩ := HX.out
    rw [show x = b by omega, show y = a by omega]; exact ⟨rfl, rfl⟩

/-- Is this the edge of x and y? -/
def IsOf (e : Nat × Nat) (x y : Int) : Prop := (e.1 : Int) = min x y ∧ (e.2 : Int) = max x y

set_option maxRecDepth 100000 in
set_option maxHeartbeats 2000000 in
theorem place_ref {a : Option Addr} {n c : Nat} (hE : EdgesAt w a E) (hn : E.length = n) (hn2 : n < 1000000) (x y : Int) :
    Calls Tryz.prog 32 #[.slice a n c, .int .i64 x, .int .i64 y] w fun e w' => ∃ r : Int, e = .returned (.int .i64 r) ∧ Below w.heap.size w w' ∧
      ((∃ j : Nat, j < n ∧ r = j ∧ IsOf (E.getD j (0, 0)) x y) ∨ (r = -1 ∧ ∀ e ∈ E, ¬ IsOf e x y)) := by
  have HC : Hid (∀ i, i < n → ∃ b, a = some ⟨b, 0, none⟩ ∧ w.cell? ⟨b, i * 2, none⟩ = some (.int .i64 ((E.getD i (0, 0)).1 : Nat)) ∧ w.cell? ⟨b, i * 2 + 1, none⟩ = some (.int .i64 ((E.getD i (0, 0)).2 : Nat))) := fun i hi => hE.cell i (by omega)
  have HEnd : Hid ((∀ j, j < n → ¬ IsOf (E.getD j (0, 0)) x y) → ∀ e ∈ E, ¬ IsOf e x y) := fun h e he => by
    obtain ⟨i, hi, rfl⟩ := List.mem_iff_getElem.1 he
    have := h i (by omega)
    rwa [List.getD_eq_getElem?_getD, List.getElem?_eq_getElem hi] at this
  clear hE hn
  go_enter Tryz.func32, Tryz.ntmps32
  go_wp2_with fail
  refine (of_edge x y).mono ?_
  rintro e w1 ⟨rfl, rfl⟩
  have HIs : Hid (∀ e : Nat × Nat, IsOf e x y ↔ (e.1 : Int) = min x y ∧ (e.2 : Int) = max x y) := fun _ => Iff.rfl
  generalize min x y = m1 at *
  generalize max x y = m2 at *
  dsimp only [ev]
  go_wp2_with fail
  have hb2 : Below w.heap.size w ((w.alloc (.cells #[.int .i64 m1, .int .i64 m2] 92)).alloc (.cells #[.int .i64 m1, .int .i64 m2] 92)) := ((Below.refl _ _).alloc (Nat.le_refl _) _).alloc (by simp) _
  have z1 : ((w.alloc (.cells #[.int .i64 m1, .int .i64 m2] 92)).alloc (.cells #[.int .i64 m1, .int .i64 m2] 92)).cell? ⟨w.heap.size + 1, 0, none⟩ = some (.int .i64 m1) := by simp
  have z2 : ((w.alloc (.cells #[.int .i64 m1, .int .i64 m2] 92)).alloc (.cells #[.int .i64 m1, .int .i64 m2] 92)).cell? ⟨w.heap.size + 1, 1, none⟩ = some (.int .i64 m2) := by simp
  generalize ((w.alloc (.cells #[.int .i64 m1, .int .i64 m2] 92)).alloc (.cells #[.int .i64 m1, .int .i64 m2] 92)) = W at *
  generalize w.heap.size + 1 = be at *
  have HB : Hid (Below w.heap.size w W) := hb2
  have HZ : Hid (W.cell? ⟨be, 0, none⟩ = some (.int .i64 m1) ∧ W.cell? ⟨be, 1, none⟩ = some (.int .i64 m2)) := ⟨z1, z2⟩
  clear hb2 z1 z2
  go_loopw [8] (fun i wr => ∃ j : Nat, j ≤ n ∧ i = .int .i64 (j : Nat) ∧ Below W.heap.size W wr ∧ ∀ i, i < j → ¬ IsOf (E.getD i (0, 0)) x y) (fun i _ => n - (intOf i).toNat)
  case atStart => exact ⟨0, Nat.zero_le _, rfl, Below.refl _ _, fun i hi => absurd hi (Nat.not_lt_zero _)⟩
  case round =>
    obtain ⟨j, hj, rfl, hb, hall⟩ := hrel
    have HAll : Hid (∀ i, i < j → ¬ IsOf (E.getD i (0, 0)) x y) := hall
    clear hall
    by_cases hlt : j < n
    · obtain ⟨b, rfl, q1, q2⟩ := HC.out j hlt
      replace q1 := cell_keep hb (cell_keep HB.out q1)
      replace q2 := cell_keep hb (cell_keep HB.out q2)
      have z1 := cell_keep hb HZ.out.1
      have z2 := cell_keep hb HZ.out.2
      obtain ⟨u, hu⟩ : ∃ u, (E.getD j (0, 0)).1 = u := ⟨_, rfl⟩
      obtain ⟨v, hv⟩ : ∃ v, (E.getD j (0, 0)).2 = v := ⟨_, rfl⟩
      rw [hu] at q1
      rw [hv] at q2
      have i0 : (0 : Int) ≤ (j : Int) := by omega
      have i1 : (j : Int) < (n : Int) := by omega
      have HU : Hid (IsOf (E.getD j (0, 0)) x y ↔ (u : Int) = m1 ∧ (v : Int) = m2) := by
        have := HIs.out (E.getD j (0, 0))
        rw [hu, hv] at this
        exact this
      clear hu hv
      by_cases h1 : (u : Int) = m1
      · by_cases h2 : (v : Int) = m2
        · have t1 : ((u : Int) == m1) = true := by rw [h1]; simp
          have t2 : ((v : Int) == m2) = true := by rw [h2]; simp
          have HY : Hid (IsOf (E.getD j (0, 0)) x y) := HU.out.2 ⟨h1, h2⟩
          clear h1 h2
          go_wp2_with fail
          go_quiet (fail)
          go_wp2_with fail
          go_ret
          exact ⟨_, rfl, below_step HB.out (below_step hb (below_drewN rfl)), Or.inl ⟨j, hlt, rfl, HY.out⟩⟩
        · have t1 : ((u : Int) == m1) = true := by rw [h1]; simp
          have t2 : ((v : Int) == m2) = false := by rw [beq_eq_false_iff_ne]; exact h2
          have HY : Hid (¬ IsOf (E.getD j (0, 0)) x y) := fun h => h2 (HU.out.1 h).2
          clear h1 h2
          go_wp2_with fail
          go_quiet (fail)
          go_wp2_with fail
          go_roundw
          case rel =>
            refine ⟨j + 1, by omega, by go_num, below_step hb (below_drewN rfl), fun i hi => ?_⟩
            rcases Nat.lt_or_ge i j with h3 | h3
            · exact HAll.out i h3
            · obtain rfl : i = j := by omega
              exact HY.out
          case measure => simp [intOf]; omega
      · have t1 : ((u : Int) == m1) = false := by rw [beq_eq_false_iff_ne]; exact h1
        have HY : Hid (¬ IsOf (E.getD j (0, 0)) x y) := fun h => h1 (HU.out.1 h).1
        clear h1
        go_wp2_with fail
        go_quiet (fail)
        go_wp2_with fail
        go_roundw
        case rel =>
          refine ⟨j + 1, by omega, by go_num, below_step hb (below_drewN rfl), fun i hi => ?_⟩
          rcases Nat.lt_or_ge i j with h3 | h3
          · exact HAll.out i h3
          · obtain rfl : i = j := by omega
            exact HY.out
        case measure => simp [intOf]; omega
    · have HY : Hid (∀ e ∈ E, ¬ IsOf e x y) := HEnd.out (fun i hi => HAll.out i (by omega))
      go_wp2_with fail
      go_ret
      exact ⟨_, rfl, below_step HB.out hb, Or.inr ⟨rfl, HY.out⟩⟩

end Go.Proofs.YtcfemppdeidjmacGreatDoor

namespace Go.Proofs.YtcfemppdeidjmacGreatDoor.Gr
set_option linter.unusedSectionVars false
variable [Inhabited Zed]
open Go.RowKit Go.Deep Go.Maps
open Go.RowKit (Below)
set_option linter.unusedVariables false

variable {w wr w' : World} {G : GPl} {A A' P Q : List (Nat × Nat)} {lv lv' : Nat × Nat → Nat} {tr tr' : Nat × Nat → Bool} {a b u v : Nat}

theorem filter_tree : A.filter tr = Fo A lv tr 0 := by unfold Fo; exact List.filter_congr fun e _ => by simp

set_option maxRecDepth 100000 in
theorem gedges_any (h : GOk w G A lv tr) (N : Nat) (hN : A.length = N) :
    Calls Tryz.prog 20 #[.pointer (some ⟨G.g, 0, none⟩)] w fun e w' => ∃ ad c, e = .returned (.slice ad N c) ∧ Below w.heap.size w w' ∧ EdgesAt w' ad A ∧ (∀ c, ad = some ⟨c, 0, none⟩ → w.heap.size ≤ c) ∧ N ≤ c ∧ c ≤ maxLen := by
  have hp := picked_any h.mem (fun _ => true) 40 #[] (enters_of Tryz.func40 (by kernel_rfl) rfl) (fun W _ e _ => pickA_any e.1 e.2 (lv e) (tr e) W)
  rw [List.filter_eq_self.2 (fun _ _ => rfl)] at hp
  rw [hN] at hp
  clear h hN
  go_enter Tryz.func20, Tryz.ntmps20
  go_wp2_with fail
  refine hp.mono ?_
  rintro e w1 ⟨ad, c, rfl, hb, hE, hf, h1, h2⟩
  clear hp
  go_wp2_with fail
  go_ret
  exact ⟨ad, c, rfl, hb, hE, hf, h1, h2⟩

theorem GOk.tree_le (h : GOk w G A lv tr) : (Fo A lv tr 0).length ≤ G.n := by
  obtain ⟨p, hp⟩ := rest_of (Fo A lv tr 0)
  have := ((forest_parts (n := G.n) (fun e he => h.lev.among e (mem_Fo.1 he).1) hp).2).1 h.lev.forest
  omega

/-- What becomes of edges and levels: no level falls, what is new has level 0; at most one edge more. -/
structure Grew (A : List (Nat × Nat)) (lv : Nat × Nat → Nat) (A' : List (Nat × Nat)) (lv' : Nat × Nat → Nat) : Prop where
  old : ∀ e ∈ A', e ∈ A → lv e ≤ lv' e
  new : ∀ e ∈ A', e ∉ A → lv' e = 0
  len : A'.length ≤ A.length + 1

theorem Grew.refl (A : List (Nat × Nat)) (lv : Nat × Nat → Nat) : Grew A lv A lv := ⟨fun _ _ _ => Nat.le_refl _, fun e h h' => absurd h h', Nat.le_succ _⟩

theorem grew_add (hn : (u, v) ∉ P ++ Q) : Grew (P ++ Q) lv (P ++ (u, v) :: Q) (upd lv (u, v) 0) := by
  refine ⟨fun e _ he => ?_, fun e he hne => ?_, by simp; omega⟩
  · have hne : e ≠ (u, v) := fun q => hn (by rw [← q]; exact he)
    rw [upd_other hne]; exact Nat.le_refl _
  · have : e = (u, v) := by
      rcases List.mem_append.1 he with q | q
      · exact absurd (List.mem_append_left _ q) hne
      · rcases List.mem_cons.1 q with q | q
        · exact q
        · exact absurd (List.mem_append_right _ q) hne
    rw [this]; exact upd_same ..

theorem grew_drop (h : ∀ e ∈ P ++ Q, lv e ≤ lv' e) : Grew (P ++ (u, v) :: Q) lv (P ++ Q) lv' :=
  ⟨fun e he _ => h e he, fun e he hne => absurd (by
    rcases List.mem_append.1 he with q | q
    · exact List.mem_append_left _ q
    · exact List.mem_append_right _ (List.mem_cons_of_mem _ q)) hne, by simp; omega⟩

/-- A graph that a statement made, since w0. -/
structure GW (w0 : World) (G : GPl) (A : List (Nat × Nat)) (lv : Nat × Nat → Nat) (tr : Nat × Nat → Bool) (w : World) : Prop where
  ok : GOk w G A lv tr
  below : Below w0.heap.size w0 w
  foot : ∀ c, GFoot G c → w0.heap.size ≤ c

theorem GW.step {w0 : World} (h : GW w0 G A lv tr w) (hb : Below w.heap.size w w') : GW w0 G A lv tr w' := ⟨h.ok.below hb, h.below.trans (hb.mono h.below.size), h.foot⟩

theorem GW.turn {w0 : World} (h : GW w0 G A lv tr w) (t : Turns (GFoot G) w w') (h' : GOk w' G A' lv' tr') : GW w0 G A' lv' tr' w' := ⟨h', t.below h.below h.below.size h.foot, h.foot⟩

/-- What a change comes to, whatever it was called with. -/
def Changed (w0 w : World) (G : GPl) (A : List (Nat × Nat)) (lv : Nat × Nat → Nat) (e : Ending) (w' : World) : Prop :=
  ∃ err A' lv' tr', e = .returned err ∧ Turns (GFoot G) w w' ∧ GW w0 G A' lv' tr' w' ∧ Grew A lv A' lv'

theorem add_u {w0 : World} (h : GW w0 G A lv tr w) (x y : Int) (hl : A.length < 200) :
    Calls Tryz.prog 51 #[.pointer (some ⟨G.g, 0, none⟩), .int .i64 x, .int .i64 y] w (Changed w0 w G A lv) := by
  by_cases hn : (0 ≤ x ∧ x < G.n) ∧ 0 ≤ y ∧ y < G.n
  · obtain ⟨a, rfl⟩ := Int.eq_ofNat_of_zero_le hn.1.1
    obtain ⟨b, rfl⟩ := Int.eq_ofNat_of_zero_le hn.2.1
    by_cases hab : a = b
    · subst hab
      refine (add_shape h.ok a (by omega)).mono ?_
      rintro e w1 ⟨rfl, hb⟩
      exact ⟨_, A, lv, tr, rfl, Turns.of_below hb, h.step hb, Grew.refl A lv⟩
    · by_cases hin : (min a b, max a b) ∈ A
      · refine (add_clash h.ok a b (by omega) (by omega) hab hin).mono ?_
        rintro e w1 ⟨rfl, hb⟩
        exact ⟨_, A, lv, tr, rfl, Turns.of_below hb, h.step hb, Grew.refl A lv⟩
      · refine (add_any h.ok a b (by omega) (by omega) hab hin hl).mono ?_
        rintro e w1 ⟨rfl, t1, P, Q, tr', rfl, h1⟩
        exact ⟨_, _, _, tr', rfl, t1, h.turn t1 h1, grew_add hin⟩
  · refine (add_no h.ok x y hn).mono ?_
    rintro e w1 ⟨rfl, hb⟩
    exact ⟨_, A, lv, tr, rfl, Turns.of_below hb, h.step hb, Grew.refl A lv⟩

theorem drop_u {w0 : World} (h : GW w0 G A lv tr w) (x y : Int) :
    Calls Tryz.prog 55 #[.pointer (some ⟨G.g, 0, none⟩), .int .i64 x, .int .i64 y] w (Changed w0 w G A lv) := by
  by_cases hn : (0 ≤ x ∧ x < G.n) ∧ 0 ≤ y ∧ y < G.n
  · obtain ⟨a, rfl⟩ := Int.eq_ofNat_of_zero_le hn.1.1
    obtain ⟨b, rfl⟩ := Int.eq_ofNat_of_zero_le hn.2.1
    by_cases hin : (min a b, max a b) ∈ A
    · refine (drop_any h.ok a b (by omega) (by omega) hin).mono ?_
      rintro e w1 ⟨rfl, t1, P, Q, lv', tr', rfl, h1, h2⟩
      exact ⟨_, _, _, tr', rfl, t1, h.turn t1 h1, grew_drop h2⟩
    · refine (drop_none h.ok a b (by omega) (by omega) hin).mono ?_
      rintro e w1 ⟨rfl, hb⟩
      exact ⟨_, A, lv, tr, rfl, Turns.of_below hb, h.step hb, Grew.refl A lv⟩
  · refine (drop_no h.ok x y hn).mono ?_
    rintro e w1 ⟨rfl, hb⟩
    exact ⟨_, A, lv, tr, rfl, Turns.of_below hb, h.step hb, Grew.refl A lv⟩

/-- The script's steps, as they lie in memory: what is done, and the two nodes. -/
def Script (w : World) (a : Option Addr) (n : Nat) (f : Nat → Int × Int × Int) : Prop :=
  ∀ i, i < n → ∃ b o, a = some ⟨b, o, none⟩ ∧ w.cell? ⟨b, o + i * 4, none⟩ = some (.int .i64 (f i).1) ∧ w.cell? ⟨b, o + i * 4 + 1, none⟩ = some (.int .i64 (f i).2.1) ∧ w.cell? ⟨b, o + i * 4 + 2, none⟩ = some (.int .i64 (f i).2.2) ∧ ∃ v, w.cell? ⟨b, o + i * 4 + 3, none⟩ = some v

theorem Script.below {a : Option Addr} {n : Nat} {f : Nat → Int × Int × Int} (h : Script w a n f) (hb : Below w.heap.size w w') : Script w' a n f := fun i hi => by
  obtain ⟨b, o, e, h1, h2, h3, v, h4⟩ := h i hi
  exact ⟨b, o, e, cell_keep hb h1, cell_keep hb h2, cell_keep hb h3, v, cell_keep hb h4⟩

end Go.Proofs.YtcfemppdeidjmacGreatDoor.Gr

namespace Go.Proofs.YtcfemppdeidjmacGreatDoor.Gr
open Go.RowKit Go.Deep Go.Maps
open Go.RowKit (Below)
set_option linter.unusedVariables false

variable {Z Z' : Zed} {w w' : World} {G : GPl} {A : List (Nat × Nat)} {lv : Nat × Nat → Nat} {tr : Nat × Nat → Bool} {L : Pl} {E : List (Nat × Nat)} {p : Nat → Nat}

/-- What was let is the same, and is let again. -/
structure Other (Z Z' : Zed) (w w' : World) : Prop where
  same : ∀ b, b < w.heap.size → (Tag w b 230 ∨ Tag w b 227) → @zin (inst Z) b → w'.heap[b]? = w.heap[b]? ∧ @zin (inst Z') b
  ok : Z'.n ≤ w'.heap.size

theorem lies_other (o : Other Z Z' w w') : ∀ {T : BT Int}, @Lies (inst Z) w T → @Lies (inst Z') w' T
  | .nil, _ => trivial
  | .node b _ a l r, ⟨⟨ht, hq⟩, h0, h1, h2, h3, h4, hl, hr⟩ => by
    obtain ⟨e, q⟩ := o.same b (@tag_lt (inst Z) _ _ _ ht) (Or.inr ht) hq
    have c : ∀ i v, w.cell? ⟨b, i, none⟩ = some v → w'.cell? ⟨b, i, none⟩ = some v := fun i v hc => (World.cell?_of_block (w := w) (a := ⟨b, i, none⟩) e).trans hc
    obtain ⟨x, z, hx⟩ := ht
    exact ⟨⟨⟨x, z, e.trans hx⟩, q⟩, c _ _ h0, c _ _ h1, c _ _ h2, c _ _ h3, c _ _ h4, lies_other o hl, lies_other o hr⟩

theorem row_other {v : Option Addr} {T : BT Int} (h : @RowAt (inst Z) w v T) (o : Other Z Z' w w') : @RowAt (inst Z') w' v T := by
  obtain ⟨hor, hz⟩ := h
  rcases hor with h | ⟨b, u, rfl, hc, ⟨ha1, ha2, ha3⟩, ht, hq⟩
  · letI := inst Z'
    exact ⟨Or.inl h, o.ok⟩
  · obtain ⟨e, q⟩ := o.same b (@tag_lt (inst Z) _ _ _ ht) (Or.inl ht) hq
    obtain ⟨x, z, hx⟩ := ht
    letI := inst Z'
    exact ⟨Or.inr ⟨b, u, rfl, (World.cell?_of_block (w := w) (a := ⟨b, 0, none⟩) e).trans hc, ⟨lies_other o ha1, ha2, o.ok⟩, ⟨x, z, e.trans hx⟩, q⟩, o.ok⟩

theorem fat_other (f : @FAt (inst Z) w L E p) (o : Other Z Z' w w') (hL : ∀ b, Foot L b ∨ b = L.g → w'.heap[b]? = w.heap[b]?) : @FAt (inst Z') w' L E p := by
  obtain ⟨hg, DW, DE, m, hw⟩ := f
  letI := inst Z'
  refine ⟨hg, DW, DE, m.keep (hL _ (Or.inr rfl)) (hL _ (Or.inl (Or.inl rfl))) (hL _ (Or.inl (Or.inr (Or.inl rfl)))) (hL _ (Or.inl (Or.inr (Or.inr rfl)))), fun r hr hp => ?_⟩
  obtain ⟨b, T, l, h1, h2, h3, h4, h5⟩ := hw r hr hp
  exact ⟨b, T, l, h1, row_other h2 o, h3, h4, h5⟩

theorem gok_other (h : @GOk (inst Z) w G A lv tr) (o : Other Z Z' w w') (hG : ∀ b, GAll G b → w'.heap[b]? = w.heap[b]?) : @GOk (inst Z') w' G A lv tr := by
  obtain ⟨h, hl⟩ := h
  obtain ⟨st, ⟨D, hD⟩, row, tag, fo, ln, h1, h2, h3, h4, h5, h6, h7, h8, h9⟩ := h
  have e3 := hG G.fb (Or.inr (Or.inr (Or.inl rfl)))
  letI := inst Z'
  refine ⟨⟨st.of_block (hG _ (Or.inr (Or.inl rfl))), ⟨D, hD.of_block (hG _ (Or.inl (Or.inl rfl)))⟩, fun k hk => (World.cell?_of_block (w := w) (a := ⟨G.fb, k, none⟩) e3).trans (row k hk), tag_of tag e3, fun k hk => ?_, ln, h1, h2, h3, h4, h5, h6, h7, h8, h9⟩, hl⟩
  obtain ⟨q, f⟩ := fo k hk
  exact ⟨q, fat_other f o fun b hb => hb.elim (fun hb => hG b (Or.inl (Or.inr ⟨k, hk, hb⟩))) fun e => hG b (Or.inr (Or.inr (Or.inr ⟨k, hk, e⟩)))⟩

/-- Where its blocks end. -/
theorem gall_lt (h : @GOk (inst Z) w G A lv tr) : ∀ b, GAll G b → b < w.heap.size := by
  letI := inst Z
  obtain ⟨⟨st, ⟨D, hD⟩, row, tag, fo, h1⟩, hl⟩ := h
  rintro b ((rfl | ⟨k, hk, hb⟩) | rfl | rfl | ⟨k, hk, rfl⟩)
  · exact map_lt hD.isMap
  · obtain ⟨q, -, DW, DE, m, -⟩ := fo k hk
    exact m.foot_lt hb
  · exact st.lt
  · exact tag_lt tag
  · obtain ⟨q, -, DW, DE, m, -⟩ := fo k hk
    exact m.st.lt

end Go.Proofs.YtcfemppdeidjmacGreatDoor.Gr
