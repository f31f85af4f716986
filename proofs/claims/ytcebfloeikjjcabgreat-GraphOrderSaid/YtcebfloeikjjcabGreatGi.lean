/-
  Add and Drop of package graph.
-/
import Derived.Test.YtcebfloeikjjcabGreatGh
namespace Go.Proofs.YtcebfloeikjjcabGreat.Gr
open Go.RowKit Go.Deep Go.Maps
open Go.RowKit (Below)
set_option linter.unusedVariables false

variable {w wr w' : World} {G : GPl} {A A' P Q : List (Nat × Nat)} {lv lv' : Nat × Nat → Nat} {tr tr' : Nat × Nat → Bool} {X Y : Nat → List (Nat × Nat)} {a b u v : Nat}

/-- A graph as it should be: in memory, its tree and its levels. -/
structure GOk (w : World) (G : GPl) (A : List (Nat × Nat)) (lv : Nat × Nat → Nat) (tr : Nat × Nat → Bool) : Prop where
  at_ : GAt w G A lv tr
  lev : Levels G.n A lv tr

theorem GOk.mem (h : GOk w G A lv tr) : GMem w G A lv tr (Fo A lv tr) := h.at_
theorem GOk.below (h : GOk w G A lv tr) (hb : Below w.heap.size w w') : GOk w' G A lv tr := ⟨GMem.below h.at_ hb, h.lev⟩

/-- A new edge is written down. -/
theorem GMem.newput (h : GMem w G (P ++ Q) lv tr X) (hn : (u, v) ∉ P ++ Q) (hr : Rises (P ++ (u, v) :: Q)) (huv : u < v) (hv2 : v < G.n) (hl : (P ++ Q).length < 200) :
    ∃ w', (Instr.mapUpdate 51 (.map (some G.mb)) (ev u v) (hv 0 false)).run Tryz.prog w = .ok () w' ∧ GMem w' G (P ++ (u, v) :: Q) (upd lv (u, v) 0) (upd tr (u, v) false) X ∧ w.mapTurned w' G.mb := by
  obtain ⟨D, hD⟩ := h.map
  have h60 := h.n60
  have hm : ∀ e, e ∈ P ++ (u, v) :: Q ↔ e = (u, v) ∨ e ∈ P ++ Q := fun e => by
    simp only [List.mem_append, List.mem_cons]
    constructor
    · rintro (q | q | q)
      · exact Or.inr (Or.inl q)
      · exact Or.inl q
      · exact Or.inr (Or.inr q)
    · rintro (q | q | q)
      · exact Or.inr (Or.inl q)
      · exact Or.inl q
      · exact Or.inr (Or.inr q)
  obtain ⟨w', D', hrun, hD', ht⟩ := hD.put (A' := P ++ (u, v) :: Q) (lv' := upd lv (u, v) 0) (tr' := upd tr (u, v) false) (by omega) (by omega) (by omega) 0 false hm (by rw [if_neg hn]; simp; omega) ⟨upd_same .., upd_same ..⟩ (fun e _ hne => ⟨upd_other hne, upd_other hne⟩)
  refine ⟨w', hrun, h.mapped ⟨D', hD'⟩ ht hr (fun e he => ?_) (fun e he => ?_) (by simp at hl ⊢; omega), ht⟩
  · rcases (hm e).1 he with rfl | q
    · exact ⟨by show u < G.n; omega, hv2⟩
    · exact h.among e q
  · rcases (hm e).1 he with rfl | q
    · exact huv
    · exact h.less e q

/-- An edge is struck. -/
theorem GMem.del (h : GMem w G (P ++ (u, v) :: Q) lv tr X) (ty : TypeId) :
    ∃ w', (Builtin.delete_ #[51, 41] ty #[.map (some G.mb), ev u v]).run Tryz.prog w = .ok (.tuple #[]) w' ∧ GMem w' G (P ++ Q) lv tr X ∧ w.mapTurned w' G.mb := by
  obtain ⟨D, hD⟩ := h.map
  have h60 := h.n60
  have he := h.node (e := (u, v)) (by simp)
  have hnd := rises_nodup h.rises
  have hn : (u, v) ∉ P ++ Q := (List.nodup_cons.1 (List.perm_middle.nodup_iff.1 hnd)).1
  obtain ⟨w', D', hrun, hD', ht⟩ := hD.drop (A' := P ++ Q) (by have := he.1; omega) (by have := he.2.1; omega) hn List.perm_middle ty
  have hs : ∀ e, e ∈ P ++ Q → e ∈ P ++ (u, v) :: Q := fun e he => by
    rcases List.mem_append.1 he with q | q
    · exact List.mem_append_left _ q
    · exact List.mem_append_right _ (List.mem_cons_of_mem _ q)
  refine ⟨w', hrun, h.mapped ⟨D', hD'⟩ ht ?_ (fun e he => h.among e (hs e he)) (fun e he => h.less e (hs e he)) ?_, ht⟩
  · have := h.rises
    unfold Rises at this ⊢
    rw [List.pairwise_append] at this ⊢
    exact ⟨this.1, (List.pairwise_cons.1 this.2.1).2, fun x hx y hy => this.2.2 x hx y (List.mem_cons_of_mem _ hy)⟩
  · have := h.m200
    simp at this ⊢
    omega

/-- A new edge beside the tree, and no forest turns. -/
theorem newput_fo (hn : (u, v) ∉ P ++ Q) (k : Nat) : Fo (P ++ Q) lv tr k = Fo (P ++ (u, v) :: Q) (upd lv (u, v) 0) (upd tr (u, v) false) k := by
  rw [Fo_split, if_neg (by rw [upd_same]; simp)]
  unfold Fo
  refine List.filter_congr fun e he => ?_
  have hne : e ≠ (u, v) := fun q => hn (q ▸ he)
  rw [upd_other hne, upd_other hne]


theorem add_rest_levels {n : Nat} (h : Levels n (P ++ Q) lv tr) (hn : (u, v) ∉ P ++ Q) (hu : u < n) (hv2 : v < n) (hc : Conn (P ++ Q) u v) : Levels n (P ++ (u, v) :: Q) (upd lv (u, v) 0) (upd tr (u, v) false) :=
  ((h.perm (List.Perm.refl _) fun e he => by
    have hne : e ≠ (u, v) := fun q => hn (q ▸ he)
    rw [upd_other hne, upd_other hne]; exact ⟨rfl, rfl⟩ : Levels n (P ++ Q) (upd lv (u, v) 0) (upd tr (u, v) false)).add_rest hu hv2 hc (upd_same ..) (upd_same ..)).perm List.perm_middle.symm fun _ _ => ⟨rfl, rfl⟩

theorem add_tree_levels {n : Nat} (h : Levels n (P ++ Q) lv tr) (hn : (u, v) ∉ P ++ Q) (hu : u < n) (hv2 : v < n) (hc : ¬ Conn (P ++ Q) u v) : Levels n (P ++ (u, v) :: Q) (upd lv (u, v) 0) (upd (upd tr (u, v) false) (u, v) true) :=
  ((h.perm (List.Perm.refl _) fun e he => by
    have hne : e ≠ (u, v) := fun q => hn (q ▸ he)
    rw [upd_other hne, upd_other hne, upd_other hne]; exact ⟨rfl, rfl⟩ : Levels n (P ++ Q) (upd lv (u, v) 0) (upd (upd tr (u, v) false) (u, v) true)).add_tree hu hv2 hc (upd_same ..) (upd_same ..)).perm List.perm_middle.symm fun _ _ => ⟨rfl, rfl⟩

/-- plant, where the graph is as it should be but for its levels. -/
theorem plant_at (h : GAt w G A lv tr) (he : (u, v) ∈ A) (ht : tr (u, v) = false) (hl : lv (u, v) < G.K) (hc : ¬ Conn (Fo A lv tr 0) u v) :
    Calls Tryz.prog 23 #[.pointer (some ⟨G.g, 0, none⟩), ev u v] w fun e w' => e = .returned (.tuple #[]) ∧ Turns (GFoot G) w w' ∧ GAt w' G A lv (upd tr (u, v) true) := by
  obtain ⟨g1, g2⟩ := plant_fo (GMem.rises h) he rfl ht
  refine (plant_any h (Y := Fo A lv (upd tr (u, v) true)) he ht _ rfl hl (fun k _ hk => hc (Fo.down (Nat.zero_le _) hk)) g1).mono ?_
  rintro e w1 ⟨rfl, t1, h1⟩
  refine ⟨rfl, t1, GMem.congr h1 fun i _ => ?_⟩
  unfold mixed
  by_cases c : i < lv (u, v) + 1
  · rw [if_pos c]
  · rw [if_neg c]; exact g2 i (by omega)

set_option maxHeartbeats 400000 in
theorem add_no (h : GOk w G A lv tr) (x y : Int) (hn : ¬ ((0 ≤ x ∧ x < G.n) ∧ 0 ≤ y ∧ y < G.n)) :
    Calls Tryz.prog 6 #[.pointer (some ⟨G.g, 0, none⟩), .int .i64 x, .int .i64 y] w fun e w' => e = .returned (.iface 50 (.int .i64 1)) ∧ Below w.heap.size w w' := by
  have hh := has_no h.mem x y hn
  clear h hn
  go_enter Tryz.func6, Tryz.ntmps6
  go_wp2_with fail
  refine hh.mono ?_
  rintro e w1 ⟨rfl, rfl⟩
  go_wp2_with fail
  go_ret
  exact ⟨rfl, Below.refl _ _⟩

set_option maxHeartbeats 400000 in
theorem add_shape (h : GOk w G A lv tr) (a : Nat) (ha : a < G.n) :
    Calls Tryz.prog 6 #[.pointer (some ⟨G.g, 0, none⟩), .int .i64 (a : Int), .int .i64 (a : Int)] w fun e w' => e = .returned (.iface 50 (.int .i64 2)) ∧ Below w.heap.size w w' := by
  have hh := has_any h.mem a a ha ha false (by simp; intro q; have := h.mem.less _ q; simp at this)
  clear h
  go_enter Tryz.func6, Tryz.ntmps6
  go_wp2_with fail
  refine hh.mono ?_
  rintro e w1 ⟨rfl, hb⟩
  go_wp2_with fail
  go_ret
  exact ⟨rfl, hb⟩

set_option maxHeartbeats 400000 in
theorem add_clash (h : GOk w G A lv tr) (a b : Nat) (ha : a < G.n) (hb : b < G.n) (hne : a ≠ b) (hin : (min a b, max a b) ∈ A) :
    Calls Tryz.prog 6 #[.pointer (some ⟨G.g, 0, none⟩), .int .i64 (a : Int), .int .i64 (b : Int)] w fun e w' => e = .returned (.iface 50 (.int .i64 6)) ∧ Below w.heap.size w w' := by
  have hh := has_any h.mem a b ha hb true (by simp [hin])
  have e1 : (((a : Nat) : Int) == ((b : Nat) : Int)) = false := by rw [beq_eq_false_iff_ne]; omega
  clear h hin hne
  go_enter Tryz.func6, Tryz.ntmps6
  go_wp2_with fail
  refine hh.mono ?_
  rintro e w1 ⟨rfl, hb⟩
  go_wp2_with fail
  go_ret
  exact ⟨rfl, hb⟩

set_option maxHeartbeats 1000000 in
theorem add_full (h : GOk w G A lv tr) (a b : Nat) (ha : a < G.n) (hb : b < G.n) (hne : a ≠ b) (hin : (min a b, max a b) ∉ A) (hl : 200 ≤ A.length) :
    Calls Tryz.prog 6 #[.pointer (some ⟨G.g, 0, none⟩), .int .i64 (a : Int), .int .i64 (b : Int)] w fun e w' => e = .returned (.iface 50 (.int .i64 3)) ∧ Below w.heap.size w w' := by
  have hh := has_any h.mem a b ha hb false (by simp [hin])
  have e1 : (((a : Nat) : Int) == ((b : Nat) : Int)) = false := by rw [beq_eq_false_iff_ne]; omega
  have HH : Hid (GMem w G A lv tr (Fo A lv tr)) := h.mem
  obtain ⟨m, hm⟩ : ∃ m, A.length = m := ⟨_, rfl⟩
  have h200 := h.mem.m200
  rw [hm] at hl h200
  have e2 : (200 : Int) ≤ (m : Nat) := by omega
  clear h hin hne
  go_enter Tryz.func6, Tryz.ntmps6
  go_wp2_with fail
  refine hh.mono ?_
  rintro e w1 ⟨rfl, hb1⟩
  have h1 := HH.out.below hb1
  have c1 := h1.c1
  obtain ⟨D, hD⟩ := h1.map
  have hln := fun ty => hD.len ty
  rw [hm] at hln
  clear h1 hD hh hm
  go_wp2_with fail
  go_ret
  exact ⟨rfl, hb1⟩

/-- What Add comes to where it adds. -/
def Added (w w' : World) (G : GPl) (A : List (Nat × Nat)) (lv : Nat × Nat → Nat) (u v : Nat) : Prop :=
  Turns (GFoot G) w w' ∧ ∃ P Q tr', A = P ++ Q ∧ GOk w' G (P ++ (u, v) :: Q) (upd lv (u, v) 0) tr'

set_option maxRecDepth 100000 in
set_option maxHeartbeats 4000000 in
theorem add_any (h : GOk w G A lv tr) (a b : Nat) (ha : a < G.n) (hb : b < G.n) (hne : a ≠ b) (hin : (min a b, max a b) ∉ A) (hl : A.length < 200) :
    Calls Tryz.prog 6 #[.pointer (some ⟨G.g, 0, none⟩), .int .i64 (a : Int), .int .i64 (b : Int)] w fun e w' => e = .returned .nilIface ∧ Added w w' G A lv (min a b) (max a b) := by
  have hh := has_any h.mem a b ha hb false (by simp [hin])
  have e1 : (((a : Nat) : Int) == ((b : Nat) : Int)) = false := by rw [beq_eq_false_iff_ne]; omega
  obtain ⟨m, hm⟩ : ∃ m, A.length = m := ⟨_, rfl⟩
  rw [hm] at hl
  have e2 : ¬ ((200 : Int) ≤ (m : Nat)) := by omega
  have hn60 := h.mem.n60
  have HE : Hid (∀ W, Calls Tryz.prog 22 #[.int .i64 (a : Int), .int .i64 (b : Int)] W fun e w' => e = .returned (ev (min a b : Nat) (max a b : Nat)) ∧ w' = W.alloc (.cells #[.int .i64 (min a b : Nat), .int .i64 (max a b : Nat)] 41)) := fun W => gedgeOf_any a b (by omega) (by omega)
  have hcab : Conn A (min a b) (max a b) ↔ Conn A a b := by
    rcases Nat.le_total a b with q | q
    · rw [Nat.min_eq_left q, Nat.max_eq_right q]
    · rw [Nat.min_eq_right q, Nat.max_eq_left q]; exact ⟨fun z => (conn_eqv A).symm z, fun z => (conn_eqv A).symm z⟩
  have huv : min a b < max a b := by omega
  have hv2 : max a b < G.n := by omega
  obtain ⟨P, Q, hA, hr⟩ := rises_mid h.mem.rises hin
  generalize min a b = u at *
  generalize max a b = v at *
  have HH : Hid (GOk w G A lv tr ∧ A = P ++ Q ∧ Rises (P ++ (u, v) :: Q) ∧ (u, v) ∉ A ∧ u < v ∧ v < G.n ∧ (Conn A u v ↔ Conn A a b) ∧ A.length = m) := ⟨h, hA, hr, hin, huv, hv2, hcab, hm⟩
  clear h hin hne hA hr huv hv2 hcab hm
  go_enter Tryz.func6, Tryz.ntmps6
  go_wp2_with fail
  refine hh.mono ?_
  rintro e w1 ⟨rfl, hb1⟩
  have h1 := HH.out.1.below hb1
  have c1 := h1.mem.c1
  obtain ⟨D, hD⟩ := h1.mem.map
  have hln := fun ty => hD.len ty
  rw [HH.out.2.2.2.2.2.2.2] at hln
  obtain ⟨p, f1⟩ := h1.mem.zero
  have hj := joined_any h1.mem f1 a b ha hb
  obtain ⟨qj, hqj⟩ : ∃ qj, qj = decide (p a = p b) := ⟨_, rfl⟩
  rw [← hqj] at hj
  have HJ : Hid (qj = true ↔ Conn A a b) := by
    show qj = true ↔ Conn A a b
    rw [hqj, decide_eq_true_eq, f1.grown.rest.same a b]
    exact h1.lev.tree a b
  clear h1 hD hh f1 hqj
  go_wp2_with fail
  refine hj.mono ?_
  rintro e w2 ⟨rfl, hb2⟩
  have hb02 := below_step hb1 hb2
  clear hj hln c1 hb1 hb2
  go_wp2_with fail
  refine (HE.out _).mono ?_
  rintro e w3 ⟨rfl, rfl⟩
  dsimp only [ev]
  have hb3 : Below w2.heap.size w2 ((w2.alloc (.cells #[.int .i64 (u : Int), .int .i64 (v : Int)] 41)).alloc (.cells #[.int .i64 (u : Int), .int .i64 (v : Int)] 41)) := ((Below.refl _ _).alloc (Nat.le_refl _) _).alloc (by simp) _
  have z0 : ((w2.alloc (.cells #[.int .i64 (u : Int), .int .i64 (v : Int)] 41)).alloc (.cells #[.int .i64 (u : Int), .int .i64 (v : Int)] 41)).cell? ⟨w2.heap.size + 1, 0, none⟩ = some (.int .i64 (u : Int)) := by simp
  have z1 : ((w2.alloc (.cells #[.int .i64 (u : Int), .int .i64 (v : Int)] 41)).alloc (.cells #[.int .i64 (u : Int), .int .i64 (v : Int)] 41)).cell? ⟨w2.heap.size + 1, 1, none⟩ = some (.int .i64 (v : Int)) := by simp
  go_wp2_with fail
  generalize ((w2.alloc (.cells #[.int .i64 (u : Int), .int .i64 (v : Int)] 41)).alloc (.cells #[.int .i64 (u : Int), .int .i64 (v : Int)] 41)) = w3 at *
  have hb03 := below_step hb02 hb3
  have h3 := HH.out.1.below hb03
  have c3 := h3.mem.c1
  have h3' : GMem w3.drew G (P ++ Q) lv tr (Fo A lv tr) := by rw [← HH.out.2.1]; exact h3.mem.drew
  obtain ⟨w4, hrun4, h4, t4⟩ := h3'.newput (by rw [← HH.out.2.1]; exact HH.out.2.2.2.1) HH.out.2.2.1 HH.out.2.2.2.2.1 HH.out.2.2.2.2.2.1 (by rw [← HH.out.2.1, HH.out.2.2.2.2.2.2.2]; exact hl)
  have hbe : w.heap.size ≤ w2.heap.size + 1 := by have := hb02.size; omega
  have y0 : w4.cell? ⟨w2.heap.size + 1, 0, none⟩ = some (.int .i64 (u : Int)) := (World.cell?_of_block (w := w3.drew) (a := ⟨w2.heap.size + 1, 0, none⟩) (t4.grown.block _ (World.block_lt_of_cell? _ _ z0) (fun e => by
    have h5 := HH.out.1.mem.foot_lt (Or.inl rfl : GFoot G G.mb)
    have e9 := Option.some.inj e
    simp only at e9
    omega))).trans z0
  have y1 : w4.cell? ⟨w2.heap.size + 1, 1, none⟩ = some (.int .i64 (v : Int)) := (World.cell?_of_block (w := w3.drew) (a := ⟨w2.heap.size + 1, 1, none⟩) (t4.grown.block _ (World.block_lt_of_cell? _ _ z1) (fun e => by
    have h5 := HH.out.1.mem.foot_lt (Or.inl rfl : GFoot G G.mb)
    have e9 := Option.some.inj e
    simp only at e9
    omega))).trans z1
  have hfo : GAt w4 G (P ++ (u, v) :: Q) (upd lv (u, v) 0) (upd tr (u, v) false) := h4.congr fun k _ => by
    rw [HH.out.2.1]
    exact newput_fo (by rw [← HH.out.2.1]; exact HH.out.2.2.2.1) k
  have T4 : Turns (GFoot G) w w4 := (Turns.of_below hb03.drew).trans (GMem.turns_map t4)
  have H4 : Hid (GAt w4 G (P ++ (u, v) :: Q) (upd lv (u, v) 0) (upd tr (u, v) false) ∧ Turns (GFoot G) w w4) := ⟨hfo, T4⟩
  clear h3 h3' h4 t4 hfo T4 hb3 hb02 hb03
  dsimp only [ev, hv] at hrun4
  simp only [Int.natCast_zero] at hrun4
  go_region
  generalize w2.heap.size + 1 = be at *
  clear hrun4 z0 z1 c3
  have hlv : Levels G.n (P ++ Q) lv tr := by rw [← HH.out.2.1]; exact HH.out.1.lev
  have hnn : (u, v) ∉ P ++ Q := by rw [← HH.out.2.1]; exact HH.out.2.2.2.1
  cases qj with
  | true =>
    have HN : Hid (Added w w4 G A lv u v) := ⟨H4.out.2, P, Q, _, HH.out.2.1, H4.out.1, add_rest_levels hlv hnn (by have := HH.out.2.2.2.2.1; have := HH.out.2.2.2.2.2.1; omega) HH.out.2.2.2.2.2.1 (by rw [← HH.out.2.1]; exact HH.out.2.2.2.2.2.2.1.2 (HJ.out.1 rfl))⟩
    clear hlv hnn H4 HH
    go_wp2_with fail
    go_ret
    exact ⟨rfl, HN.out⟩
  | false =>
    have hnc : ¬ Conn (P ++ Q) u v := fun q => by
      rw [← HH.out.2.1] at q
      have := HJ.out.2 (HH.out.2.2.2.2.2.2.1.1 q)
      cases this
    have hpl := plant_at H4.out.1 (by simp) (upd_same ..) (by rw [upd_same]; exact GMem.k0 H4.out.1) (by
      rw [← newput_fo (lv := lv) (tr := tr) hnn 0]
      exact fun q => hnc ((hlv.tree u v).1 q))
    have HL : Hid (Levels G.n (P ++ (u, v) :: Q) (upd lv (u, v) 0) (upd (upd tr (u, v) false) (u, v) true)) := add_tree_levels hlv hnn (by have := HH.out.2.2.2.2.1; have := HH.out.2.2.2.2.2.1; omega) HH.out.2.2.2.2.2.1 hnc
    clear hlv hnn hnc
    dsimp only [ev] at hpl
    go_wp2_with fail
    refine hpl.mono ?_
    rintro e w5 ⟨rfl, t5, h5⟩
    have HN : Hid (Added w w5 G A lv u v) := ⟨H4.out.2.trans t5, P, Q, _, HH.out.2.1, h5, HL.out⟩
    clear hpl t5 h5 H4 HH HL
    go_wp2_with fail
    go_ret
    exact ⟨rfl, HN.out⟩

end Go.Proofs.YtcebfloeikjjcabGreat.Gr
