/-
  Mh Gl
-/
import Derived.Test.YtcfemppdeidjmacGreatW14
import Derived.Test.YtcfemppdeidjmacGreatW13
import Derived.Test.YtcfemppdeidjmacGreatW9
namespace Go.Proofs.YtcfemppdeidjmacGreat.Gr
set_option linter.unusedSectionVars false
variable [Inhabited Zed]
open Go.RowKit Go.Deep Go.Maps
open Go.RowKit (Below)
set_option linter.unusedVariables false

variable {w wr w' : World} {G : GPl} {A A' P Q : List (Nat × Nat)} {lv lv' : Nat × Nat → Nat} {tr tr' : Nat × Nat → Bool} {X Y : Nat → List (Nat × Nat)} {a b u v : Nat}

structure GOk (w : World) (G : GPl) (A : List (Nat × Nat)) (lv : Nat × Nat → Nat) (tr : Nat × Nat → Bool) : Prop where
  at_ : GAt w G A lv tr
  lev : Levels G.n A lv tr

theorem GOk.mem (h : GOk w G A lv tr) : GMem w G A lv tr (Fo A lv tr) := h.at_
theorem GOk.below (h : GOk w G A lv tr) (hb : Below w.heap.size w w') : GOk w' G A lv tr := ⟨GMem.below h.at_ hb, h.lev⟩

theorem GMem.newput (h : GMem w G (P ++ Q) lv tr X) (hn : (u, v) ∉ P ++ Q) (hr : Rises (P ++ (u, v) :: Q)) (huv : u < v) (hv2 : v < G.n) (hl : (P ++ Q).length < 200) :
    ∃ w', (Instr.mapUpdate 85 (.map (some G.mb)) (ev u v) (hv 0 false)).run Tryz.prog w = .ok () w' ∧ GMem w' G (P ++ (u, v) :: Q) (upd lv (u, v) 0) (upd tr (u, v) false) X ∧ w.mapTurned w' G.mb := by
  obtain ⟨D, hD⟩ := h.map
  have h60 := h.n60
  have hm : ∀ e, e ∈ P ++ (u, v) :: Q ↔ e = (u, v) ∨ e ∈ P ++ Q := fun e => by
    simp only [List.mem_append, List.mem_cons]
    constructor
    · rintro (q | q | q)
      · exact Or.inr (Or.inl q)
      · exact Or.inl q
      · exact Or.inr (Or.inr q)
    · rintro (q | q | q)
      · exact Or.inr (Or.inl q)
      · exact Or.inl q
      · exact Or.inr (Or.inr q)
  obtain ⟨w', D', hrun, hD', ht⟩ := hD.put (A' := P ++ (u, v) :: Q) (lv' := upd lv (u, v) 0) (tr' := upd tr (u, v) false) (by omega) (by omega) (by omega) 0 false hm (by rw [if_neg hn]; simp; omega) ⟨upd_same .., upd_same ..⟩ (fun e _ hne => ⟨upd_other hne, upd_other hne⟩)
  refine ⟨w', hrun, h.mapped ⟨D', hD'⟩ ht hr (fun e he => ?_) (fun e he => ?_) (by simp at hl ⊢; omega), ht⟩
  · rcases (hm e).1 he with rfl | q
    · exact ⟨by show u < G.n; omega, hv2⟩
    · exact h.among e q
  · rcases (hm e).1 he with rfl | q
    · exact huv
    · exact h.less e q

theorem GMem.del (h : GMem w G (P ++ (u, v) :: Q) lv tr X) (ty : TypeId) :
    ∃ w', (Builtin.delete_ #[85, 44] ty #[.map (some G.mb), ev u v]).run Tryz.prog w = .ok (.tuple #[]) w' ∧ GMem w' G (P ++ Q) lv tr X ∧ w.mapTurned w' G.mb := by
  obtain ⟨D, hD⟩ := h.map
  have h60 := h.n60
  have he := h.node (e := (u, v)) (by simp)
  have hnd := rises_nodup h.rises
  have hn : (u, v) ∉ P ++ Q := (List.nodup_cons.1 (List.perm_middle.nodup_iff.1 hnd)).1
  obtain ⟨w', D', hrun, hD', ht⟩ := hD.drop (A' := P ++ Q) (by have := he.1; omega) (by have := he.2.1; omega) hn List.perm_middle ty
  have hs : ∀ e, e ∈ P ++ Q → e ∈ P ++ (u, v) :: Q := fun e he => by
    rcases List.mem_append.1 he with q | q
    · exact List.mem_append_left _ q
    · exact List.mem_append_right _ (List.mem_cons_of_mem _ q)
  refine ⟨w', hrun, h.mapped ⟨D', hD'⟩ ht ?_ (fun e he => h.among e (hs e he)) (fun e he => h.less e (hs e he)) ?_, ht⟩
  · have := h.rises
    unfold Rises at this ⊢
    rw [List.pairwise_append] at this ⊢
    exact ⟨this.1, (List.pairwise_cons.1 this.2.1).2, fun x hx y hy => this.2.2 x hx y (List.mem_cons_of_mem _ hy)⟩
  · have := h.m200
    simp at this ⊢
    omega

theorem newput_fo (hn : (u, v) ∉ P ++ Q) (k : Nat) : Fo (P ++ Q) lv tr k = Fo (P ++ (u, v) :: Q) (upd lv (u, v) 0) (upd tr (u, v) false) k := by
  rw [Fo_split, if_neg (by rw [upd_same]; simp)]
  unfold Fo
  refine List.filter_congr fun e he => ?_
  have hne : e ≠ (u, v) := fun q => hn (q ▸ he)
  rw [upd_other hne, upd_other hne]

theorem add_rest_levels {n : Nat} (h : Levels n (P ++ Q) lv tr) (hn : (u, v) ∉ P ++ Q) (hu : u < n) (hv2 : v < n) (hc : Conn (P ++ Q) u v) : Levels n (P ++ (u, v) :: Q) (upd lv (u, v) 0) (upd tr (u, v) false) :=
  ((h.perm (List.Perm.refl _) fun e he => by
    have hne : e ≠ (u, v) := fun q => hn (q ▸ he)
    rw [upd_other hne, upd_other hne]; exact ⟨rfl, rfl⟩ : Levels n (P ++ Q) (upd lv (u, v) 0) (upd tr (u, v) false)).add_rest hu hv2 hc (upd_same ..) (upd_same ..)).perm List.perm_middle.symm fun _ _ => ⟨rfl, rfl⟩

theorem add_tree_levels {n : Nat} (h : Levels n (P ++ Q) lv tr) (hn : (u, v) ∉ P ++ Q) (hu : u < n) (hv2 : v < n) (hc : ¬ Conn (P ++ Q) u v) : Levels n (P ++ (u, v) :: Q) (upd lv (u, v) 0) (upd (upd tr (u, v) false) (u, v) true) :=
  ((h.perm (List.Perm.refl _) fun e he => by
    have hne : e ≠ (u, v) := fun q => hn (q ▸ he)
    rw [upd_other hne, upd_other hne, upd_other hne]; exact ⟨rfl, rfl⟩ : Levels n (P ++ Q) (upd lv (u, v) 0) (upd (upd tr (u, v) false) (u, v) true)).add_tree hu hv2 hc (upd_same ..) (upd_same ..)).perm List.perm_middle.symm fun _ _ => ⟨rfl, rfl⟩

theorem plant_at (h : GAt w G A lv tr) (he : (u, v) ∈ A) (ht : tr (u, v) = false) (hl : lv (u, v) < G.K) (hc : ¬ Conn (Fo A lv tr 0) u v) :
    Calls Tryz.prog 74 #[.pointer (some ⟨G.g, 0, none⟩), ev u v] w fun e w' => e = .returned (.tuple #[]) ∧ Turns (GFoot G) w w' ∧ GAt w' G A lv (upd tr (u, v) true) := by
  obtain ⟨g1, g2⟩ := plant_fo (GMem.rises h) he rfl ht
  refine (plant_any h (Y := Fo A lv (upd tr (u, v) true)) he ht _ rfl hl (fun k _ hk => hc (Fo.down (Nat.zero_le _) hk)) g1).mono ?_
  rintro e w1 ⟨rfl, t1, h1⟩
  refine ⟨rfl, t1, GMem.congr h1 fun i _ => ?_⟩
  unfold mixed
  by_cases c : i < lv (u, v) + 1
  · rw [if_pos c]
  · rw [if_neg c]; exact g2 i (by omega)

set_option maxHeartbeats 400000 in
theorem add_no (h : GOk w G A lv tr) (x y : Int) (hn : ¬ ((0 ≤ x ∧ x < G.n) ∧ 0 ≤ y ∧ y < G.n)) :
    Calls Tryz.prog 29 #[.pointer (some ⟨G.g, 0, none⟩), .int .i64 x, .int .i64 y] w fun e w' => e = .returned (.iface 102 (.int .i64 1)) ∧ Below w.heap.size w w' := by
  have hh := has_no h.mem x y hn
  clear h hn
  go_enter Tryz.func29, Tryz.ntmps29
  go_wp2_with fail
  refine hh.mono ?_
  rintro e w1 ⟨rfl, rfl⟩
  go_wp2_with fail
  go_ret
  exact ⟨rfl, Below.refl _ _⟩

set_option maxHeartbeats 400000 in
theorem add_shape (h : GOk w G A lv tr) (a : Nat) (ha : a < G.n) :
    Calls Tryz.prog 29 #[.pointer (some ⟨G.g, 0, none⟩), .int .i64 (a : Int), .int .i64 (a : Int)] w fun e w' => e = .returned (.iface 102 (.int .i64 2)) ∧ Below w.heap.size w w' := by
  have hh := has_any h.mem a a ha ha false (by simp; intro q; have := h.mem.less _ q; simp at this)
  clear h
  go_enter Tryz.func29, Tryz.ntmps29
  go_wp2_with fail
  refine hh.mono ?_
  rintro e w1 ⟨rfl, hb⟩
  go_wp2_with fail
  go_ret
  exact ⟨rfl, hb⟩

set_option maxHeartbeats 400000 in
theorem add_clash (h : GOk w G A lv tr) (a b : Nat) (ha : a < G.n) (hb : b < G.n) (hne : a ≠ b) (hin : (min a b, max a b) ∈ A) :
    Calls Tryz.prog 29 #[.pointer (some ⟨G.g, 0, none⟩), .int .i64 (a : Int), .int .i64 (b : Int)] w fun e w' => e = .returned (.iface 102 (.int .i64 6)) ∧ Below w.heap.size w w' := by
  have hh := has_any h.mem a b ha hb true (by simp [hin])
  have e1 : (((a : Nat) : Int) == ((b : Nat) : Int)) = false := by rw [beq_eq_false_iff_ne]; omega
  clear h hin hne
  go_enter Tryz.func29, Tryz.ntmps29
  go_wp2_with fail
  refine hh.mono ?_
  rintro e w1 ⟨rfl, hb⟩
  go_wp2_with fail
  go_ret
  exact ⟨rfl, hb⟩

set_option maxHeartbeats 1000000 in
theorem add_full (h : GOk w G A lv tr) (a b : Nat) (ha : a < G.n) (hb : b < G.n) (hne : a ≠ b) (hin : (min a b, max a b) ∉ A) (hl : 200 ≤ A.length) :
    Calls Tryz.prog 29 #[.pointer (some ⟨G.g, 0, none⟩), .int .i64 (a : Int), .int .i64 (b : Int)] w fun e w' => e = .returned (.iface 102 (.int .i64 3)) ∧ Below w.heap.size w w' := by
  have hh := has_any h.mem a b ha hb false (by simp [hin])
  have e1 : (((a : Nat) : Int) == ((b : Nat) : Int)) = false := by rw [beq_eq_false_iff_ne]; omega
  have HH : Hid (GMem w G A lv tr (Fo A lv tr)) := h.mem
  obtain ⟨m, hm⟩ : ∃ m, A.length = m := ⟨_, rfl⟩
  have h200 := h.mem.m200
  rw [hm] at hl h200
  have e2 : (200 : Int) ≤ (m : Nat) := by omega
  clear h hin hne
  go_enter Tryz.func29, Tryz.ntmps29
  go_wp2_with fail
  refine hh.mono ?_
  rintro e w1 ⟨rfl, hb1⟩
  have h1 := HH.out.below hb1
  have c1 := h1.c1
  obtain ⟨D, hD⟩ := h1.map
  have hln := fun ty => hD.len ty
  rw [hm] at hln
  clear h1 hD hh hm
  go_wp2_with fail
  go_ret
  exact ⟨rfl, hb1⟩

def Added (w w' : World) (G : GPl) (A : List (Nat × Nat)) (lv : Nat × Nat → Nat) (u v : Nat) : Prop :=
  Turns (GFoot G) w w' ∧ ∃ P Q tr', A = P ++ Q ∧ GOk w' G (P ++ (u, v) :: Q) (upd lv (u, v) 0) tr'

set_option maxRecDepth 100000 in
set_option maxHeartbeats 4000000 in
theorem add_any (h : GOk w G A lv tr) (a b : Nat) (ha : a < G.n) (hb : b < G.n) (hne : a ≠ b) (hin : (min a b, max a b) ∉ A) (hl : A.length < 200) :
    Calls Tryz.prog 29 #[.pointer (some ⟨G.g, 0, none⟩), .int .i64 (a : Int), .int .i64 (b : Int)] w fun e w' => e = .returned .nilIface ∧ Added w w' G A lv (min a b) (max a b) := by
  have hh := has_any h.mem a b ha hb false (by simp [hin])
  have e1 : (((a : Nat) : Int) == ((b : Nat) : Int)) = false := by rw [beq_eq_false_iff_ne]; omega
  obtain ⟨m, hm⟩ : ∃ m, A.length = m := ⟨_, rfl⟩
  rw [hm] at hl
  have e2 : ¬ ((200 : Int) ≤ (m : Nat)) := by omega
  have hn60 := h.mem.n60
  have HE : Hid (∀ W, Calls Tryz.prog 70 #[.int .i64 (a : Int), .int .i64 (b : Int)] W fun e w' => e = .returned (ev (min a b : Nat) (max a b : Nat)) ∧ w' = W.alloc (.cells #[.int .i64 (min a b : Nat), .int .i64 (max a b : Nat)] 44)) := fun W => gedgeOf_any a b (by omega) (by omega)
  have hcab : Conn A (min a b) (max a b) ↔ Conn A a b := by
    rcases Nat.le_total a b with q | q
    · rw [Nat.min_eq_left q, Nat.max_eq_right q]
    · rw [Nat.min_eq_right q, Nat.max_eq_left q]; exact ⟨fun z => (conn_eqv A).symm z, fun z => (conn_eqv A).symm z⟩
  have huv : min a b < max a b := by omega
  have hv2 : max a b < G.n := by omega
  obtain ⟨P, Q, hA, hr⟩ := rises_mid h.mem.rises hin
  generalize min a b = u at *
  generalize max a b = v at *
  have HH : Hid (GOk w G A lv tr ∧ A = P ++ Q ∧ Rises (P ++ (u, v) :: Q) ∧ (u, v) ∉ A ∧ u < v ∧ v < G.n ∧ (Conn A u v ↔ Conn A a b) ∧ A.length = m) := ⟨h, hA, hr, hin, huv, hv2, hcab, hm⟩
  clear h hin hne hA hr huv hv2 hcab hm
  go_enter Tryz.func29, Tryz.ntmps29
  go_wp2_with fail
  refine hh.mono ?_
  rintro e w1 ⟨rfl, hb1⟩
  have h1 := HH.out.1.below hb1
  have c1 := h1.mem.c1
  obtain ⟨D, hD⟩ := h1.mem.map
  have hln := fun ty => hD.len ty
  rw [HH.out.2.2.2.2.2.2.2] at hln
  obtain ⟨p, f1⟩ := h1.mem.zero
  have hj := joined_any h1.mem f1 a b ha hb
  obtain ⟨qj, hqj⟩ : ∃ qj, qj = decide (p a = p b) := ⟨_, rfl⟩
  rw [← hqj] at hj
  have HJ : Hid (qj = true ↔ Conn A a b) := by
    show qj = true ↔ Conn A a b
    rw [hqj, decide_eq_true_eq, f1.grown.rest.same a b]
    exact h1.lev.tree a b
  clear h1 hD hh f1 hqj
  go_wp2_with fail
  refine hj.mono ?_
  rintro e w2 ⟨rfl, hb2⟩
  have hb02 := below_step hb1 hb2
  clear hj hln c1 hb1 hb2
  go_wp2_with fail
  refine (HE.out _).mono ?_
  rintro e w3 ⟨rfl, rfl⟩
  dsimp only [ev]
  have hb3 : Below w2.heap.size w2 ((w2.alloc (.cells #[.int .i64 (u : Int), .int .i64 (v : Int)] 44)).alloc (.cells #[.int .i64 (u : Int), .int .i64 (v : Int)] 44)) := ((Below.refl _ _).alloc (Nat.le_refl _) _).alloc (by simp) _
  have z0 : ((w2.alloc (.cells #[.int .i64 (u : Int), .int .i64 (v : Int)] 44)).alloc (.cells #[.int .i64 (u : Int), .int .i64 (v : Int)] 44)).cell? ⟨w2.heap.size + 1, 0, none⟩ = some (.int .i64 (u : Int)) := by simp
  have z1 : ((w2.alloc (.cells #[.int .i64 (u : Int), .int .i64 (v : Int)] 44)).alloc (.cells #[.int .i64 (u : Int), .int .i64 (v : Int)] 44)).cell? ⟨w2.heap.size + 1, 1, none⟩ = some (.int .i64 (v : Int)) := by simp
  go_wp2_with fail
  generalize ((w2.alloc (.cells #[.int .i64 (u : Int), .int .i64 (v : Int)] 44)).alloc (.cells #[.int .i64 (u : Int), .int .i64 (v : Int)] 44)) = w3 at *
  have hb03 := below_step hb02 hb3
  have h3 := HH.out.1.below hb03
  have c3 := h3.mem.c1
  have h3' : GMem w3.drew G (P ++ Q) lv tr (Fo A lv tr) := by rw [← HH.out.2.1]; exact h3.mem.drew
  obtain ⟨w4, hrun4, h4, t4⟩ := h3'.newput (by rw [← HH.out.2.1]; exact HH.out.2.2.2.1) HH.out.2.2.1 HH.out.2.2.2.2.1 HH.out.2.2.2.2.2.1 (by rw [← HH.out.2.1, HH.out.2.2.2.2.2.2.2]; exact hl)
  have hbe : w.heap.size ≤ w2.heap.size + 1 := by have := hb02.size; omega
  have y0 : w4.cell? ⟨w2.heap.size + 1, 0, none⟩ = some (.int .i64 (u : Int)) := (World.cell?_of_block (w := w3.drew) (a := ⟨w2.heap.size + 1, 0, none⟩) (t4.grown.block _ (World.block_lt_of_cell? _ _ z0) (fun e => by
    have h5 := HH.out.1.mem.foot_lt (Or.inl rfl : GFoot G G.mb)
    have e9 := Option.some.inj e
    simp only at e9
    omega))).trans z0
  have y1 : w4.cell? ⟨w2.heap.size + 1, 1, none⟩ = some (.int .i64 (v : Int)) := (World.cell?_of_block (w := w3.drew) (a := ⟨w2.heap.size + 1, 1, none⟩) (t4.grown.block _ (World.block_lt_of_cell? _ _ z1) (fun e => by
    have h5 := HH.out.1.mem.foot_lt (Or.inl rfl : GFoot G G.mb)
    have e9 := Option.some.inj e
    simp only at e9
    omega))).trans z1
  have hfo : GAt w4 G (P ++ (u, v) :: Q) (upd lv (u, v) 0) (upd tr (u, v) false) := h4.congr fun k _ => by
    rw [HH.out.2.1]
    exact newput_fo (by rw [← HH.out.2.1]; exact HH.out.2.2.2.1) k
  have T4 : Turns (GFoot G) w w4 := (Turns.of_below hb03.drew).trans (GMem.turns_map t4)
  have H4 : Hid (GAt w4 G (P ++ (u, v) :: Q) (upd lv (u, v) 0) (upd tr (u, v) false) ∧ Turns (GFoot G) w w4) := ⟨hfo, T4⟩
  clear h3 h3' h4 t4 hfo T4 hb3 hb02 hb03
  dsimp only [ev, hv] at hrun4
  simp only [Int.natCast_zero] at hrun4
  go_region
  generalize w2.heap.size + 1 = be at *
  clear hrun4 z0 z1 c3
  have hlv : Levels G.n (P ++ Q) lv tr := by rw [← HH.out.2.1]; exact HH.out.1.lev
  have hnn : (u, v) ∉ P ++ Q := by rw [← HH.out.2.1]; exact HH.out.2.2.2.1
  cases qj with
  | true =>
    have HN : Hid (Added w w4 G A lv u v) := ⟨H4.out.2, P, Q, _, HH.out.2.1, H4.out.1, add_rest_levels hlv hnn (by have := HH.out.2.2.2.2.1; have := HH.out.2.2.2.2.2.1; omega) HH.out.2.2.2.2.2.1 (by rw [← HH.out.2.1]; exact HH.out.2.2.2.2.2.2.1.2 (HJ.out.1 rfl))⟩
    clear hlv hnn H4 HH
    go_wp2_with fail
    go_ret
    exact ⟨rfl, HN.out⟩
  | false =>
    have hnc : ¬ Conn (P ++ Q) u v := fun q => by
      rw [← HH.out.2.1] at q
      have := HJ.out.2 (HH.out.2.2.2.2.2.2.1.1 q)
      cases this
    have hpl := plant_at H4.out.1 (by simp) (upd_same ..) (by rw [upd_same]; exact GMem.k0 H4.out.1) (by
      rw [← newput_fo (lv := lv) (tr := tr) hnn 0]
      exact fun q => hnc ((hlv.tree u v).1 q))
    have HL : Hid (Levels G.n (P ++ (u, v) :: Q) (upd lv (u, v) 0) (upd (upd tr (u, v) false) (u, v) true)) := add_tree_levels hlv hnn (by have := HH.out.2.2.2.2.1; have := HH.out.2.2.2.2.2.1; omega) HH.out.2.2.2.2.2.1 hnc
    clear hlv hnn hnc
    dsimp only [ev] at hpl
    go_wp2_with fail
    refine hpl.mono ?_
    rintro e w5 ⟨rfl, t5, h5⟩
    have HN : Hid (Added w w5 G A lv u v) := ⟨H4.out.2.trans t5, P, Q, _, HH.out.2.1, h5, HL.out⟩
    clear hpl t5 h5 H4 HH HL
    go_wp2_with fail
    go_ret
    exact ⟨rfl, HN.out⟩

end Go.Proofs.YtcfemppdeidjmacGreat.Gr

namespace Go.Proofs.YtcfemppdeidjmacGreat.Gr
set_option linter.unusedSectionVars false
variable [Inhabited Zed]
open Go.RowKit Go.Deep Go.Maps
open Go.RowKit (Below)
set_option linter.unusedVariables false

variable {w wr w' : World} {G : GPl} {A A' P Q : List (Nat × Nat)} {lv lv' : Nat × Nat → Nat} {tr tr' : Nat × Nat → Bool} {X Y : Nat → List (Nat × Nat)} {a b u v : Nat}

set_option maxHeartbeats 400000 in
theorem drop_no (h : GOk w G A lv tr) (x y : Int) (hn : ¬ ((0 ≤ x ∧ x < G.n) ∧ 0 ≤ y ∧ y < G.n)) :
    Calls Tryz.prog 28 #[.pointer (some ⟨G.g, 0, none⟩), .int .i64 x, .int .i64 y] w fun e w' => e = .returned (.iface 102 (.int .i64 1)) ∧ Below w.heap.size w w' := by
  have hh := find_no h.mem x y hn
  clear h hn
  dsimp only [hv] at hh
  go_enter Tryz.func28, Tryz.ntmps28
  go_wp2_with fail
  refine hh.mono ?_
  rintro e w1 ⟨rfl, hb⟩
  go_wp2_with fail
  go_ret
  exact ⟨rfl, below_step hb ((Below.refl _ _).alloc (Nat.le_refl _) _)⟩

set_option maxHeartbeats 400000 in
theorem drop_none (h : GOk w G A lv tr) (a b : Nat) (ha : a < G.n) (hb : b < G.n) (hn : (min a b, max a b) ∉ A) :
    Calls Tryz.prog 28 #[.pointer (some ⟨G.g, 0, none⟩), .int .i64 (a : Int), .int .i64 (b : Int)] w fun e w' => e = .returned (.iface 102 (.int .i64 4)) ∧ Below w.heap.size w w' := by
  have hh := find_none h.mem a b ha hb hn
  clear h hn
  dsimp only [hv] at hh
  go_enter Tryz.func28, Tryz.ntmps28
  go_wp2_with fail
  refine hh.mono ?_
  rintro e w1 ⟨rfl, hb⟩
  go_wp2_with fail
  go_ret
  exact ⟨rfl, below_step hb ((Below.refl _ _).alloc (Nat.le_refl _) _)⟩

def Dropped (w w' : World) (G : GPl) (A : List (Nat × Nat)) (lv : Nat × Nat → Nat) (u v : Nat) : Prop :=
  Turns (GFoot G) w w' ∧ ∃ P Q lv' tr', A = P ++ (u, v) :: Q ∧ GOk w' G (P ++ Q) lv' tr' ∧ ∀ e ∈ P ++ Q, lv e ≤ lv' e

theorem fell_at (h : GMem w G (P ++ Q) lv tr (Fo (P ++ (u, v) :: Q) lv tr)) (ht : tr (u, v) = true) (l : Nat) (hl : lv (u, v) = l) (hl2 : l < G.K) (huv : u < v) (hv2 : v < G.n) :
    Calls Tryz.prog 71 #[.pointer (some ⟨G.g, 0, none⟩), ev u v, .int .i64 (l : Nat)] w fun e w' => e = .returned (.tuple #[]) ∧ Turns (GFoot G) w w' ∧ GAt w' G (P ++ Q) lv tr := by
  have hap : ∀ k, Fo (P ++ Q) lv tr k = Fo P lv tr k ++ Fo Q lv tr k := fun k => by unfold Fo; rw [List.filter_append]
  refine (fell_any h (Y := Fo (P ++ Q) lv tr) huv hv2 l hl2 (fun k hk => ⟨Fo P lv tr k, Fo Q lv tr k, by rw [Fo_split, if_pos ⟨ht, by omega⟩], hap k⟩)).mono ?_
  rintro e w1 ⟨rfl, t1, h1⟩
  refine ⟨rfl, t1, GMem.congr h1 fun i _ => ?_⟩
  unfold mixed
  by_cases c : i < l + 1
  · rw [if_pos c]
  · rw [if_neg c, Fo_split, if_neg (by omega)]

set_option maxRecDepth 100000 in
set_option maxHeartbeats 4000000 in
theorem drop_any (h : GOk w G A lv tr) (a b : Nat) (ha : a < G.n) (hb : b < G.n) (hin : (min a b, max a b) ∈ A) :
    Calls Tryz.prog 28 #[.pointer (some ⟨G.g, 0, none⟩), .int .i64 (a : Int), .int .i64 (b : Int)] w fun e w' => e = .returned .nilIface ∧ Dropped w w' G A lv (min a b) (max a b) := by
  obtain ⟨l, hl⟩ : ∃ l, lv (min a b, max a b) = l := ⟨_, rfl⟩
  obtain ⟨t, ht⟩ : ∃ t, tr (min a b, max a b) = t := ⟨_, rfl⟩
  have hh := find_any h.mem a b ha hb hin l t hl ht
  have hn60 := h.mem.n60
  have hnd := h.mem.node hin
  have hlk : l < G.K := (h.mem.levels l).2 (by have := h.lev.level hin (by have := hnd.2.2; omega); rw [hl] at this; omega)
  have hk6 := h.mem.k10
  have HE : Hid (∀ W, Calls Tryz.prog 70 #[.int .i64 (a : Int), .int .i64 (b : Int)] W fun e w' => e = .returned (ev (min a b : Nat) (max a b : Nat)) ∧ w' = W.alloc (.cells #[.int .i64 (min a b : Nat), .int .i64 (max a b : Nat)] 44)) := fun W => gedgeOf_any a b (by omega) (by omega)
  simp only at hnd
  generalize min a b = u at *
  generalize max a b = v at *
  obtain ⟨P, Q, rfl⟩ := List.append_of_mem hin
  have HH : Hid (GOk w G (P ++ (u, v) :: Q) lv tr ∧ lv (u, v) = l ∧ tr (u, v) = t ∧ u < v ∧ v < G.n) := ⟨h, hl, ht, hnd.2.2, hnd.2.1⟩
  clear h hin hl ht hnd
  dsimp only [hv] at hh
  go_enter Tryz.func28, Tryz.ntmps28
  go_wp2_with fail
  refine hh.mono ?_
  rintro e w1 ⟨rfl, hb1⟩
  clear hh
  have hb2 : Below w1.heap.size w1 (w1.alloc (.cells #[.int .i64 (l : Nat), .bool t] 91)) := (Below.refl _ _).alloc (Nat.le_refl _) _
  have q0 : (w1.alloc (.cells #[.int .i64 (l : Nat), .bool t] 91)).cell? ⟨w1.heap.size, 0, none⟩ = some (.int .i64 (l : Nat)) := by simp
  have q1 : (w1.alloc (.cells #[.int .i64 (l : Nat), .bool t] 91)).cell? ⟨w1.heap.size, 1, none⟩ = some (.bool t) := by simp
  have hb02 := below_step hb1 hb2
  have hz1 := hb1.size
  go_wp2_with fail
  generalize (w1.alloc (.cells #[.int .i64 (l : Nat), .bool t] 91)) = w2 at *
  refine (HE.out _).mono ?_
  rintro e w3 ⟨rfl, rfl⟩
  dsimp only [ev]
  have hb3 : Below w2.heap.size w2 ((w2.alloc (.cells #[.int .i64 (u : Int), .int .i64 (v : Int)] 44)).alloc (.cells #[.int .i64 (u : Int), .int .i64 (v : Int)] 44)) := ((Below.refl _ _).alloc (Nat.le_refl _) _).alloc (by simp) _
  have z0 : ((w2.alloc (.cells #[.int .i64 (u : Int), .int .i64 (v : Int)] 44)).alloc (.cells #[.int .i64 (u : Int), .int .i64 (v : Int)] 44)).cell? ⟨w2.heap.size + 1, 0, none⟩ = some (.int .i64 (u : Int)) := by simp
  have z1 : ((w2.alloc (.cells #[.int .i64 (u : Int), .int .i64 (v : Int)] 44)).alloc (.cells #[.int .i64 (u : Int), .int .i64 (v : Int)] 44)).cell? ⟨w2.heap.size + 1, 1, none⟩ = some (.int .i64 (v : Int)) := by simp
  clear hb1 hb2
  go_wp2_with fail
  replace q0 := cell_keep hb3 q0
  replace q1 := cell_keep hb3 q1
  have hb03 := below_step hb02 hb3
  have hbe : w.heap.size ≤ w2.heap.size + 1 := by have := hb02.size; omega
  generalize ((w2.alloc (.cells #[.int .i64 (u : Int), .int .i64 (v : Int)] 44)).alloc (.cells #[.int .i64 (u : Int), .int .i64 (v : Int)] 44)) = w3 at *
  have h3 := HH.out.1.below hb03
  have c3 := h3.mem.c1
  obtain ⟨w4, hrun4, h4, t4⟩ := h3.mem.drew.del (u := u) (v := v) 0
  have hF : ∀ c, GFoot G c → c < w.heap.size := fun c hc => HH.out.1.mem.foot_lt hc
  have T4 : Turns (GFoot G) w3 w4 := (Turns.of_below (Below.refl _ _).drew).trans (GMem.turns_map t4)
  replace z0 := z0
  have y0 := turn_cell hF hbe T4 z0
  have y1 := turn_cell hF hbe T4 z1
  have x0 := turn_cell hF hz1 T4 q0
  have x1 := turn_cell hF hz1 T4 q1
  have H4 : Hid (GMem w4 G (P ++ Q) lv tr (Fo (P ++ (u, v) :: Q) lv tr) ∧ Turns (GFoot G) w w4 ∧ ∀ c, GFoot G c → c < w.heap.size) := ⟨h4, (Turns.of_below hb03).trans T4, hF⟩
  clear h3 h4 t4 T4 hb3 hb02 hb03 hF
  dsimp only [ev] at hrun4
  go_region
  generalize w2.heap.size + 1 = be at *
  generalize w1.heap.size = bh at *
  clear hrun4 z0 z1 c3 q0 q1
  have hlv : Levels G.n ((u, v) :: (P ++ Q)) lv tr := HH.out.1.lev.perm List.perm_middle fun _ _ => ⟨rfl, rfl⟩
  cases t with
  | false =>
    have HN : Hid (Dropped w w4 G (P ++ (u, v) :: Q) lv u v) := ⟨H4.out.2.1, P, Q, lv, tr, rfl, ⟨H4.out.1.congr fun k _ => by rw [Fo_split, if_neg (by rw [HH.out.2.2.1]; simp)], hlv.drop_rest HH.out.2.2.1⟩, fun _ _ => Nat.le_refl _⟩
    clear hlv H4 HH
    go_wp2_with fail
    go_ret
    exact ⟨rfl, HN.out⟩
  | true =>
    have hfl := fell_at H4.out.1 HH.out.2.2.1 l HH.out.2.1 hlk HH.out.2.2.2.1 HH.out.2.2.2.2
    have HC : Hid (Cut G.n (P ++ Q) lv tr u v (l + 1)) := by
      have := hlv.cut HH.out.2.2.1
      rw [HH.out.2.1] at this
      exact this
    clear hlv
    dsimp only [ev] at hfl
    go_wp2_with fail
    refine hfl.mono ?_
    rintro e w5 ⟨rfl, t5, h5⟩
    have hmd := mend_any h5 l hlk HC.out
    replace y0 := turn_cell H4.out.2.2 hbe t5 y0
    replace y1 := turn_cell H4.out.2.2 hbe t5 y1
    replace x0 := turn_cell H4.out.2.2 hz1 t5 x0
    replace x1 := turn_cell H4.out.2.2 hz1 t5 x1
    have HT : Hid (Turns (GFoot G) w w5) := H4.out.2.1.trans t5
    clear hfl t5 h5 H4 HC
    dsimp only [ev] at hmd
    go_wp2_with fail
    refine hmd.mono ?_
    rintro e w6 ⟨rfl, t6, lv6, tr6, g1, g2, g3⟩
    have HN : Hid (Dropped w w6 G (P ++ (u, v) :: Q) lv u v) := ⟨HT.out.trans t6, P, Q, lv6, tr6, rfl, ⟨g1, g2⟩, g3⟩
    clear hmd t6 g1 g2 g3 HT HH
    go_wp2_with fail
    go_ret
    exact ⟨rfl, HN.out⟩

end Go.Proofs.YtcfemppdeidjmacGreat.Gr

namespace Go.Proofs.YtcfemppdeidjmacGreat.Gr
set_option linter.unusedSectionVars false
variable [Inhabited Zed]
open Go.RowKit Go.Deep Go.Maps
open Go.RowKit (Below)
set_option linter.unusedVariables false

variable {w wr w' : World} {G : GPl}

set_option maxHeartbeats 400000 in
theorem gnew_no {w : World} (n : Int) (hn : n < 1 ∨ 60 < n) :
    Calls Tryz.prog 45 #[.int .i64 n] w fun e w' => e = .returned (.tuple #[.pointer none, .iface 102 (.int .i64 1)]) ∧ w' = w := by
  rcases hn with hn | hn
  · go_enter Tryz.func45, Tryz.ntmps45
    go_wp2_with fail
    go_ret2
    exact ⟨rfl, rfl⟩
  · have h1 : ¬ n < 1 := by omega
    go_enter Tryz.func45, Tryz.ntmps45
    go_wp2_with fail
    go_ret2
    exact ⟨rfl, rfl⟩

def ptrs (L : Nat → Pl) (j : Nat) : List Value := (List.range j).map fun k => .pointer (some ⟨(L k).g, 0, none⟩)

theorem ptrs_succ (L : Nat → Pl) (j : Nat) : ptrs L (j + 1) = ptrs L j ++ [.pointer (some ⟨(L j).g, 0, none⟩)] := by simp [ptrs, List.range_succ]

structure Raised (w wr : World) (n : Nat) (L : Nat → Pl) (ad : Option Addr) (cap j : Nat) : Prop where
  st : wr.rowIs (w.heap.size + 1) 88 3 (fun i => if i = 0 then .int .i64 (n : Nat) else if i = 1 then .map (some w.heap.size) else .slice ad j cap)
  map : ∃ D, HMap wr w.heap.size D [] (fun _ => 0) (fun _ => false)
  own : wr.ownsRow (w.heap.size + 1 + 1) 40 1 (.slice ad j cap) j (ptrs L j)
  fo : ∀ k, k < j → FAt wr (L k) [] (fun i => i) ∧ (L k).n = n
  apart : ∀ i k, i < j → k < j → i ≠ k → ∀ b, Foot (L i) b → ¬ Foot (L k) b
  new : ∀ k, k < j → ∀ b, Foot (L k) b → w.heap.size + 1 + 1 ≤ b
  below : Below w.heap.size w wr
  more : w.heap.size + 1 + 1 ≤ wr.heap.size
  pos : ∀ k, k < j → 0 < n / 2 ^ k
  newg : ∀ k, k < j → w.heap.size ≤ (L k).g

set_option maxRecDepth 1000000 in
theorem Tryz.infoForestPtr : (Tryz.prog.info? 40).map (fun i => (i.zero, i.size, i.bytes)) = some (some (.pointer none), 1, 8) := by kernel_rfl

theorem raised_start (w : World) (n : Nat) (L : Nat → Pl) : Raised w ((w.alloc (.map #[] 0)).alloc (.cells #[.int .i64 (n : Nat), .map (some w.heap.size), .slice none 0 0] 88)) n L none 0 0 := by
  have hb : Below w.heap.size w ((w.alloc (.map #[] 0)).alloc (.cells #[.int .i64 (n : Nat), .map (some w.heap.size), .slice none 0 0] 88)) := ((Below.refl _ _).alloc (Nat.le_refl _) _).alloc (by simp) _
  have own := (World.ownsMap_made w Tryz.prog 44 heldElem).alloc (.cells #[.int .i64 (n : Nat), .map (some w.heap.size), .slice none 0 0] 88)
  have st := World.rowIs_alloc (w.alloc (.map #[] 0)) #[.int .i64 (n : Nat), .map (some w.heap.size), .slice none 0 0] 88 (fun i => if i = 0 then .int .i64 (n : Nat) else if i = 1 then .map (some w.heap.size) else .slice none 0 0) (fun i hi => by
    match i, hi with
    | 0, _ => rfl
    | 1, _ => rfl
    | 2, _ => rfl)
  have e : (w.alloc (.map #[] 0)).heap.size = w.heap.size + 1 := by simp
  rw [e] at st
  exact ⟨st, ⟨_, ⟨0, own⟩, fun v kl _ => by simp [Maps.has], rfl, fun e he => absurd he (by simp)⟩, World.ownsRow_nil .., fun k hk => absurd hk (Nat.not_lt_zero _), fun i k hi => absurd hi (Nat.not_lt_zero _), fun k hk => absurd hk (Nat.not_lt_zero _), hb, by simp, fun k hk => absurd hk (Nat.not_lt_zero _), fun k hk => absurd hk (Nat.not_lt_zero _)⟩

theorem addr_add (b j : Nat) : (⟨b, 0, none⟩ : Addr).add j = ⟨b, j, none⟩ := by unfold Addr.add; split <;> simp_all

def GAll (G : GPl) (b : Nat) : Prop := GFoot G b ∨ b = G.g ∨ b = G.fb ∨ ∃ k, k < G.K ∧ b = (G.L k).g

theorem Raised.done {n j cap : Nat} {L : Nat → Pl} {ad : Option Addr} (h : Raised w wr n L ad cap j) (h1 : 1 ≤ n) (h2 : n ≤ 60) (h0 : n / 2 ^ j = 0) :
    ∃ G : GPl, G.g = w.heap.size + 1 ∧ GOk wr G [] (fun _ => 0) (fun _ => false) ∧ G.n = n ∧ ∀ b, GAll G b → w.heap.size ≤ b := by
  have hj : 0 < j := by
    rcases Nat.eq_zero_or_pos j with rfl | q
    · rw [Nat.pow_zero, Nat.div_one] at h0; omega
    · exact q
  rcases h.own.2 with ⟨_, e⟩ | ⟨fb, cap', cur, hv, hb, hg, q1, q2, q3, q4⟩
  · omega
  · simp only [Value.slice.injEq] at hv
    obtain ⟨rfl, _, rfl⟩ := hv
    have hrow := h.own.cells (g := fb) rfl
    refine ⟨⟨w.heap.size + 1, w.heap.size, fb, j, cap, n, L⟩, rfl, ⟨⟨h.st.congr fun i hi => ?_, h.map, fun k hk => ?_, ⟨cur, _, hg⟩, fun k hk => ⟨_, by simpa [Fo] using (h.fo k hk).1⟩, fun k hk => (h.fo k hk).2, h.apart, fun k hk q => ?_, fun k => ⟨fun hk => h.pos k hk, fun hk => ?_⟩, h1, h2, List.Pairwise.nil, fun e he => absurd he (by simp), fun e he => absurd he (by simp), by simp⟩, levels_none ..⟩, rfl, fun b hb => ?_⟩
    · match i, hi with
      | 0, _ => rfl
      | 1, _ => rfl
      | 2, _ => rfl
    · have := hrow k (.pointer (some ⟨(L k).g, 0, none⟩)) (by simp only [ptrs]; rw [List.getElem?_map, List.getElem?_range hk]; rfl)
      rw [addr_add] at this
      exact this
    · have := h.new k hk _ q
      simp only at this
      omega
    · apply Nat.lt_of_not_le
      intro hle
      have : n / 2 ^ k ≤ n / 2 ^ j := Nat.div_le_div_left (Nat.pow_le_pow_right (by omega) hle) (Nat.pos_of_ne_zero (by simp))
      simp only at hk
      omega
    · rcases hb with hb | e | e | ⟨k, hk, e⟩
      rotate_left
      · rw [e]
        show _ ≤ w.heap.size + 1
        omega
      · rw [e]
        show _ ≤ fb
        omega
      · rw [e]
        exact h.newg k hk
      rcases hb with rfl | ⟨k, hk, hb⟩
      · exact Nat.le_refl _
      · have := h.new k hk b hb
        omega

theorem Raised.next {n j cap cap' g' : Nat} {L : Nat → Pl} {L' : Pl} {ad : Option Addr} {w1 w3 : World} (h : Raised w wr n L ad cap j) (hb1 : Below wr.heap.size wr w1) (f1 : FAt w1 L' [] (fun i => i)) (hn : L'.n = n) (hf : ∀ b, Foot L' b ∨ b = L'.g → wr.heap.size ≤ b)
    (ho : w3.ownsRow (w.heap.size + 1 + 1) 40 1 (.slice (some ⟨g', 0, none⟩) (j + 1) cap') (j + 1) (ptrs L j ++ [.pointer (some ⟨L'.g, 0, none⟩)])) (hg : (w1.alloc (.cells #[.pointer (some ⟨L'.g, 0, none⟩)] 40)).grownBy w3 (Value.slice ad j cap).ownBlock) (hp : 0 < n / 2 ^ j) :
    Raised w (w3.setCell ⟨w.heap.size + 1, 2, none⟩ (.slice (some ⟨g', 0, none⟩) (j + 1) cap')) n (fun k => if k = j then L' else L k) (some ⟨g', 0, none⟩) cap' (j + 1) ∧ w3.rowIs (w.heap.size + 1) 88 3 (fun i => if i = 0 then .int .i64 (n : Nat) else if i = 1 then .map (some w.heap.size) else .slice ad j cap) := by
  obtain ⟨W, hW⟩ : ∃ W, W = w1.alloc (.cells #[.pointer (some ⟨L'.g, 0, none⟩)] 40) := ⟨_, rfl⟩
  have hbW : Below w1.heap.size w1 W := by rw [hW]; exact (Below.refl _ _).alloc (Nat.le_refl _) _
  rw [← hW] at hg
  have hrW : Below wr.heap.size wr W := below_step hb1 hbW
  have hm := h.more
  have hs1 := hrW.size
  have hownW := h.own.kept (grown_below hrW) (own_ne0 h.own)
  have hlo : ∀ b, (Value.slice ad j cap).ownBlock = some b → w.heap.size + 1 + 1 ≤ b := fun b e => (h.own.lt b e).1
  have hbl : ∀ b, b < w.heap.size + 1 + 1 → w3.heap[b]? = wr.heap[b]? := fun b hb => (hg.block b (by omega) (fun e => by have := hlo b e.symm; omega)).trans (hrW.block b (by omega))
  have st3 := h.st.of_block (hbl _ (by omega))
  refine ⟨?_, st3⟩
  obtain ⟨F, hF⟩ : ∃ F : Nat → Prop, F = fun b => (Value.slice ad j cap).ownBlock = some b ∨ b = w.heap.size + 1 := ⟨_, rfl⟩
  have tn : Turns F W (w3.setCell ⟨w.heap.size + 1, 2, none⟩ (.slice (some ⟨g', 0, none⟩) (j + 1) cap')) := by
    refine ⟨hg.os, hg.tape, hg.output, by have := hg.size; simpa [World.setCell] using this, fun b hb hn => ?_⟩
    rw [hF] at hn
    rw [Below.heap_setCell _ _ _ _ (fun e => hn (Or.inr e))]
    exact hg.block b hb (fun e => hn (Or.inl e.symm))
  have htag : ∀ b, F b → ∃ t, Tag W b t ∧ (t = 40 ∨ t = 88) := fun b hb => by
    rw [hF] at hb
    rcases hb with e | rfl
    · rcases hownW.2 with ⟨q, _⟩ | ⟨g, c, cur, q, _, q3, _⟩
      · rw [q] at e; cases e
      · rw [q] at e
        have : g = b := Option.some.inj e
        subst this
        exact ⟨_, ⟨cur, _, q3⟩, Or.inl rfl⟩
    · exact ⟨_, rowIs_tag (h.st.of_block (hrW.block _ h.st.lt)), Or.inr rfl⟩
  have hrows : Rows W F := fun b t ht ho hb => by
    obtain ⟨t', ht', ho'⟩ := htag b hb
    have := tag_one ht ht'
    subst this
    rcases ho with rfl | rfl | rfl <;> revert ho' <;> decide
  have hoff : ∀ {L0 : Pl} {E0 : List (Nat × Nat)} {p0 : Nat → Nat}, FAt W L0 E0 p0 → ∀ b, Foot L0 b → ¬ F b := fun {L0 E0 p0} f b hb hfb => by
    obtain ⟨t', ht', ho'⟩ := htag b hfb
    exact fat_plain f b t' ht' (by rcases ho' with rfl | rfl <;> decide) hb
  have hfoW : ∀ k, k < j → FAt W (L k) [] (fun i => i) := fun k hk => (h.fo k hk).1.below hrW
  have hlt : ∀ k, k < j → ∀ b, Foot (L k) b → b < wr.heap.size := fun k hk b hb => by
    obtain ⟨DW, DE, m, -⟩ := (h.fo k hk).1.mem
    exact m.foot_lt hb
  refine ⟨(st3.set 2 _).congr fun i hi => ?_, ?_, ?_, fun k hk => ?_, fun i k hi hk hne b h1 h2 => ?_, fun k hk b hb => ?_, ?_, ?_, fun k hk => ?_, fun k hk => ?_⟩
  · match i, hi with
    | 0, _ => rfl
    | 1, _ => rfl
    | 2, _ => rfl
  · obtain ⟨D, hD⟩ := h.map
    exact ⟨D, hD.of_block ((Below.heap_setCell _ _ _ _ (by simp)).trans (hbl _ (by omega)))⟩
  · have e : ptrs (fun k => if k = j then L' else L k) (j + 1) = ptrs L j ++ [.pointer (some ⟨L'.g, 0, none⟩)] := by
      rw [ptrs_succ, if_pos rfl]
      congr 1
      unfold ptrs
      refine List.map_congr_left fun k hk => ?_
      show Value.pointer (some ⟨(if k = j then L' else L k).g, 0, none⟩) = _
      rw [if_neg (by have := List.mem_range.1 hk; omega)]
    rw [e]
    refine ho.kept (row := some (w.heap.size + 1)) ⟨rfl, rfl, rfl, by simp [World.setCell], fun k _ hne => Below.heap_setCell _ _ _ _ (fun q => hne (by rw [q]))⟩ (own_ne ho (by omega))
  · by_cases e : k = j
    · subst e
      rw [if_pos rfl]
      exact ⟨fat_turns (f1.below hbW) hrows (hoff (f1.below hbW)) tn, hn⟩
    · rw [if_neg e]
      exact ⟨fat_turns (hfoW k (by omega)) hrows (hoff (hfoW k (by omega))) tn, (h.fo k (by omega)).2⟩
  · by_cases ei : i = j
    · by_cases ek : k = j
      · omega
      · rw [if_pos ei] at h1
        rw [if_neg ek] at h2
        have := hf b (Or.inl h1)
        have := hlt k (by omega) b h2
        omega
    · rw [if_neg ei] at h1
      by_cases ek : k = j
      · rw [if_pos ek] at h2
        have := hf b (Or.inl h2)
        have := hlt i (by omega) b h1
        omega
      · rw [if_neg ek] at h2
        exact h.apart i k (by omega) (by omega) hne b h1 h2
  · by_cases e : k = j
    · rw [if_pos e] at hb
      have := hf b (Or.inl hb)
      omega
    · rw [if_neg e] at hb
      exact h.new k (by omega) b hb
  · have b1 : Below w.heap.size w W := h.below.trans (hrW.mono (by have := h.below.size; omega))
    exact (b1.grown hg (by omega) (fun k e => by have := hlo k e; omega)).setCell (by show w.heap.size ≤ w.heap.size + 1; omega) _
  · have := tn.size
    omega
  · by_cases e : k = j
    · subst e; exact hp
    · exact h.pos k (by omega)
  · by_cases e : k = j
    · rw [if_pos e]; have := hf _ (Or.inr rfl); omega
    · rw [if_neg e]; exact h.newg k (by omega)

set_option maxRecDepth 100000 in
set_option maxHeartbeats 4000000 in
theorem gnew_any {w : World} (n : Nat) (h1 : 1 ≤ n) (h2 : n ≤ 60) (hz : Zok w) :
    Calls Tryz.prog 45 #[.int .i64 (n : Nat)] w fun e w' => ∃ G : GPl, e = .returned (.tuple #[.pointer (some ⟨G.g, 0, none⟩), .nilIface]) ∧ Below w.heap.size w w' ∧ GOk w' G [] (fun _ => 0) (fun _ => false) ∧ G.n = n ∧ ∀ b, GAll G b → w.heap.size ≤ b := by
  have HZ : Hid (Zok w) := hz
  clear hz
  have hmm := @run_makeMap Tryz.prog
  obtain ⟨z0, hi0, hz0, hz1, hz2⟩ := info_parts Tryz.infoForestPtr
  have h1' : ¬ ((n : Int) < 1) := by omega
  have h2' : ¬ ((60 : Int) < (n : Int)) := by omega
  have HS : Hid (Raised w ((w.alloc (.map #[] 0)).alloc (.cells #[.int .i64 (n : Nat), .map (some w.heap.size), .slice none 0 0] 88)) n (fun _ => ⟨0, 0, 0, 0, 0⟩) none 0 0) := raised_start w n _
  go_enter Tryz.func45, Tryz.ntmps45
  go_wp2_with fail
  go_loopw [5, 6] (fun _ _ wr => ∃ (L : Nat → Pl) (ad : Option Addr) (cap j : Nat), Raised w wr n L ad cap j) (fun _ _ wr => 7 - (match wr.cell? ⟨w.heap.size + 1, 2, none⟩ with | some (.slice _ j _) => j | _ => 0))
  case atStart => exact ⟨_, _, _, _, HS.out⟩
  case round =>
    obtain ⟨L, ad, cap, j, hR⟩ := hrel
    have c2 := hR.st.cell (i := 2) (by omega)
    simp only [show ¬ (2 = 0) by omega, show ¬ (2 = 1) by omega, if_false] at c2
    have hj6 : j ≤ 6 := by
      apply Nat.le_of_not_lt
      intro q
      have q1 := hR.pos 6 q
      have e : n / 2 ^ 6 = 0 := Nat.div_eq_of_lt (by omega)
      omega
    have HR : Hid (Raised w wr n L ad cap j) := hR
    obtain ⟨m, hm⟩ : ∃ m, n / 2 ^ j = m := ⟨_, rfl⟩
    have ec : ((n : Int) / 2 ^ j) = (m : Int) := by rw [← hm]; push_cast; rfl
    have HM : Hid (n / 2 ^ j = m) := hm
    clear hR hm
    by_cases hp : 0 < m
    · have e1 : (0 : Int) < (n : Int) / 2 ^ j := by rw [ec]; omega
      have hnw := fnew_any (w := wr) n h1 h2 (HZ.out.turn (by have := HR.out.more; omega))
      clear ec
      go_wp2_with fail
      refine hnw.mono ?_
      rintro e w1 ⟨L', rfl, hb1, f1, hn1, hf1⟩
      have hR := HR.out
      have st1 := hR.st.of_block (hb1.block _ hR.st.lt)
      have ho1 := hR.own.kept (grown_below hb1) (own_ne0 hR.own)
      have c21 := cell_keep hb1 c2
      have hcn : ∀ i u, [Value.pointer (some ⟨L'.g, 0, none⟩)][i]? = some u → (w1.alloc (.cells #[.pointer (some ⟨L'.g, 0, none⟩)] 40)).cell? (Addr.add ⟨w1.heap.size, 0, none⟩ i) = some u := fun i u hi => by
        match i, hi with
        | 0, hi => cases hi; simp [Addr.add]
      have hm1 : w.heap.size + 1 + 1 ≤ w1.heap.size := Nat.le_trans hR.more hb1.size
      clear hR hnw
      go_wp2_with (first
        | (at_builtin; refine wpList_append_own _ rfl (.tmp 38) (.tmp 40) 86 rfl (w.heap.size + 1 + 1) 40 z0 (.pointer none) 1 8 Tryz.underlying86 hi0 hz0 hz1 hz2 rfl (by decide) (.slice ad j cap) j (ptrs L j) rfl (ho1.alloc _) ⟨w1.heap.size, 0, none⟩ 1 1 [.pointer (some ⟨L'.g, 0, none⟩)] rfl rfl hcn (by simp [Value.oneCell']) ?c3 ?c4 ?c5 ?_))
      case c3 => unfold maxLen; omega
      case c4 => omega
      case c5 => simp; omega
      intro v' w3 hown' hgrow hnil
      obtain ⟨g', cap', rfl⟩ : ∃ g' cap', v' = .slice (some ⟨g', 0, none⟩) (j + 1) cap' := by
        rcases hown'.2 with ⟨_, h0⟩ | ⟨g, cap, _, rfl, _⟩
        · omega
        · exact ⟨g, cap, rfl⟩
      have hN := HR.out.next hb1 f1 hn1 hf1 hown' hgrow (by rw [HM.out]; exact hp)
      have HN : Hid (Raised w (w3.setCell ⟨w.heap.size + 1, 2, none⟩ (.slice (some ⟨g', 0, none⟩) (j + 1) cap')) n (fun k => if k = j then L' else L k) (some ⟨g', 0, none⟩) cap' (j + 1)) := hN.1
      have f2 := hN.2.frozen 2
      have q2 := hN.2.cell (i := 2) (by omega)
      have HC : Hid (wr.cell? ⟨w.heap.size + 1, 2, none⟩ = some (.slice ad j cap) ∧ (w3.setCell ⟨w.heap.size + 1, 2, none⟩ (.slice (some ⟨g', 0, none⟩) (j + 1) cap')).cell? ⟨w.heap.size + 1, 2, none⟩ = some (.slice (some ⟨g', 0, none⟩) (j + 1) cap')) := ⟨c2, hN.1.st.cell (i := 2) (by omega)⟩
      clear hN hown' hgrow hnil hcn f1 hb1 hf1 ho1 st1 HR hn1
      simp only [show ¬ (2 = 0) by omega, show ¬ (2 = 1) by omega, if_false] at q2
      go_wp2_with fail
      go_roundw
      case rel => exact ⟨_, _, _, _, HN.out⟩
      case measure => rw [HC.out.1, HC.out.2]; simp only; omega
    · have e1 : ¬ (0 : Int) < (n : Int) / 2 ^ j := by rw [ec]; omega
      have HD : Hid (∃ G : GPl, G.g = w.heap.size + 1 ∧ GOk wr G [] (fun _ => 0) (fun _ => false) ∧ G.n = n ∧ ∀ b, GAll G b → w.heap.size ≤ b) := HR.out.done h1 h2 (by have := HM.out; omega)
      clear ec
      go_wp2_with fail
      go_ret2
      obtain ⟨G, q1, q2, q3, q4⟩ := HD.out
      exact ⟨G, by rw [q1]; rfl, HR.out.below, q2, q3, q4⟩

end Go.Proofs.YtcfemppdeidjmacGreat.Gr

namespace Go.Proofs.YtcfemppdeidjmacGreat.Gr
set_option linter.unusedSectionVars false
variable [Inhabited Zed]
open Go.RowKit Go.Deep Go.Maps
open Go.RowKit (Below)
set_option linter.unusedVariables false

variable {w wr w' : World} {G : GPl} {A A' P Q : List (Nat × Nat)} {lv lv' : Nat × Nat → Nat} {tr tr' : Nat × Nat → Bool} {a b u v : Nat}

theorem filter_tree : A.filter tr = Fo A lv tr 0 := by unfold Fo; exact List.filter_congr fun e _ => by simp

set_option maxRecDepth 100000 in
theorem gedges_any (h : GOk w G A lv tr) (N : Nat) (hN : A.length = N) :
    Calls Tryz.prog 11 #[.pointer (some ⟨G.g, 0, none⟩)] w fun e w' => ∃ ad c, e = .returned (.slice ad N c) ∧ Below w.heap.size w w' ∧ EdgesAt w' ad A ∧ (∀ c, ad = some ⟨c, 0, none⟩ → w.heap.size ≤ c) ∧ N ≤ c ∧ c ≤ maxLen := by
  have hp := picked_any h.mem (fun _ => true) 47 #[] (enters_of Tryz.func47 (by kernel_rfl) rfl) (fun W _ e _ => pickA_any e.1 e.2 (lv e) (tr e) W)
  rw [List.filter_eq_self.2 (fun _ _ => rfl)] at hp
  rw [hN] at hp
  clear h hN
  go_enter Tryz.func11, Tryz.ntmps11
  go_wp2_with fail
  refine hp.mono ?_
  rintro e w1 ⟨ad, c, rfl, hb, hE, hf, h1, h2⟩
  clear hp
  go_wp2_with fail
  go_ret
  exact ⟨ad, c, rfl, hb, hE, hf, h1, h2⟩

set_option maxRecDepth 100000 in
theorem gtree_any (h : GOk w G A lv tr) (N : Nat) (hN : (Fo A lv tr 0).length = N) :
    Calls Tryz.prog 12 #[.pointer (some ⟨G.g, 0, none⟩)] w fun e w' => ∃ ad c, e = .returned (.slice ad N c) ∧ Below w.heap.size w w' ∧ EdgesAt w' ad (Fo A lv tr 0) ∧ (∀ c, ad = some ⟨c, 0, none⟩ → w.heap.size ≤ c) ∧ N ≤ c ∧ c ≤ maxLen := by
  have hp := picked_any h.mem tr 48 #[] (enters_of Tryz.func48 (by kernel_rfl) rfl) (fun W _ e _ => pickT_any e.1 e.2 (lv e) (tr e) W)
  rw [filter_tree (lv := lv)] at hp
  rw [hN] at hp
  clear h hN
  go_enter Tryz.func12, Tryz.ntmps12
  go_wp2_with fail
  refine hp.mono ?_
  rintro e w1 ⟨ad, c, rfl, hb, hE, hf, h1, h2⟩
  clear hp
  go_wp2_with fail
  go_ret
  exact ⟨ad, c, rfl, hb, hE, hf, h1, h2⟩

theorem GOk.tree_le (h : GOk w G A lv tr) : (Fo A lv tr 0).length ≤ G.n := by
  obtain ⟨p, hp⟩ := rest_of (Fo A lv tr 0)
  have := ((forest_parts (n := G.n) (fun e he => h.lev.among e (mem_Fo.1 he).1) hp).2).1 h.lev.forest
  omega

set_option maxRecDepth 100000 in
set_option maxHeartbeats 1000000 in
theorem gparts_any (h : GOk w G A lv tr) (N : Nat) (hN : (Fo A lv tr 0).length = N) :
    Calls Tryz.prog 23 #[.pointer (some ⟨G.g, 0, none⟩)] w fun e w' => e = .returned (.int .i64 ((G.n - N : Nat) : Int)) ∧ Below w.heap.size w w' := by
  have hd : Below w.heap.size w w.drew := (Below.refl _ _).drew
  have ht := gtree_any (h.below hd) N hN
  have c0 := h.mem.c0
  have hle := h.tree_le
  rw [hN] at hle
  have hn60 := h.mem.n60
  clear h hN
  generalize G.n = n at *
  go_enter Tryz.func23, Tryz.ntmps23
  go_wp2_with fail
  go_region_held3 (fun V => V.cell? ⟨G.g, 0, none⟩ = some (.int .i64 (n : Nat))) (first | (go_keep; done) | exact c0 | exact cell_keep hb c0)
    (first
      | (go_at_call 12; refine ht.mono ?_; rintro e w1 ⟨ad, c, rfl, hb, hE, hf, h1, h2⟩))
  clear hE hf ht
  have hwr : IntKind.i64.wrap ((n : Int) - (N : Int)) = ((n - N : Nat) : Int) := by rw [IntKind.wrap_i64]; omega
  rw [hwr]
  clear hwr
  go_wp2_with fail
  go_ret
  exact ⟨rfl, below_step hd hb⟩

structure Grew (A : List (Nat × Nat)) (lv : Nat × Nat → Nat) (A' : List (Nat × Nat)) (lv' : Nat × Nat → Nat) : Prop where
  old : ∀ e ∈ A', e ∈ A → lv e ≤ lv' e
  new : ∀ e ∈ A', e ∉ A → lv' e = 0
  len : A'.length ≤ A.length + 1

theorem Grew.refl (A : List (Nat × Nat)) (lv : Nat × Nat → Nat) : Grew A lv A lv := ⟨fun _ _ _ => Nat.le_refl _, fun e h h' => absurd h h', Nat.le_succ _⟩

theorem grew_add (hn : (u, v) ∉ P ++ Q) : Grew (P ++ Q) lv (P ++ (u, v) :: Q) (upd lv (u, v) 0) := by
  refine ⟨fun e _ he => ?_, fun e he hne => ?_, by simp; omega⟩
  · have hne : e ≠ (u, v) := fun q => hn (by rw [← q]; exact he)
    rw [upd_other hne]; exact Nat.le_refl _
  · have : e = (u, v) := by
      rcases List.mem_append.1 he with q | q
      · exact absurd (List.mem_append_left _ q) hne
      · rcases List.mem_cons.1 q with q | q
        · exact q
        · exact absurd (List.mem_append_right _ q) hne
    rw [this]; exact upd_same ..

theorem grew_drop (h : ∀ e ∈ P ++ Q, lv e ≤ lv' e) : Grew (P ++ (u, v) :: Q) lv (P ++ Q) lv' :=
  ⟨fun e he _ => h e he, fun e he hne => absurd (by
    rcases List.mem_append.1 he with q | q
    · exact List.mem_append_left _ q
    · exact List.mem_append_right _ (List.mem_cons_of_mem _ q)) hne, by simp; omega⟩

structure GW (w0 : World) (G : GPl) (A : List (Nat × Nat)) (lv : Nat × Nat → Nat) (tr : Nat × Nat → Bool) (w : World) : Prop where
  ok : GOk w G A lv tr
  below : Below w0.heap.size w0 w
  foot : ∀ c, GFoot G c → w0.heap.size ≤ c

theorem GW.step {w0 : World} (h : GW w0 G A lv tr w) (hb : Below w.heap.size w w') : GW w0 G A lv tr w' := ⟨h.ok.below hb, h.below.trans (hb.mono h.below.size), h.foot⟩

theorem GW.turn {w0 : World} (h : GW w0 G A lv tr w) (t : Turns (GFoot G) w w') (h' : GOk w' G A' lv' tr') : GW w0 G A' lv' tr' w' := ⟨h', t.below h.below h.below.size h.foot, h.foot⟩

def Changed (w0 w : World) (G : GPl) (A : List (Nat × Nat)) (lv : Nat × Nat → Nat) (e : Ending) (w' : World) : Prop :=
  ∃ err A' lv' tr', e = .returned err ∧ Turns (GFoot G) w w' ∧ GW w0 G A' lv' tr' w' ∧ Grew A lv A' lv'

theorem add_u {w0 : World} (h : GW w0 G A lv tr w) (x y : Int) (hl : A.length < 200) :
    Calls Tryz.prog 29 #[.pointer (some ⟨G.g, 0, none⟩), .int .i64 x, .int .i64 y] w (Changed w0 w G A lv) := by
  by_cases hn : (0 ≤ x ∧ x < G.n) ∧ 0 ≤ y ∧ y < G.n
  · obtain ⟨a, rfl⟩ := Int.eq_ofNat_of_zero_le hn.1.1
    obtain ⟨b, rfl⟩ := Int.eq_ofNat_of_zero_le hn.2.1
    by_cases hab : a = b
    · subst hab
      refine (add_shape h.ok a (by omega)).mono ?_
      rintro e w1 ⟨rfl, hb⟩
      exact ⟨_, A, lv, tr, rfl, Turns.of_below hb, h.step hb, Grew.refl A lv⟩
    · by_cases hin : (min a b, max a b) ∈ A
      · refine (add_clash h.ok a b (by omega) (by omega) hab hin).mono ?_
        rintro e w1 ⟨rfl, hb⟩
        exact ⟨_, A, lv, tr, rfl, Turns.of_below hb, h.step hb, Grew.refl A lv⟩
      · refine (add_any h.ok a b (by omega) (by omega) hab hin hl).mono ?_
        rintro e w1 ⟨rfl, t1, P, Q, tr', rfl, h1⟩
        exact ⟨_, _, _, tr', rfl, t1, h.turn t1 h1, grew_add hin⟩
  · refine (add_no h.ok x y hn).mono ?_
    rintro e w1 ⟨rfl, hb⟩
    exact ⟨_, A, lv, tr, rfl, Turns.of_below hb, h.step hb, Grew.refl A lv⟩

theorem drop_u {w0 : World} (h : GW w0 G A lv tr w) (x y : Int) :
    Calls Tryz.prog 28 #[.pointer (some ⟨G.g, 0, none⟩), .int .i64 x, .int .i64 y] w (Changed w0 w G A lv) := by
  by_cases hn : (0 ≤ x ∧ x < G.n) ∧ 0 ≤ y ∧ y < G.n
  · obtain ⟨a, rfl⟩ := Int.eq_ofNat_of_zero_le hn.1.1
    obtain ⟨b, rfl⟩ := Int.eq_ofNat_of_zero_le hn.2.1
    by_cases hin : (min a b, max a b) ∈ A
    · refine (drop_any h.ok a b (by omega) (by omega) hin).mono ?_
      rintro e w1 ⟨rfl, t1, P, Q, lv', tr', rfl, h1, h2⟩
      exact ⟨_, _, _, tr', rfl, t1, h.turn t1 h1, grew_drop h2⟩
    · refine (drop_none h.ok a b (by omega) (by omega) hin).mono ?_
      rintro e w1 ⟨rfl, hb⟩
      exact ⟨_, A, lv, tr, rfl, Turns.of_below hb, h.step hb, Grew.refl A lv⟩
  · refine (drop_no h.ok x y hn).mono ?_
    rintro e w1 ⟨rfl, hb⟩
    exact ⟨_, A, lv, tr, rfl, Turns.of_below hb, h.step hb, Grew.refl A lv⟩

end Go.Proofs.YtcfemppdeidjmacGreat.Gr
