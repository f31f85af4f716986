/-
  Drop of package graph.
-/
import Derived.Test.YtcebfloeikjjcabGreatGi
namespace Go.Proofs.YtcebfloeikjjcabGreat.Gr
open Go.RowKit Go.Deep Go.Maps
open Go.RowKit (Below)
set_option linter.unusedVariables false

variable {w wr w' : World} {G : GPl} {A A' P Q : List (Nat × Nat)} {lv lv' : Nat × Nat → Nat} {tr tr' : Nat × Nat → Bool} {X Y : Nat → List (Nat × Nat)} {a b u v : Nat}

set_option maxHeartbeats 400000 in
theorem drop_no (h : GOk w G A lv tr) (x y : Int) (hn : ¬ ((0 ≤ x ∧ x < G.n) ∧ 0 ≤ y ∧ y < G.n)) :
    Calls Tryz.prog 7 #[.pointer (some ⟨G.g, 0, none⟩), .int .i64 x, .int .i64 y] w fun e w' => e = .returned (.iface 50 (.int .i64 1)) ∧ Below w.heap.size w w' := by
  have hh := find_no h.mem x y hn
  clear h hn
  dsimp only [hv] at hh
  go_enter Tryz.func7, Tryz.ntmps7
  go_wp2_with fail
  refine hh.mono ?_
  rintro e w1 ⟨rfl, hb⟩
  go_wp2_with fail
  go_ret
  exact ⟨rfl, below_step hb ((Below.refl _ _).alloc (Nat.le_refl _) _)⟩

set_option maxHeartbeats 400000 in
theorem drop_none (h : GOk w G A lv tr) (a b : Nat) (ha : a < G.n) (hb : b < G.n) (hn : (min a b, max a b) ∉ A) :
    Calls Tryz.prog 7 #[.pointer (some ⟨G.g, 0, none⟩), .int .i64 (a : Int), .int .i64 (b : Int)] w fun e w' => e = .returned (.iface 50 (.int .i64 4)) ∧ Below w.heap.size w w' := by
  have hh := find_none h.mem a b ha hb hn
  clear h hn
  dsimp only [hv] at hh
  go_enter Tryz.func7, Tryz.ntmps7
  go_wp2_with fail
  refine hh.mono ?_
  rintro e w1 ⟨rfl, hb⟩
  go_wp2_with fail
  go_ret
  exact ⟨rfl, below_step hb ((Below.refl _ _).alloc (Nat.le_refl _) _)⟩

/-- What Drop comes to where it drops. -/
def Dropped (w w' : World) (G : GPl) (A : List (Nat × Nat)) (lv : Nat × Nat → Nat) (u v : Nat) : Prop :=
  Turns (GFoot G) w w' ∧ ∃ P Q lv' tr', A = P ++ (u, v) :: Q ∧ GOk w' G (P ++ Q) lv' tr' ∧ ∀ e ∈ P ++ Q, lv e ≤ lv' e

/-- An edge of the tree is felled, in all its forests. -/
theorem fell_at (h : GMem w G (P ++ Q) lv tr (Fo (P ++ (u, v) :: Q) lv tr)) (ht : tr (u, v) = true) (l : Nat) (hl : lv (u, v) = l) (hl2 : l < G.K) (huv : u < v) (hv2 : v < G.n) :
    Calls Tryz.prog 25 #[.pointer (some ⟨G.g, 0, none⟩), ev u v, .int .i64 (l : Nat)] w fun e w' => e = .returned (.tuple #[]) ∧ Turns (GFoot G) w w' ∧ GAt w' G (P ++ Q) lv tr := by
  have hap : ∀ k, Fo (P ++ Q) lv tr k = Fo P lv tr k ++ Fo Q lv tr k := fun k => by unfold Fo; rw [List.filter_append]
  refine (fell_any h (Y := Fo (P ++ Q) lv tr) huv hv2 l hl2 (fun k hk => ⟨Fo P lv tr k, Fo Q lv tr k, by rw [Fo_split, if_pos ⟨ht, by omega⟩], hap k⟩)).mono ?_
  rintro e w1 ⟨rfl, t1, h1⟩
  refine ⟨rfl, t1, GMem.congr h1 fun i _ => ?_⟩
  unfold mixed
  by_cases c : i < l + 1
  · rw [if_pos c]
  · rw [if_neg c, Fo_split, if_neg (by omega)]

set_option maxRecDepth 100000 in
set_option maxHeartbeats 4000000 in
theorem drop_any (h : GOk w G A lv tr) (a b : Nat) (ha : a < G.n) (hb : b < G.n) (hin : (min a b, max a b) ∈ A) :
    Calls Tryz.prog 7 #[.pointer (some ⟨G.g, 0, none⟩), .int .i64 (a : Int), .int .i64 (b : Int)] w fun e w' => e = .returned .nilIface ∧ Dropped w w' G A lv (min a b) (max a b) := by
  obtain ⟨l, hl⟩ : ∃ l, lv (min a b, max a b) = l := ⟨_, rfl⟩
  obtain ⟨t, ht⟩ : ∃ t, tr (min a b, max a b) = t := ⟨_, rfl⟩
  have hh := find_any h.mem a b ha hb hin l t hl ht
  have hn60 := h.mem.n60
  have hnd := h.mem.node hin
  have hlk : l < G.K := (h.mem.levels l).2 (by have := h.lev.level hin (by have := hnd.2.2; omega); rw [hl] at this; omega)
  have hk6 := h.mem.k10
  have HE : Hid (∀ W, Calls Tryz.prog 22 #[.int .i64 (a : Int), .int .i64 (b : Int)] W fun e w' => e = .returned (ev (min a b : Nat) (max a b : Nat)) ∧ w' = W.alloc (.cells #[.int .i64 (min a b : Nat), .int .i64 (max a b : Nat)] 41)) := fun W => gedgeOf_any a b (by omega) (by omega)
  simp only at hnd
  generalize min a b = u at *
  generalize max a b = v at *
  obtain ⟨P, Q, rfl⟩ := List.append_of_mem hin
  have HH : Hid (GOk w G (P ++ (u, v) :: Q) lv tr ∧ lv (u, v) = l ∧ tr (u, v) = t ∧ u < v ∧ v < G.n) := ⟨h, hl, ht, hnd.2.2, hnd.2.1⟩
  clear h hin hl ht hnd
  dsimp only [hv] at hh
  go_enter Tryz.func7, Tryz.ntmps7
  go_wp2_with fail
  refine hh.mono ?_
  rintro e w1 ⟨rfl, hb1⟩
  clear hh
  have hb2 : Below w1.heap.size w1 (w1.alloc (.cells #[.int .i64 (l : Nat), .bool t] 56)) := (Below.refl _ _).alloc (Nat.le_refl _) _
  have q0 : (w1.alloc (.cells #[.int .i64 (l : Nat), .bool t] 56)).cell? ⟨w1.heap.size, 0, none⟩ = some (.int .i64 (l : Nat)) := by simp
  have q1 : (w1.alloc (.cells #[.int .i64 (l : Nat), .bool t] 56)).cell? ⟨w1.heap.size, 1, none⟩ = some (.bool t) := by simp
  have hb02 := below_step hb1 hb2
  have hz1 := hb1.size
  go_wp2_with fail
  generalize (w1.alloc (.cells #[.int .i64 (l : Nat), .bool t] 56)) = w2 at *
  refine (HE.out _).mono ?_
  rintro e w3 ⟨rfl, rfl⟩
  dsimp only [ev]
  have hb3 : Below w2.heap.size w2 ((w2.alloc (.cells #[.int .i64 (u : Int), .int .i64 (v : Int)] 41)).alloc (.cells #[.int .i64 (u : Int), .int .i64 (v : Int)] 41)) := ((Below.refl _ _).alloc (Nat.le_refl _) _).alloc (by simp) _
  have z0 : ((w2.alloc (.cells #[.int .i64 (u : Int), .int .i64 (v : Int)] 41)).alloc (.cells #[.int .i64 (u : Int), .int .i64 (v : Int)] 41)).cell? ⟨w2.heap.size + 1, 0, none⟩ = some (.int .i64 (u : Int)) := by simp
  have z1 : ((w2.alloc (.cells #[.int .i64 (u : Int), .int .i64 (v : Int)] 41)).alloc (.cells #[.int .i64 (u : Int), .int .i64 (v : Int)] 41)).cell? ⟨w2.heap.size + 1, 1, none⟩ = some (.int .i64 (v : Int)) := by simp
  clear hb1 hb2
  go_wp2_with fail
  replace q0 := cell_keep hb3 q0
  replace q1 := cell_keep hb3 q1
  have hb03 := below_step hb02 hb3
  have hbe : w.heap.size ≤ w2.heap.size + 1 := by have := hb02.size; omega
  generalize ((w2.alloc (.cells #[.int .i64 (u : Int), .int .i64 (v : Int)] 41)).alloc (.cells #[.int .i64 (u : Int), .int .i64 (v : Int)] 41)) = w3 at *
  have h3 := HH.out.1.below hb03
  have c3 := h3.mem.c1
  obtain ⟨w4, hrun4, h4, t4⟩ := h3.mem.drew.del (u := u) (v := v) 0
  have hF : ∀ c, GFoot G c → c < w.heap.size := fun c hc => HH.out.1.mem.foot_lt hc
  have T4 : Turns (GFoot G) w3 w4 := (Turns.of_below (Below.refl _ _).drew).trans (GMem.turns_map t4)
  replace z0 := z0
  have y0 := turn_cell hF hbe T4 z0
  have y1 := turn_cell hF hbe T4 z1
  have x0 := turn_cell hF hz1 T4 q0
  have x1 := turn_cell hF hz1 T4 q1
  have H4 : Hid (GMem w4 G (P ++ Q) lv tr (Fo (P ++ (u, v) :: Q) lv tr) ∧ Turns (GFoot G) w w4 ∧ ∀ c, GFoot G c → c < w.heap.size) := ⟨h4, (Turns.of_below hb03).trans T4, hF⟩
  clear h3 h4 t4 T4 hb3 hb02 hb03 hF
  dsimp only [ev] at hrun4
  go_region
  generalize w2.heap.size + 1 = be at *
  generalize w1.heap.size = bh at *
  clear hrun4 z0 z1 c3 q0 q1
  have hlv : Levels G.n ((u, v) :: (P ++ Q)) lv tr := HH.out.1.lev.perm List.perm_middle fun _ _ => ⟨rfl, rfl⟩
  cases t with
  | false =>
    have HN : Hid (Dropped w w4 G (P ++ (u, v) :: Q) lv u v) := ⟨H4.out.2.1, P, Q, lv, tr, rfl, ⟨H4.out.1.congr fun k _ => by rw [Fo_split, if_neg (by rw [HH.out.2.2.1]; simp)], hlv.drop_rest HH.out.2.2.1⟩, fun _ _ => Nat.le_refl _⟩
    clear hlv H4 HH
    go_wp2_with fail
    go_ret
    exact ⟨rfl, HN.out⟩
  | true =>
    have hfl := fell_at H4.out.1 HH.out.2.2.1 l HH.out.2.1 hlk HH.out.2.2.2.1 HH.out.2.2.2.2
    have HC : Hid (Cut G.n (P ++ Q) lv tr u v (l + 1)) := by
      have := hlv.cut HH.out.2.2.1
      rw [HH.out.2.1] at this
      exact this
    clear hlv
    dsimp only [ev] at hfl
    go_wp2_with fail
    refine hfl.mono ?_
    rintro e w5 ⟨rfl, t5, h5⟩
    have hmd := mend_any h5 l hlk HC.out
    replace y0 := turn_cell H4.out.2.2 hbe t5 y0
    replace y1 := turn_cell H4.out.2.2 hbe t5 y1
    replace x0 := turn_cell H4.out.2.2 hz1 t5 x0
    replace x1 := turn_cell H4.out.2.2 hz1 t5 x1
    have HT : Hid (Turns (GFoot G) w w5) := H4.out.2.1.trans t5
    clear hfl t5 h5 H4 HC
    dsimp only [ev] at hmd
    go_wp2_with fail
    refine hmd.mono ?_
    rintro e w6 ⟨rfl, t6, lv6, tr6, g1, g2, g3⟩
    have HN : Hid (Dropped w w6 G (P ++ (u, v) :: Q) lv u v) := ⟨HT.out.trans t6, P, Q, lv6, tr6, rfl, ⟨g1, g2⟩, g3⟩
    clear hmd t6 g1 g2 g3 HT HH
    go_wp2_with fail
    go_ret
    exact ⟨rfl, HN.out⟩

end Go.Proofs.YtcebfloeikjjcabGreat.Gr
