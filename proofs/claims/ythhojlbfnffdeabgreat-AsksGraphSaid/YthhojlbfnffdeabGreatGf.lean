/-
  The closures of package graph: who is on the lesser side of a gap; which edges are picked.
-/
import Derived.Test.YthhojlbfnffdeabGreatGb
namespace Go.Proofs.YthhojlbfnffdeabGreat.Gr
open Go.RowKit Go.Deep Go.Maps
open Go.RowKit (Below)
set_option linter.unusedVariables false

variable {w w' : World} {G : GPl} {L : Pl} {E : List (Nat × Nat)} {p : Nat → Nat} {A A' : List (Nat × Nat)} {lv : Nat × Nat → Nat} {tr : Nat × Nat → Bool} {X Y : Nat → List (Nat × Nat)} {a b : Nat}

/-- The closure that tells who is on a side: its two variables. -/
structure Side (w : World) (L : Pl) (b7 b8 s : Nat) : Prop where
  c7 : w.cell? ⟨b7, 0, none⟩ = some (.pointer (some ⟨L.g, 0, none⟩))
  c8 : w.cell? ⟨b8, 0, none⟩ = some (.int .i64 (s : Nat))

def sideFn (b7 b8 : Nat) : Value := .func (.func 82) #[] #[.pointer (some ⟨b7, 0, none⟩), .pointer (some ⟨b8, 0, none⟩)]

theorem Side.below {b7 b8 s : Nat} (h : Side w L b7 b8 s) (hb : Below w.heap.size w w') : Side w' L b7 b8 s := ⟨cell_keep hb h.c7, cell_keep hb h.c8⟩

set_option maxHeartbeats 400000 in
theorem side_any (f : FAt w L E p) {b7 b8 s : Nat} (h : Side w L b7 b8 s) (hs : s < L.n) (x : Nat) (hx : x < L.n) (q : Bool) (hq : decide (p s = p x) = q) :
    Calls Tryz.prog 82 #[.int .i64 (x : Nat), .pointer (some ⟨b7, 0, none⟩), .pointer (some ⟨b8, 0, none⟩)] w fun e w' => e = .returned (.bool q) ∧ Below w.heap.size w w' := by
  have hh := same_any f s x hs hx
  rw [hq] at hh
  obtain ⟨c7, c8⟩ := h
  clear f hq
  go_enter Tryz.func82, Tryz.ntmps82
  go_wp2_with fail
  refine hh.mono ?_
  rintro e w1 ⟨rfl, hb⟩
  go_wp2_with fail
  go_ret
  exact ⟨rfl, hb⟩

/-- Which side is told. -/
structure Lesser (n : Nat) (p : Nat → Nat) (a b s t : Nat) : Prop where
  one : (s = a ∧ t = b) ∨ (s = b ∧ t = a)
  le : (nodesOf n p (p s)).length ≤ (nodesOf n p (p t)).length

set_option maxRecDepth 100000 in
set_option maxHeartbeats 1000000 in
theorem lesser_any (h : GMem w G A lv tr X) (k : Nat) (hk : k < G.K) (f : FAt w (G.L k) (X k) p) (ha : a < G.n) (hb : b < G.n) :
    Calls Tryz.prog 60 #[.pointer (some ⟨G.g, 0, none⟩), ev a b, .int .i64 (k : Nat)] w fun e w' => ∃ b7 b8 s t, e = .returned (sideFn b7 b8) ∧ Below w.heap.size w w' ∧ Side w' (G.L k) b7 b8 s ∧ Lesser G.n p a b s t ∧ w.heap.size ≤ b7 ∧ w.heap.size ≤ b8 := by
  have hln := h.ln k hk
  have c2 := h.c2
  have rk := h.row k hk
  have i0 : (0 : Int) ≤ (k : Int) := by omega
  have i1 : (k : Int) < (G.K : Int) := by omega
  -- the edge, the forest and the side in blocks of their own
  obtain ⟨w1, hw1⟩ : ∃ w1, w1 = w.alloc (.cells #[.int .i64 (a : Int), .int .i64 (b : Int)] 41) := ⟨_, rfl⟩
  have b1 : Below w.heap.size w w1 := by rw [hw1]; exact (Below.refl _ _).alloc (Nat.le_refl _) _
  have s1 : w1.heap.size = w.heap.size + 1 := by rw [hw1]; simp
  have e0 : w1.cell? ⟨w.heap.size, 0, none⟩ = some (.int .i64 (a : Int)) := by rw [hw1]; simp
  have e1 : w1.cell? ⟨w.heap.size, 1, none⟩ = some (.int .i64 (b : Int)) := by rw [hw1]; simp
  obtain ⟨w2, hw2⟩ : ∃ w2, w2 = w1.alloc (.cells #[.pointer (some ⟨(G.L k).g, 0, none⟩)] 36) := ⟨_, rfl⟩
  have b2 : Below w1.heap.size w1 w2 := by rw [hw2]; exact (Below.refl _ _).alloc (Nat.le_refl _) _
  have s2 : w2.heap.size = w1.heap.size + 1 := by rw [hw2]; simp
  have q7 : w2.cell? ⟨w1.heap.size, 0, none⟩ = some (.pointer (some ⟨(G.L k).g, 0, none⟩)) := by rw [hw2]; simp
  obtain ⟨w3, hw3⟩ : ∃ w3, w3 = w2.alloc (.cells #[.int .i64 (a : Int)] 3) := ⟨_, rfl⟩
  have b3 : Below w2.heap.size w2 w3 := by rw [hw3]; exact (Below.refl _ _).alloc (Nat.le_refl _) _
  have s3 : w3.heap.size = w2.heap.size + 1 := by rw [hw3]; simp
  have q8 : w3.rowIs w2.heap.size 3 1 (fun _ => .int .i64 (a : Int)) := by
    rw [hw3]
    exact World.rowIs_alloc w2 #[.int .i64 (a : Int)] 3 _ (fun i hi => by match i, hi with | 0, _ => rfl)
  have b03 : Below w.heap.size w w3 := below_step (below_step b1 b2) b3
  have f3 := f.below b03
  have g1 := cell_keep b1 c2
  have g2 := cell_keep b1 rk
  have x0 := cell_keep b3 (cell_keep b2 e0)
  have x1 := cell_keep b3 (cell_keep b2 e1)
  have y0 := cell_keep b2 e0
  have y7 := cell_keep b3 q7
  obtain ⟨bs, hbs⟩ : ∃ bs, bs = w2.heap.size := ⟨_, rfl⟩
  obtain ⟨bf, hbf⟩ : ∃ bf, bf = w1.heap.size := ⟨_, rfl⟩
  rw [← hbs] at q8
  rw [← hbf] at q7 y7
  obtain ⟨na, hna⟩ : ∃ na, (nodesOf G.n p (p a)).length = na := ⟨_, rfl⟩
  obtain ⟨nb, hnb⟩ : ∃ nb, (nodesOf G.n p (p b)).length = nb := ⟨_, rfl⟩
  have hz1 := size_tree f3 a (by rw [hln]; exact ha) na (by rw [hln]; exact hna)
  have HZ2 : Hid (∀ W, Below w3.heap.size w3 W → Calls Tryz.prog 18 #[.pointer (some ⟨(G.L k).g, 0, none⟩), .int .i64 (b : Int)] W fun e w' => e = .returned (.tuple #[.int .i64 (nb : Nat), .nilIface]) ∧ Below W.heap.size W w') := fun W hW => size_tree (f3.below hW) b (by rw [hln]; exact hb) nb (by rw [hln]; exact hnb)
  have HB : Hid (Below w.heap.size w w3) := b03
  have HQ8 : Hid (w3.rowIs bs 3 1 (fun _ => .int .i64 (a : Int))) := q8
  have HX : Hid (w3.cell? ⟨w.heap.size, 0, none⟩ = some (.int .i64 (a : Int)) ∧ w3.cell? ⟨w.heap.size, 1, none⟩ = some (.int .i64 (b : Int)) ∧ w3.cell? ⟨bf, 0, none⟩ = some (.pointer (some ⟨(G.L k).g, 0, none⟩))) := ⟨x0, x1, y7⟩
  have HN : Hid ((nodesOf G.n p (p a)).length = na ∧ (nodesOf G.n p (p b)).length = nb ∧ w.heap.size ≤ bf ∧ w.heap.size ≤ bs) := ⟨hna, hnb, by omega, by omega⟩
  have HW : Hid (w3 = w2.alloc (.cells #[.int .i64 (a : Int)] 3) ∧ w2 = w1.alloc (.cells #[.pointer (some ⟨(G.L k).g, 0, none⟩)] 36) ∧ bs = w2.heap.size ∧ bf = w1.heap.size) := ⟨hw3, hw2, hbs, hbf⟩
  have hna60 : na ≤ 60 := by
    have := nodesOf_nodup G.n p (p a) |>.length_le_of_subset (l₂ := List.range G.n) (fun x hx => List.mem_range.2 (mem_nodesOf.1 hx).1)
    have := h.n60
    simp at *
    omega
  have hnb60 : nb ≤ 60 := by
    have := nodesOf_nodup G.n p (p b) |>.length_le_of_subset (l₂ := List.range G.n) (fun x hx => List.mem_range.2 (mem_nodesOf.1 hx).1)
    have := h.n60
    simp at *
    omega
  have hbf' : bf = w.heap.size + 1 := by omega
  have hbs' : bs = w.heap.size + 1 + 1 := by omega
  have HF : Hid (bf = w.heap.size + 1 ∧ bs = w.heap.size + 1 + 1) := ⟨hbf', hbs'⟩
  have HW3 : Hid (w3 = ((w.alloc (.cells #[.int .i64 (a : Int), .int .i64 (b : Int)] 41)).alloc (.cells #[.pointer (some ⟨(G.L k).g, 0, none⟩)] 36)).alloc (.cells #[.int .i64 (a : Int)] 3)) := by
    show w3 = _
    rw [hw3, hw2, hw1]
  rw [hw1] at g1 g2
  clear h f f3 b1 b2 b3 b03 hna hnb s1 s2 s3 q8 hw1 hw2 hw3 hbs hbf hbf' hbs' HW e0 e1 q7 x0 x1 y0 y7 c2 rk
  clear w1 w2
  go_enter Tryz.func60, Tryz.ntmps60
  dsimp only [ev]
  go_wp2_with fail
  rw [← HW3.out]
  rw [← HF.out.2]
  rw [← HF.out.1]
  obtain ⟨x0, x1, y7⟩ := HX.out
  clear g1 g2 HW3 HF
  refine hz1.mono ?_
  rintro e w4 ⟨rfl, b4⟩
  clear hz1
  replace x0 := cell_keep b4 x0
  replace x1 := cell_keep b4 x1
  replace y7 := cell_keep b4 y7
  have r8 := HQ8.out.of_block (b4.block _ HQ8.out.lt)
  have hz2 := HZ2.out w4 b4
  have HB4 : Hid (Below w.heap.size w w4) := below_step HB.out b4
  have HR8 : Hid (w4.rowIs bs 3 1 (fun _ => .int .i64 (a : Int))) := r8
  clear r8 b4
  go_wp2_with fail
  refine hz2.mono ?_
  rintro e w5 ⟨rfl, b5⟩
  clear hz2
  replace x0 := cell_keep b5 x0
  replace x1 := cell_keep b5 x1
  replace y7 := cell_keep b5 y7
  have r8 := HR8.out.of_block (b5.block _ HR8.out.lt)
  have HB5 : Hid (Below w.heap.size w w5) := below_step HB4.out b5
  have HR9 : Hid (w5.rowIs bs 3 1 (fun _ => .int .i64 (a : Int))) := r8
  have f8 := r8.frozen 0
  have q8 := r8.cell (i := 0) (by omega)
  clear r8 b5
  by_cases hlt : nb < na
  · have t1 : ((nb : Nat) : Int) < (na : Nat) := by omega
    go_wp2_with fail
    go_ret
    obtain ⟨hna, hnb, hf, hsb⟩ := HN.out
    have r9 := HR9.out.set 0 (.int .i64 (b : Int))
    have hnf : bf ≠ bs := fun e => by
      have h1 := HR9.out.cell (i := 0) (by omega)
      rw [← e, y7] at h1
      cases h1
    exact ⟨bf, bs, b, a, rfl, HB5.out.setCell hsb _, ⟨(World.cell?_setCell_far _ _ _ _ (fun e => hnf e.symm)).trans y7, r9.cell (i := 0) (by omega)⟩, ⟨Or.inr ⟨rfl, rfl⟩, by rw [hna, hnb]; omega⟩, hf, hsb⟩
  · have t1 : ¬ ((nb : Nat) : Int) < (na : Nat) := by omega
    go_wp2_with fail
    go_ret
    obtain ⟨hna, hnb, hf, hsb⟩ := HN.out
    exact ⟨bf, bs, a, b, rfl, HB5.out, ⟨y7, HR9.out.cell (i := 0) (by omega)⟩, ⟨Or.inl ⟨rfl, rfl⟩, by rw [hna, hnb]; omega⟩, hf, hsb⟩

/-- The variables of the closures that pick edges: a level, and who is on the side. -/
structure Seen (w : World) (L : Pl) (bk bi k b7 b8 s : Nat) : Prop where
  ck : w.cell? ⟨bk, 0, none⟩ = some (.int .i64 (k : Nat))
  ci : w.cell? ⟨bi, 0, none⟩ = some (sideFn b7 b8)
  side : Side w L b7 b8 s

theorem Seen.below {bk bi k b7 b8 s : Nat} (h : Seen w L bk bi k b7 b8 s) (hb : Below w.heap.size w w') : Seen w' L bk bi k b7 b8 s := ⟨cell_keep hb h.ck, cell_keep hb h.ci, h.side.below hb⟩

set_option maxRecDepth 100000 in
set_option maxHeartbeats 1000000 in
/-- Edges of the tree, of this level, on the side. -/
theorem pick1_any (f : FAt w L E p) {bk bi k b7 b8 s : Nat} (h : Seen w L bk bi k b7 b8 s) (hs : s < L.n) (x y : Nat) (hx : x < L.n) (l : Nat) (t : Bool) :
    Calls Tryz.prog 61 #[ev x y, hv l t, .pointer (some ⟨bk, 0, none⟩), .pointer (some ⟨bi, 0, none⟩)] w fun e w' => e = .returned (.bool (t && decide (l = k) && decide (p s = p x))) ∧ Below w.heap.size w w' := by
  have hb2 : Below w.heap.size w ((w.alloc (.cells #[.int .i64 (x : Int), .int .i64 (y : Int)] 41)).alloc (.cells #[.int .i64 (l : Int), .bool t] 64)) := ((Below.refl _ _).alloc (Nat.le_refl _) _).alloc (by simp) _
  have h2 := h.below hb2
  have hc := side_any (f.below hb2) h2.side hs x hx _ rfl
  have ck := h2.ck
  have ci := h2.ci
  generalize decide (p s = p x) = q at *
  have eg : ∀ args w, (callFunc 82 args).run Tryz.prog w = .ok (.enter 82 args) w := enters_of Tryz.func82 (by kernel_rfl) rfl
  clear f h h2
  dsimp only [sideFn] at ci
  cases t with
  | false =>
    go_enter Tryz.func61, Tryz.ntmps61
    dsimp only [ev, hv]
    go_wp2_with fail
    go_ret
    exact ⟨rfl, hb2⟩
  | true =>
    by_cases hl : l = k
    · have e1 : (((l : Nat) : Int) == ((k : Nat) : Int)) = true := by rw [hl]; simp
      rw [decide_eq_true hl]
      clear hl
      go_enter Tryz.func61, Tryz.ntmps61
      dsimp only [ev, hv]
      go_wp2_with fail
      refine hc.mono ?_
      rintro e w1 ⟨rfl, hb⟩
      go_wp2_with fail
      go_ret
      exact ⟨rfl, below_step hb2 hb⟩
    · have e1 : (((l : Nat) : Int) == ((k : Nat) : Int)) = false := by rw [beq_eq_false_iff_ne]; omega
      rw [decide_eq_false hl]
      clear hl
      go_enter Tryz.func61, Tryz.ntmps61
      dsimp only [ev, hv]
      go_wp2_with fail
      go_ret
      exact ⟨rfl, hb2⟩

set_option maxRecDepth 100000 in
set_option maxHeartbeats 1000000 in
/-- Edges beside the tree, of this level, that touch the side. -/
theorem pick2_any (f : FAt w L E p) {bk bi k b7 b8 s : Nat} (h : Seen w L bk bi k b7 b8 s) (hs : s < L.n) (x y : Nat) (hx : x < L.n) (hy : y < L.n) (l : Nat) (t : Bool) :
    Calls Tryz.prog 63 #[ev x y, hv l t, .pointer (some ⟨bk, 0, none⟩), .pointer (some ⟨bi, 0, none⟩)] w fun e w' => e = .returned (.bool (!t && decide (l = k) && (decide (p s = p x) || decide (p s = p y)))) ∧ Below w.heap.size w w' := by
  have hb2 : Below w.heap.size w ((w.alloc (.cells #[.int .i64 (x : Int), .int .i64 (y : Int)] 41)).alloc (.cells #[.int .i64 (l : Int), .bool t] 64)) := ((Below.refl _ _).alloc (Nat.le_refl _) _).alloc (by simp) _
  have h2 := h.below hb2
  have f2 := f.below hb2
  have hc := side_any f2 h2.side hs x hx _ rfl
  have HC : Hid (∀ W, Below ((w.alloc (.cells #[.int .i64 (x : Int), .int .i64 (y : Int)] 41)).alloc (.cells #[.int .i64 (l : Int), .bool t] 64)).heap.size ((w.alloc (.cells #[.int .i64 (x : Int), .int .i64 (y : Int)] 41)).alloc (.cells #[.int .i64 (l : Int), .bool t] 64)) W → Calls Tryz.prog 82 #[.int .i64 (y : Nat), .pointer (some ⟨b7, 0, none⟩), .pointer (some ⟨b8, 0, none⟩)] W fun e w' => e = .returned (.bool (decide (p s = p y))) ∧ Below W.heap.size W w') := fun W hW => side_any (f2.below hW) (h2.side.below hW) hs y hy _ rfl
  have ck := h2.ck
  have ci := h2.ci
  have y1 : ((w.alloc (.cells #[.int .i64 (x : Int), .int .i64 (y : Int)] 41)).alloc (.cells #[.int .i64 (l : Int), .bool t] 64)).cell? ⟨w.heap.size, 1, none⟩ = some (.int .i64 (y : Int)) := by simp
  generalize decide (p s = p x) = q at *
  generalize decide (p s = p y) = q' at *
  have eg : ∀ args w, (callFunc 82 args).run Tryz.prog w = .ok (.enter 82 args) w := enters_of Tryz.func82 (by kernel_rfl) rfl
  clear f h h2 f2
  dsimp only [sideFn] at ci
  cases t with
  | true =>
    go_enter Tryz.func63, Tryz.ntmps63
    dsimp only [ev, hv]
    go_wp2_with fail
    go_ret
    exact ⟨rfl, hb2⟩
  | false =>
    by_cases hl : l = k
    · have e1 : (((l : Nat) : Int) == ((k : Nat) : Int)) = true := by rw [hl]; simp
      rw [decide_eq_true hl]
      clear hl
      cases q with
      | true =>
        go_enter Tryz.func63, Tryz.ntmps63
        dsimp only [ev, hv]
        go_wp2_with fail
        refine hc.mono ?_
        rintro e w1 ⟨rfl, hb⟩
        go_wp2_with fail
        go_ret
        exact ⟨rfl, below_step hb2 hb⟩
      | false =>
        go_enter Tryz.func63, Tryz.ntmps63
        dsimp only [ev, hv]
        go_wp2_with fail
        refine hc.mono ?_
        rintro e w1 ⟨rfl, hb⟩
        have hd := HC.out w1 hb
        have ci1 := cell_keep hb ci
        have y2 := cell_keep hb y1
        have hb3 := below_step hb2 hb
        clear hc HC hb2 hb ck ci y1
        go_wp2_with fail
        refine hd.mono ?_
        rintro e w2 ⟨rfl, hb⟩
        go_wp2_with fail
        go_ret
        exact ⟨by simp, below_step hb3 hb⟩
    · have e1 : (((l : Nat) : Int) == ((k : Nat) : Int)) = false := by rw [beq_eq_false_iff_ne]; omega
      rw [decide_eq_false hl]
      clear hl
      go_enter Tryz.func63, Tryz.ntmps63
      dsimp only [ev, hv]
      go_wp2_with fail
      go_ret
      exact ⟨rfl, hb2⟩

theorem pickT_any (x y l : Nat) (t : Bool) (w : World) : Calls Tryz.prog 31 #[ev x y, hv l t] w fun e w' => e = .returned (.bool t) ∧ Below w.heap.size w w' := by
  go_enter Tryz.func31, Tryz.ntmps31
  dsimp only [ev, hv]
  go_wp2_with fail
  go_ret
  exact ⟨rfl, ((Below.refl _ _).alloc (Nat.le_refl _) _).alloc (by simp) _⟩

theorem pickA_any (x y l : Nat) (t : Bool) (w : World) : Calls Tryz.prog 32 #[ev x y, hv l t] w fun e w' => e = .returned (.bool true) ∧ Below w.heap.size w w' := by
  go_enter Tryz.func32, Tryz.ntmps32
  dsimp only [ev, hv]
  go_wp2_with fail
  go_ret
  exact ⟨rfl, ((Below.refl _ _).alloc (Nat.le_refl _) _).alloc (by simp) _⟩

end Go.Proofs.YthhojlbfnffdeabGreat.Gr
