/-
  Me Qs
-/
import Derived.Carry
import Derived.Test.YtcfemppdeidjmacGreatW8
namespace Go.Proofs.YtcfemppdeidjmacGreat
set_option linter.unusedSectionVars false
variable [Inhabited Zed]
open Go.RowKit Go.Deep Go.Shelf Go.Sort Go.Lib
open Go.RowKit (Below)
set_option linter.unusedVariables false

variable {w w' : World} {L : Pl} {p p' : Nat → Nat} {DW DW' DE DE' : DataW Unit} {E E' : List (Nat × Nat)}

theorem grown_less {n : Nat} {A B : List (Nat × Nat)} {a b : Nat} (g : Grown n (A ++ (min a b, max a b) :: B) p) :
    ∃ p', More (A ++ B) a b (A ++ (min a b, max a b) :: B) ∧ Grown n (A ++ B) p' ∧ (min a b, max a b) ∉ A ++ B := by
  obtain ⟨hf, hc⟩ := g.forest.out g.among
  obtain ⟨p', hp'⟩ := rest_of (A ++ B)
  have hsub : ∀ e ∈ A ++ B, e ∈ A ++ (min a b, max a b) :: B := fun e he => by
    rcases List.mem_append.1 he with he | he
    · exact List.mem_append_left _ he
    · exact List.mem_append_right _ (List.mem_cons_of_mem _ he)
  refine ⟨p', ?_, ⟨fun e he => g.among e (hsub e he), hf, hp', fun e he => g.less e (hsub e he), ?_⟩, fun hm => hc (conn_edge hm)⟩
  · rcases Nat.lt_or_ge a b with h | h
    · rw [Nat.min_eq_left (by omega), Nat.max_eq_right (by omega)] at hc ⊢; exact more_out hc
    · rw [Nat.min_eq_right h, Nat.max_eq_left h] at hc ⊢; exact (more_out hc).symm
  · have := g.rises
    unfold Rises at this ⊢
    rw [List.pairwise_append] at this ⊢
    exact ⟨this.1, (List.pairwise_cons.1 this.2.1).2, fun x hx y hy => this.2.2 x hx y (List.mem_cons_of_mem _ hy)⟩

theorem way_split {l : List (Nat × Nat)} {a b : Nat} (hne : a ≠ b) (h1 : (a, b) ∈ l) (h2 : (b, a) ∈ l) : ∃ u v P M Q, ((u = a ∧ v = b) ∨ (u = b ∧ v = a)) ∧ l = P ++ (u, v) :: (M ++ (v, u) :: Q) := by
  obtain ⟨P, R, rfl⟩ := List.append_of_mem h1
  rcases List.mem_append.1 h2 with h | h
  · obtain ⟨P1, M, rfl⟩ := List.append_of_mem h
    exact ⟨b, a, P1, M, R, Or.inr ⟨rfl, rfl⟩, by simp⟩
  · rcases List.mem_cons.1 h with e | h
    · simp only [Prod.mk.injEq] at e; exact absurd e.1.symm hne
    · obtain ⟨M, Q, rfl⟩ := List.append_of_mem h
      exact ⟨a, b, P, M, Q, Or.inl ⟨rfl, rfl⟩, rfl⟩

theorem cut_end {u v b1 b2 : Nat} {T1 T2 : BT Int} {l1 l2 : List (Nat × Nat)} (hw : ∀ r, r < L.n → p r = r → ∃ b T l, WayAt w L E p DW r b T l) (m : Mem w L p DW DE E) (t : Turn L w w') (mo : More E' u v E) (g : Grown L.n E p) (g' : Grown L.n E' p') (m' : Mem w' L p' DW' DE' E')
    (hother : ∀ r : Nat, r ≠ p' u → r ≠ p' v → ∀ z, DW'.atKey (.int .i64 (r : Int)) z = DW.atKey (.int .i64 (r : Int)) z) (h1 : WayAt w' L E' p' DW' (p' v) b1 T1 l1) (h2 : WayAt w' L E' p' DW' (p' u) b2 T2 l2) : FAt w' L E' p' := by
  refine ⟨g', DW', DE', m', fun r hr hp => ?_⟩
  by_cases e1 : r = p' v
  · rw [e1]; exact ⟨_, _, _, h1⟩
  · by_cases e2 : r = p' u
    · rw [e2]; exact ⟨_, _, _, h2⟩
    · have e3 := mo.rest g'.rest g.rest (x := r) (by rw [hp]; exact e2) (by rw [hp]; exact e1)
      rw [hp] at e3
      obtain ⟨b0, T0, l0, hW⟩ := hw r hr e3
      exact ⟨b0, T0, l0, fun z => (hother r e2 e1 z).trans (hW.at_ z), hW.row.turn m t, hW.bal, hW.items, (Way.other mo g'.rest g.rest hp e2 e1).2 hW.way⟩

set_option maxHeartbeats 400000 in
theorem cut_no (f : FAt w L E p) (a b : Int) (ha : ¬ ((0 ≤ a ∧ a < L.n) ∧ 0 ≤ b ∧ b < L.n)) :
    Calls Tryz.prog 105 #[.pointer (some ⟨L.g, 0, none⟩), .int .i64 a, .int .i64 b] w fun e w' => e = .returned (.iface 102 (.int .i64 1)) ∧ RowKit.Below w.heap.size w w' := by
  have hb : RowKit.Below w.heap.size w (w.alloc (.cells #[.int .i64 a, .int .i64 b] 3)) := (RowKit.Below.refl _ _).alloc (Nat.le_refl _) _
  obtain ⟨DW, DE, m, -⟩ := (f.below hb).mem
  have hh := has_any m rfl w.heap.size [a, b] (fun i x hx => by match i, hx with | 0, hx => cases hx; simp | 1, hx => cases hx; simp) (by simp) 2
  rw [two_in, decide_eq_false ha] at hh
  clear m
  go_enter Tryz.func105, Tryz.ntmps105
  go_wp2_with fail
  refine hh.mono ?_
  rintro e w1 ⟨rfl, rfl⟩
  go_wp2_with fail
  go_ret
  exact ⟨rfl, hb⟩

set_option maxRecDepth 100000 in
set_option maxHeartbeats 1000000 in
theorem cut_none (f : FAt w L E p) (a b : Nat) (ha : a < L.n) (hb : b < L.n) (hn : (min a b, max a b) ∉ E) :
    Calls Tryz.prog 105 #[.pointer (some ⟨L.g, 0, none⟩), .int .i64 (a : Int), .int .i64 (b : Int)] w fun e w' => e = .returned (.iface 102 (.int .i64 4)) ∧ RowKit.Below w.heap.size w w' := by
  have hb0 : RowKit.Below w.heap.size w (w.alloc (.cells #[.int .i64 (a : Int), .int .i64 (b : Int)] 3)) := (RowKit.Below.refl _ _).alloc (Nat.le_refl _) _
  obtain ⟨DW, DE, m, -⟩ := (f.below hb0).mem
  have hh := has_any m rfl w.heap.size [(a : Int), (b : Int)] (fun i x hx => by match i, hx with | 0, hx => cases hx; simp | 1, hx => cases hx; simp) (by simp) 2
  rw [two_in, decide_eq_true (by omega)] at hh
  have c2 := m.c2
  have hn60 := m.n60
  generalize hWW : (w.alloc (.cells #[.int .i64 (a : Int), .int .i64 (b : Int)] 3)) = W at *
  obtain ⟨O1, hO1⟩ : ∃ O1, O1 = Obj.cells #[.int .i64 (min a b : Nat), .int .i64 (max a b : Nat)] 44 := ⟨_, rfl⟩
  have b1 : RowKit.Below W.heap.size W (W.alloc O1).drew := ((RowKit.Below.refl _ _).alloc (Nat.le_refl _) _).drew
  have b2 : RowKit.Below W.heap.size W ((W.alloc O1).alloc (.cells #[] 115)).drew := (((RowKit.Below.refl _ _).alloc (Nat.le_refl _) _).alloc (by simp) _).drew
  have b3 : RowKit.Below W.heap.size W ((W.alloc (.cells #[] 115)).alloc O1).drew := (((RowKit.Below.refl _ _).alloc (Nat.le_refl _) _).alloc (by simp) _).drew
  have l1 := (m.below b1).edges.look (min a b) (max a b) (by omega) (by omega) false (by simp [hn])
  have l2 := (m.below b2).edges.look (min a b) (max a b) (by omega) (by omega) false (by simp [hn])
  have l3 := (m.below b3).edges.look (min a b) (max a b) (by omega) (by omega) false (by simp [hn])
  rw [hO1] at l1 b1 l2 b2 l3 b3
  clear m hO1
  go_enter Tryz.func105, Tryz.ntmps105
  go_wp2_with fail
  clear hWW
  refine hh.mono ?_
  rintro e w1 ⟨rfl, rfl⟩
  go_wp2_with fail
  go_region_held3 (fun W => W.cell? ⟨L.g, 2, none⟩ = some (.map (some L.eb))) (first | (go_keep; done) | exact cell_keep b1 c2 | exact cell_keep b2 c2 | exact cell_keep b3 c2)
    (first
      | (go_at_call 61; refine (edgeOf_any a b (by omega) (by omega)).mono ?_; rintro e w9 ⟨rfl, rfl⟩))
  all_goals
    go_wp2_with fail
    go_ret
    refine ⟨rfl, ?_⟩
    first
      | exact below_step hb0 b1
      | exact below_step hb0 b2
      | exact below_step hb0 b3

end Go.Proofs.YtcfemppdeidjmacGreat

namespace Go.Proofs.YtcfemppdeidjmacGreat
set_option linter.unusedSectionVars false
variable [Inhabited Zed]
open Go.RowKit Go.Deep Go.Shelf Go.Sort Go.Lib
open Go.RowKit (Below)
set_option linter.unusedVariables false

variable {w w' : World} {L : Pl} {p p' : Nat → Nat} {DW DW' DE DE' : DataW Unit} {E E' : List (Nat × Nat)}

structure Stands (n : Nat) (xs : List Int) (a b : Nat) (P M Q : List (Nat × Nat)) (i1 i2 k1 k2 : Nat) : Prop where
  one : ∃ X Y, xs = X ++ code n (a, b) :: Y ∧ code n (a, b) ∉ X ∧ X.length = i1
  two : ∃ X Y, xs = X ++ code n (b, a) :: Y ∧ code n (b, a) ∉ X ∧ X.length = i2
  min_ : min (i1 : Int) (i2 : Int) = (k1 : Int)
  max_ : max (i1 : Int) (i2 : Int) = (k2 : Int)
  lt : k1 + 1 ≤ k2
  le : k2 + 1 ≤ xs.length
  mid : (xs.take k2).drop (k1 + 1) = M.map (code n)
  low : (xs.take k1).drop 0 = P.map (code n)
  high : (xs.take xs.length).drop (k2 + 1) = Q.map (code n)

theorem stands_of {n u v : Nat} {P M Q : List (Nat × Nat)} {xs : List Int} (hx : xs = (P ++ (u, v) :: (M ++ (v, u) :: Q)).map (code n)) (hn : xs.Nodup) : Stands n xs u v P M Q P.length (P.length + 1 + M.length) P.length (P.length + 1 + M.length) := by
  have h1 : xs = P.map (code n) ++ code n (u, v) :: (M.map (code n) ++ code n (v, u) :: Q.map (code n)) := by rw [hx]; simp
  have h2 : xs = (P.map (code n) ++ code n (u, v) :: M.map (code n)) ++ code n (v, u) :: Q.map (code n) := by rw [h1]; simp
  have n1 := hn
  have n2 := hn
  rw [h1, List.nodup_append] at n1
  rw [h2, List.nodup_append] at n2
  have l2 : (P.map (code n) ++ code n (u, v) :: M.map (code n)).length = P.length + 1 + M.length := by simp; omega
  have l3 : xs.length = P.length + 1 + M.length + 1 + Q.length := by rw [h2, List.length_append, l2]; simp; omega
  refine ⟨⟨_, _, h1, fun hm => n1.2.2 _ hm _ (List.mem_cons_self ..) rfl, by simp⟩, ⟨_, _, h2, fun hm => n2.2.2 _ hm _ (List.mem_cons_self ..) rfl, l2⟩, by omega, by omega, by omega, by omega, ?_, ?_, ?_⟩
  · rw [h2, List.take_left' l2, show P.map (code n) ++ code n (u, v) :: M.map (code n) = (P.map (code n) ++ [code n (u, v)]) ++ M.map (code n) by simp, List.drop_left' (by simp)]
  · rw [h1, List.take_left' (by simp), List.drop_zero]
  · rw [List.take_length, h2, show (P.map (code n) ++ code n (u, v) :: M.map (code n)) ++ code n (v, u) :: Q.map (code n) = ((P.map (code n) ++ code n (u, v) :: M.map (code n)) ++ [code n (v, u)]) ++ Q.map (code n) by simp, List.drop_left' (by rw [List.length_append, l2]; rfl)]

theorem Stands.symm {n a b i1 i2 k1 k2 : Nat} {P M Q : List (Nat × Nat)} {xs : List Int} (h : Stands n xs a b P M Q i1 i2 k1 k2) : Stands n xs b a P M Q i2 i1 k1 k2 :=
  ⟨h.two, h.one, by have := h.min_; omega, by have := h.max_; omega, h.lt, h.le, h.mid, h.low, h.high⟩

theorem name_world {K : World → Prop} {W0 W : World} (h : RowKit.Below W0.heap.size W0 W) (hK : ∀ W1, RowKit.Below W0.heap.size W0 W1 → K W1) : K W := hK W h

set_option maxRecDepth 100000 in
set_option maxHeartbeats 8000000 in
theorem fcut_any {A B : List (Nat × Nat)} (a b : Nat) (f : FAt w L (A ++ (min a b, max a b) :: B) p) (ha : a < L.n) (hb : b < L.n) :
    Calls Tryz.prog 105 #[.pointer (some ⟨L.g, 0, none⟩), .int .i64 (a : Int), .int .i64 (b : Int)] w fun e w' => e = .returned .nilIface ∧ Turn L w w' ∧
      ∃ p', More (A ++ B) a b (A ++ (min a b, max a b) :: B) ∧ FAt w' L (A ++ B) p' := by
  obtain ⟨p', mo, g', hnE⟩ := grown_less f.grown
  have hperm : (A ++ (min a b, max a b) :: B).Perm ((min a b, max a b) :: (A ++ B)) := List.perm_middle
  have hin : (min a b, max a b) ∈ A ++ (min a b, max a b) :: B := by simp
  have HGoal : Hid (∀ {W : World}, FAt W L (A ++ B) p' → (∃ p', More (A ++ B) a b (A ++ (min a b, max a b) :: B) ∧ FAt W L (A ++ B) p')) := fun hf => ⟨p', mo, hf⟩
  generalize A ++ (min a b, max a b) :: B = E at *
  generalize A ++ B = E' at *
  have g := f.grown
  have hab := mo.ne
  have hb0 : RowKit.Below w.heap.size w (w.alloc (.cells #[.int .i64 (a : Int), .int .i64 (b : Int)] 3)) := (RowKit.Below.refl _ _).alloc (Nat.le_refl _) _
  obtain ⟨DW, DE, m, hw⟩ := (f.below hb0).mem
  have hh := has_any m rfl w.heap.size [(a : Int), (b : Int)] (fun i x hx => by match i, hx with | 0, hx => cases hx; simp | 1, hx => cases hx; simp) (by simp) 2
  rw [two_in, decide_eq_true (by omega)] at hh
  have hn60 := m.n60
  have hpa : p a < L.n := g.lt ha
  have hpp : p (p a) = p a := g.rest.least a
  obtain ⟨bw, T, l, hW⟩ := hw (p a) hpa hpp
  obtain ⟨-, hsz, hs, hz⟩ := hW.sz g hn60 hpa hpp
  have hab2 : p b = p a := (mo.joined g'.rest g.rest b).2 (Or.inr rfl)
  obtain ⟨u, v, P, M, Q, huv, hl⟩ := way_split hab ((hW.way.mem a b).2 ⟨Or.inr ⟨hab, (mo.edg a b).2 (Or.inr (Or.inl ⟨rfl, rfl⟩))⟩, rfl⟩) ((hW.way.mem b a).2 ⟨Or.inr ⟨hab.symm, (mo.edg b a).2 (Or.inr (Or.inr ⟨rfl, rfl⟩))⟩, hab2⟩)
  have mo' : More E' u v E := by
    rcases huv with ⟨rfl, rfl⟩ | ⟨rfl, rfl⟩
    · exact mo
    · exact mo.symm
  have hpu : p u = p a := by
    rcases huv with ⟨rfl, rfl⟩ | ⟨rfl, rfl⟩
    · rfl
    · exact hab2
  have hun : u < L.n ∧ v < L.n := by
    rcases huv with ⟨rfl, rfl⟩ | ⟨rfl, rfl⟩
    · exact ⟨ha, hb⟩
    · exact ⟨hb, ha⟩
  have hxs : items T = (P ++ (u, v) :: (M ++ (v, u) :: Q)).map (code L.n) := by rw [hW.items, hl]
  have hcut := Way.cut mo' g'.rest g.rest (n := L.n) (P := P) (M := M) (Q := Q) (by rw [hpu, ← hl]; exact hW.way)
  obtain ⟨i1, i2, k1, k2, S⟩ : ∃ i1 i2 k1 k2, Stands L.n (items T) a b P M Q i1 i2 k1 k2 := by
    have S := stands_of hxs (by rw [hxs, ← hl]; exact hW.way.codes g.among)
    rcases huv with ⟨rfl, rfl⟩ | ⟨rfl, rfl⟩
    · exact ⟨_, _, _, _, S⟩
    · exact ⟨_, _, _, _, S.symm⟩
  have HS : Hid (Stands L.n (items T) a b P M Q i1 i2 k1 k2) := S
  have e1 := S.min_
  have e2 := S.max_
  have hk1 := S.lt
  have hk2 := S.le
  rw [items_len] at hk2
  have hc2 := m.c2
  generalize hWW : (w.alloc (.cells #[.int .i64 (a : Int), .int .i64 (b : Int)] 3)) = W at *
  obtain ⟨O1, hO1⟩ : ∃ O1, O1 = Obj.cells #[.int .i64 (min a b : Nat), .int .i64 (max a b : Nat)] 44 := ⟨_, rfl⟩
  have b1 : RowKit.Below W.heap.size W (W.alloc O1).drew := ((RowKit.Below.refl _ _).alloc (Nat.le_refl _) _).drew
  have b2 : RowKit.Below W.heap.size W ((W.alloc O1).alloc (.cells #[] 115)).drew := (((RowKit.Below.refl _ _).alloc (Nat.le_refl _) _).alloc (by simp) _).drew
  have b3 : RowKit.Below W.heap.size W ((W.alloc (.cells #[] 115)).alloc O1).drew := (((RowKit.Below.refl _ _).alloc (Nat.le_refl _) _).alloc (by simp) _).drew
  have l1 := (m.below b1).edges.look (min a b) (max a b) (by omega) (by omega) true (by simp [hin])
  have l2 := (m.below b2).edges.look (min a b) (max a b) (by omega) (by omega) true (by simp [hin])
  have l3 := (m.below b3).edges.look (min a b) (max a b) (by omega) (by omega) true (by simp [hin])
  rw [hO1] at l1 b1 l2 b2 l3 b3
  have HM : Hid (Mem W L p DW DE E ∧ ∀ r, r < L.n → p r = r → ∃ b T l, WayAt W L E p DW r b T l) := ⟨m, hw⟩
  have HW : Hid (WayAt W L E p DW (p a) bw T l) := hW
  have HC : Hid (Way L.n E' p' (p' v) M ∧ Way L.n E' p' (p' u) (P ++ Q)) := hcut
  clear m hO1 hw hW hcut S hxs hl hsz
  go_enter Tryz.func105, Tryz.ntmps105
  go_wp2_with fail
  clear hWW
  refine hh.mono ?_
  rintro e w1 ⟨rfl, rfl⟩
  clear hh
  go_wp2_with fail
  go_region_held3 (fun W => W.cell? ⟨L.g, 2, none⟩ = some (.map (some L.eb))) (first | (go_keep; done) | exact cell_keep b1 hc2 | exact cell_keep b2 hc2 | exact cell_keep b3 hc2)
    (first
      | (go_at_call 61; refine (edgeOf_any a b (by omega) (by omega)).mono ?_; rintro e w9 ⟨rfl, rfl⟩))
  all_goals
    first
      | refine name_world b1 ?_
      | refine name_world b2 ?_
      | refine name_world b3 ?_
    intro W1 hbW
    clear b1 b2 b3 l1 l2 l3 hc2
    have m1 := HM.out.1.below hbW
    have hlook := ways_look (w := W1.drew) m1.ways (p a) bw (by omega) HW.out.at_
    have c0 := m1.c0
    have c1 := m1.c1
    have hat := m1.at ha
    have i0 : (0 : Int) ≤ (a : Int) := by omega
    have i1' : (a : Int) < (L.n : Int) := by omega
    have hr1 : RowAt W1.drew (some ⟨bw, 0, none⟩) T := (HW.out.row.below hbW).drew
    have m2 : Mem W1.drew L p DW DE E := m1.drew
    have hbd : RowKit.Below w1.heap.size w1 W1.drew := hbW.drew
    clear m1
    go_wp2_with fail
    go_region
    go_wp2_with fail
    generalize W1.drew = W2 at *
    clear hbW hlook c0 c1 hat
    obtain ⟨X1, Y1, hx1, hX1, hl1⟩ := HS.out.one
    obtain ⟨X2, Y2, hx2, hX2, hl2⟩ := HS.out.two
    have hp1 := place_any hr1 (by omega) X1 Y1 _ hx1 hX1
    rw [hl1] at hp1
    refine (step_any m2 a b ha hb).mono ?_
    rw [← code_step hab]
    rintro e w3 ⟨rfl, rfl⟩
    clear hx1 hX1 hl1
    generalize code L.n (a, b) = s1 at hp1 ⊢
    go_wp2_with fail
    refine hp1.mono ?_
    rintro e w4 ⟨rfl, hb4⟩
    clear hp1
    have hr4 := hr1.below hb4
    have m4 := m2.below hb4
    have hp2 := place_any hr4 (by omega) X2 Y2 _ hx2 hX2
    rw [hl2] at hp2
    clear hx2 hX2 hl2
    go_wp2_with fail
    refine (step_any m4 b a hb ha).mono ?_
    rw [← code_step hab.symm]
    rintro e w5 ⟨rfl, rfl⟩
    generalize code L.n (b, a) = s2 at hp2 ⊢
    go_wp2_with fail
    refine hp2.mono ?_
    rintro e w6 ⟨rfl, hb6⟩
    clear hp2
    have hr6 := hr4.below hb6
    have m6 := m4.below hb6
    have hbal := HW.out.bal
    have t6 : Turn L w1 w6 := Turn.of_below (below_step (below_step hbd hb4) hb6)
    clear hr4 m4 hr1 m2 hbd hb4 hb6
    go_wp2_with fail
    refine (piece_any hr6 hbal (by omega) (k1 + 1) k2 (by omega) (by omega)).mono ?_
    rintro e w7 ⟨vM, TM, rfl, hb7, hrM, hBM, hiM⟩
    rw [HS.out.mid] at hiM
    have hvn : p' v < L.n := g'.lt hun.2
    have hu'n : p' u < L.n := g'.lt hun.1
    obtain ⟨nsM, hnsM⟩ := nodes_head g'.rest hvn (g'.rest.least v)
    obtain ⟨nsR, hnsR⟩ := nodes_head g'.rest hu'n (g'.rest.least u)
    have hsM : 0 < sz TM := by
      rw [← items_len, hiM, List.length_map]
      exact List.length_pos_of_mem ((HC.out.1.mem v v).2 ⟨Or.inl ⟨rfl, hun.2⟩, rfl⟩)
    have hsM2 : sz TM ≤ 400 := by
      have hx : (items TM).length ≤ (items T).length := by
        rw [hiM, ← HS.out.mid]
        simp only [List.length_drop, List.length_take]
        omega
      rw [items_len, items_len] at hx
      omega
    obtain ⟨bM, rfl⟩ := row_some hrM hsM
    have hsrt : ((items TM).filter fun z : Int => decide (z < (L.n : Nat))).mergeSort (fun x y => decide (x ≤ y)) = (p' v :: nsM).map Int.ofNat := by
      rw [hiM, HC.out.1.sorted g'.among, hnsM]
    have m7 := m6.below hb7
    have hk := keep_any m7 hrM hsM2 nsM (p' v) hsrt (fun x hx => (mem_nodesOf.1 (by rw [hnsM]; exact hx)).1)
    have HIM : Hid (items TM = M.map (code L.n)) := hiM
    have hr7 := hr6.below hb7
    have t7 : Turn L w1 w7 := t6.trans (Turn.of_below hb7)
    clear hsrt hiM hr6 m6 hb7 t6
    go_wp2_with fail
    refine hk.mono ?_
    rintro e w8 ⟨rfl, t8, m8⟩
    have hr8 := hr7.turn m7 t8
    have hrM8 := hrM.turn m7 t8
    have t8' := t7.trans t8
    clear hk hr7 hrM m7 t7 t8
    go_wp2_with fail
    refine (piece_any hr8 hbal (by omega) 0 k1 (by omega) (by omega)).mono ?_
    rintro e w9 ⟨v1, T1, rfl, hb9, hr9, hB9, hi9⟩
    rw [HS.out.low] at hi9
    have HI9 : Hid (items T1 = P.map (code L.n)) := hi9
    clear hi9
    go_wp2_with fail
    refine (len_any (hr8.below hb9)).mono ?_
    rintro e w10 ⟨rfl, rfl⟩
    go_wp2_with fail
    refine (piece_any (hr8.below hb9) hbal (by omega) (k2 + 1) (sz T) (by omega) (Nat.le_refl _)).mono ?_
    rintro e w11 ⟨v2, T2, rfl, hb11, hr11, hB11, hi11⟩
    rw [← items_len T, HS.out.high] at hi11
    have HI11 : Hid (items T2 = Q.map (code L.n)) := hi11
    clear hi11
    go_wp2_with fail
    have hlen : (items T1 ++ items T2).length ≤ 400 := by
      have hx : (items T1 ++ items T2).length ≤ (items T).length := by
        rw [HI9.out, HI11.out, ← HS.out.low, ← HS.out.high]
        simp only [List.length_append, List.length_drop, List.length_take]
        omega
      rw [items_len T] at hx
      omega
    have hb12 : RowKit.Below w11.heap.size w11 (w11.alloc (.cells #[.pointer v1, .pointer v2] 110)) := (RowKit.Below.refl _ _).alloc (Nat.le_refl _) _
    refine (joined_any w11.heap.size [(v1, T1), (v2, T2)] (fun i x hx => ?_) (fun x hx => ?_) (by simp only [List.flatMap_cons, List.flatMap_nil, List.append_nil]; exact hlen) (by simp) (hr11.zok.below hb12) 2).mono ?_
    · match i, hx with
      | 0, hx => cases hx; simp
      | 1, hx => cases hx; simp
    · simp only [List.mem_cons, List.not_mem_nil, or_false] at hx
      rcases hx with rfl | rfl
      · exact ⟨(hr9.below hb11).below hb12, hB9⟩
      · exact ⟨hr11.below hb12, hB11⟩
    rintro e w13 ⟨vR, TR, rfl, hb13, hrR, hBR, hiR⟩
    simp only [List.flatMap_cons, List.flatMap_nil, List.append_nil] at hiR
    have hsR2 : sz TR ≤ 400 := by rw [← items_len, hiR]; exact hlen
    rw [HI9.out, HI11.out, ← List.map_append] at hiR
    have hsR : 0 < sz TR := by
      rw [← items_len, hiR, List.length_map]
      exact List.length_pos_of_mem ((HC.out.2.mem u u).2 ⟨Or.inl ⟨rfl, hun.1⟩, rfl⟩)
    obtain ⟨bR, rfl⟩ := row_some hrR hsR
    have hsrt : ((items TR).filter fun z : Int => decide (z < (L.n : Nat))).mergeSort (fun x y => decide (x ≤ y)) = (p' u :: nsR).map Int.ofNat := by
      rw [hiR, HC.out.2.sorted g'.among, hnsR]
    have hb8 : RowKit.Below w8.heap.size w8 w13 := below_step (below_step (below_step hb9 hb11) hb12) hb13
    have m13 := m8.below hb8
    have hk := keep_any m13 hrR hsR2 nsR (p' u) hsrt (fun x hx => (mem_nodesOf.1 (by rw [hnsR]; exact hx)).1)
    have HIR : Hid (items TR = (P ++ Q).map (code L.n)) := hiR
    have hrM13 := hrM8.below hb8
    have t13 : Turn L w1 w13 := t8'.trans (Turn.of_below hb8)
    clear hsrt hiR hr8 hr9 hr11 hrM8 m8 hb9 hb11 hb12 hb13 hb8 t8' hlen HI9 HI11
    go_wp2_with fail
    refine hk.mono ?_
    rintro e w14 ⟨rfl, t14, m14⟩
    have hrM14 := hrM13.turn m13 t14
    have hrR14 := hrR.turn m13 t14
    have t14' := t13.trans t14
    have m15 := m14.congr (p' := p') (fun i hi => by
      have hM : ∀ x, x ∈ p' v :: nsM ↔ x < L.n ∧ p' x = p' v := fun x => by rw [← hnsM]; exact mem_nodesOf
      have hR : ∀ x, x ∈ p' u :: nsR ↔ x < L.n ∧ p' x = p' u := fun x => by rw [← hnsR]; exact mem_nodesOf
      by_cases c1 : i ∈ p' u :: nsR
      · rw [if_pos c1]; exact ((hR i).1 c1).2.symm
      · rw [if_neg c1]
        by_cases c2 : i ∈ p' v :: nsM
        · rw [if_pos c2]; exact ((hM i).1 c2).2.symm
        · rw [if_neg c2]
          exact mo'.rest g'.rest g.rest (fun e => c1 ((hR i).2 ⟨hi, e⟩)) (fun e => c2 ((hM i).2 ⟨hi, e⟩)))
    clear hk m14 m13 hrM13 hrR t13 t14
    have hbx : RowKit.Below w14.heap.size w14 (w14.alloc (.cells #[.int .i64 (min a b : Nat), .int .i64 (max a b : Nat)] 44)).drew := ((RowKit.Below.refl _ _).alloc (Nat.le_refl _) _).drew
    have m16 := m15.below hbx
    obtain ⟨w17, DE', hrun17, hes, ht17⟩ := m16.edges.drop (min a b) (max a b) (by omega) (by omega) hnE hperm 0
    have c2 := m15.c2
    have bl : ∀ i, i < (w14.alloc (.cells #[.int .i64 (min a b : Nat), .int .i64 (max a b : Nat)] 44)).drew.heap.size → i ≠ L.eb → w17.heap[i]? = (w14.alloc (.cells #[.int .i64 (min a b : Nat), .int .i64 (max a b : Nat)] 44)).drew.heap[i]? := fun i hi hn => ht17.grown.block i hi (fun e => hn (by cases e; rfl))
    have m17 : Mem w17 L p' ((DW.put (.int .i64 ((p' v : Nat) : Int)) (.lit (.int .i64 (bM : Int)))).put (.int .i64 ((p' u : Nat) : Int)) (.lit (.int .i64 (bR : Int)))) DE' E' :=
      ⟨m16.st.of_block (bl _ m16.st.lt (fun e => m16.g_off (Or.inr (Or.inr e)))), m16.home.of_block (bl _ m16.home.lt m16.he), own_block m16.ways (bl _ (map_lt m16.wm) m16.we), m16.keys, hes, m16.n1, m16.n60, m16.we⟩
    have tx : Turn L w14 w17 := (Turn.of_below hbx).trans (Turn.grown ht17.grown (Or.inr (Or.inr rfl)))
    have t17 : Turn L w1 w17 := t14'.trans tx
    have hfin : FAt w17 L E' p' := by
      have hap := mo'.apart g'.rest
      have kv : WideAt.IsKeyLit (.int .i64 ((p' v : Nat) : Int)) := Tryz.lawInt.key (key_int (p' v) (by omega))
      have ku : WideAt.IsKeyLit (.int .i64 ((p' u : Nat) : Int)) := Tryz.lawInt.key (key_int (p' u) (by omega))
      have hmp := HM.out.1.ways.isMap
      refine cut_end (u := u) (v := v) (b1 := bM) (b2 := bR) (T1 := TM) (T2 := TR) (l1 := M) (l2 := P ++ Q) HM.out.2 HM.out.1 t17 mo' g g' m17 (fun r hr1 hr2 z => ?_)
        ⟨fun z => ?_, hrM14.turn m15 tx, hBM, HIM.out, HC.out.1⟩ ⟨fun z => ?_, hrR14.turn m15 tx, hBR, HIR.out, HC.out.2⟩
      · rw [Maps.atKey_put_other (by simp only [ne_eq, Lit.int.injEq, true_and]; omega), Maps.atKey_put_other (by simp only [ne_eq, Lit.int.injEq, true_and]; omega)]
      · rw [Maps.atKey_put_other (by simp only [ne_eq, Lit.int.injEq, true_and]; omega)]
        exact Maps.atKey_put_same hmp kv _ _
      · exact Maps.atKey_put_same (hmp.put _ _) ku _ _
    have HF : Hid (FAt w17 L E' p') := hfin
    have c2x := m17.c2
    have HT : Hid (Turn L w w17) := (Turn.of_below hb0).trans t17
    clear hfin m17 bl m16 m15 hes ht17 t17 tx t14' hrM14 hrR14
    go_wp2_with fail
    go_region_held3 (fun W => W.cell? ⟨L.g, 2, none⟩ = some (.map (some L.eb))) (first | (go_keep; done) | exact cell_keep hbx c2 | exact c2x)
      (first
        | (go_at_call 61; refine (edgeOf_any a b (by omega) (by omega)).mono ?_; rintro e w9 ⟨rfl, rfl⟩))
    go_wp2_with fail
    go_ret
    exact ⟨rfl, HT.out, HGoal.out HF.out⟩

end Go.Proofs.YtcfemppdeidjmacGreat

namespace Go.Proofs.YtcfemppdeidjmacGreat
set_option linter.unusedSectionVars false
variable [Inhabited Zed]
open Go.RowKit Go.Deep Go.Shelf Go.Sort Go.Lib
open Go.RowKit (Below)
set_option linter.unusedVariables false

variable {w w' : World} {L : Pl}

theorem way_one {n r : Nat} (hr : r < n) : Way n [] (fun i => i) r [(r, r)] := by
  refine ⟨by simp, ⟨r, rfl, rfl⟩, fun x y => ?_⟩
  simp only [List.mem_singleton, Prod.mk.injEq, Mv, Edg, List.not_mem_nil, or_self, and_false, or_false]
  constructor
  · rintro ⟨rfl, rfl⟩; exact ⟨⟨rfl, hr⟩, rfl⟩
  · rintro ⟨⟨rfl, _⟩, rfl⟩; exact ⟨rfl, rfl⟩

theorem grown_new (n : Nat) : Grown n [] fun i => i :=
  ⟨fun e he => absurd he (by simp), trivial, ⟨Low.start [], fun e he => absurd he (by simp)⟩, fun e he => absurd he (by simp), List.Pairwise.nil⟩

structure Begun (w0 w : World) (L : Pl) (k : Nat) : Prop where
  below : RowKit.Below w0.heap.size w0 w
  mem : ∃ DW DE, Mem w L (fun i => if i < k then i else 0) DW DE [] ∧ ∀ r, r < k → ∃ (b : Nat) (T : BT Int), (∀ z, DW.atKey (.int .i64 (r : Int)) z = .lit (.int .i64 (b : Int))) ∧ RowAt w (some ⟨b, 0, none⟩) T ∧ Bal T ∧ items T = [(r : Int)]

theorem Begun.done {w0 : World} {n : Nat} (h : Begun w0 w L n) (hn : L.n = n) : FAt w L [] fun i => i := by
  subst hn
  obtain ⟨DW, DE, m, hr⟩ := h.mem
  refine ⟨grown_new _, DW, DE, m.congr (fun i hi => if_pos hi), fun r h1 _ => ?_⟩
  obtain ⟨b, T, h2, h3, h4, h5⟩ := hr r h1
  exact ⟨b, T, [(r, r)], h2, h3, h4, by rw [h5]; simp [code_self], way_one h1⟩

theorem begun_new {w : World} {n : Nat} (h1 : 1 ≤ n) (h2 : n ≤ 60) :
    Begun w ((((w.alloc (.cells (madeCells #[.int .i64 0] n) 3)).alloc (.map #[] 0)).alloc (.map #[] 0)).alloc (.cells #[.slice (some ⟨w.heap.size, 0, none⟩) n n, .map (some (w.heap.size + 1)), .map (some (w.heap.size + 1 + 1))] 108)) ⟨w.heap.size + 1 + 1 + 1, w.heap.size, w.heap.size + 1, w.heap.size + 1 + 1, n⟩ 0 := by
  have b1 : RowKit.Below w.heap.size w (w.alloc (.cells (madeCells #[.int .i64 0] n) 3)) := (RowKit.Below.refl _ _).alloc (Nat.le_refl _) _
  generalize hA : (w.alloc (.cells (madeCells #[.int .i64 0] n) 3)) = A at b1 ⊢
  have sA : A.heap.size = w.heap.size + 1 := by rw [← hA]; simp
  have rA : A.rowIs w.heap.size 3 n (fun _ => .int .i64 0) := by rw [← hA]; exact World.rowIs_made w (.int .i64 0) n 3
  have oB : (A.alloc (.map #[] 0)).ownsMap Tryz.prog 3 ptrElem (w.heap.size + 1) 0 (.map []) := by rw [← sA]; exact World.ownsMap_made A _ _ _
  have sB : (A.alloc (.map #[] 0)).heap.size = w.heap.size + 1 + 1 := by simp [sA]
  generalize hB : A.alloc (.map #[] 0) = B at *
  have oC : (B.alloc (.map #[] 0)).ownsMap Tryz.prog 44 unitElem (w.heap.size + 1 + 1) 0 (.map [] : DataW Unit) := by rw [← sB]; exact World.ownsMap_made B _ _ _
  have sC : (B.alloc (.map #[] 0)).heap.size = w.heap.size + 1 + 1 + 1 := by simp [sB]
  have oC1 := oB.alloc (.map #[] 0)
  have rB : B.rowIs w.heap.size 3 n (fun _ => .int .i64 0) := by rw [← hB]; exact rA.alloc _
  have rC := rB.alloc (.map #[] 0)
  have bB : RowKit.Below w.heap.size w B := by rw [← hB]; exact b1.alloc b1.size _
  have bC := bB.alloc bB.size (.map #[] 0)
  generalize hC : B.alloc (.map #[] 0) = C at *
  have st := World.rowIs_alloc C #[.slice (some ⟨w.heap.size, 0, none⟩) n n, .map (some (w.heap.size + 1)), .map (some (w.heap.size + 1 + 1))] 108 (cells3 ⟨w.heap.size + 1 + 1 + 1, w.heap.size, w.heap.size + 1, w.heap.size + 1 + 1, n⟩) (fun i hi => by
    match i, hi with
    | 0, _ => rfl
    | 1, _ => rfl
    | 2, _ => rfl)
  rw [sC] at st
  refine ⟨bC.alloc bC.size _, .map [], .map [], ⟨st, (rC.alloc _).congr (fun i _ => by simp), (oC1.alloc _).mono (Nat.zero_le _), fun kl hk => by simp [Maps.has] at hk, ⟨⟨0, oC.alloc _⟩, fun v kl _ => by simp [Maps.has], rfl⟩, h1, h2, by simp⟩, fun r hr => absurd hr (Nat.not_lt_zero _)⟩

set_option maxHeartbeats 1000000 in
theorem fnew_any {w : World} (n : Nat) (h1 : 1 ≤ n) (h2 : n ≤ 60) (hz : Zok w) :
    Calls Tryz.prog 16 #[.int .i64 (n : Nat)] w fun e w' => ∃ L : Pl, e = .returned (.tuple #[.pointer (some ⟨L.g, 0, none⟩), .nilIface]) ∧ RowKit.Below w.heap.size w w' ∧ FAt w' L [] (fun i => i) ∧ L.n = n ∧ ∀ k, Foot L k ∨ k = L.g → w.heap.size ≤ k := by
  have HZ : Hid (Zok w) := hz
  clear hz
  have hmk := run_make_row' (P := Tryz.prog) 33 3 (.int .i64 0) 8 Tryz.underlying33 Tryz.infoInt rfl .i64 .i64 n (by omega) (by omega)
  have hmm := @run_makeMap Tryz.prog
  have hbg := begun_new (w := w) h1 h2
  obtain ⟨L, hL⟩ : ∃ L : Pl, L = ⟨w.heap.size + 1 + 1 + 1, w.heap.size, w.heap.size + 1, w.heap.size + 1 + 1, n⟩ := ⟨_, rfl⟩
  rw [← hL] at hbg
  have hg : w.heap.size + 1 + 1 + 1 = L.g := by rw [hL]
  have hLn : L.n = n := by rw [hL]
  have HFt : Hid (∀ k, Foot L k → w.heap.size ≤ k) := fun k hk => by
    rw [hL] at hk
    rcases hk with rfl | rfl | rfl
    · exact Nat.le_refl _
    · show w.heap.size ≤ w.heap.size + 1; omega
    · show w.heap.size ≤ w.heap.size + 1 + 1; omega
  have HB : Hid (Begun w _ L 0) := hbg
  have HG : Hid (w.heap.size + 1 + 1 + 1 = L.g) := hg
  clear hL hbg hg
  go_enter Tryz.func16, Tryz.ntmps16
  go_wp2_with fail
  rw [HG.out]
  clear hmk hmm
  go_loopw [5, 20] (fun _ i wr => ∃ k : Nat, k ≤ n ∧ i = .int .i64 (k : Nat) ∧ Begun w wr L k) (fun _ i _ => n - (intOf i).toNat)
  case atStart => exact ⟨0, Nat.zero_le _, rfl, HB.out⟩
  case round =>
    obtain ⟨k, hk, rfl, hM⟩ := hrel
    by_cases hlt : k < n
    · have i0 : (0 : Int) ≤ (k : Int) := by omega
      have i1 : (k : Int) < (n : Int) := by omega
      obtain ⟨DW, DE, m, hr⟩ := hM.mem
      have hbel := hM.below
      have HR : Hid (∀ r, r < k → ∃ (b : Nat) (T : BT Int), (∀ z, DW.atKey (.int .i64 (r : Int)) z = .lit (.int .i64 (b : Int))) ∧ RowAt wr (some ⟨b, 0, none⟩) T ∧ Bal T ∧ items T = [(r : Int)]) := hr
      clear hM hr
      go_wp2_with fail
      refine (only_any (k : Int) (HZ.out.below hbel)).mono ?_
      rintro e w1 ⟨v, T, rfl, hb1, hr1, hB1, hi1⟩
      have hs : sz T = 1 := by rw [← items_len, hi1]; rfl
      obtain ⟨b, rfl⟩ := row_some hr1 (by omega)
      have m1 := m.below hb1
      have hkp := keep_any m1 hr1 (by omega) [] k (by rw [hi1]; simp [hLn, hlt]) (fun x hx => by simp at hx; omega)
      go_wp2_with fail
      refine hkp.mono ?_
      rintro e w2 ⟨rfl, t2, m2⟩
      have hnew : Begun w w2 L (k + 1) := by
        have hsz := hbel.size
        refine ⟨Turn.below (hbel.trans (hb1.mono hsz)) (by have := hb1.size; omega) HFt.out t2, _, _, m2.congr (fun i _ => ?_), fun r hr => ?_⟩
        · simp only [List.mem_singleton]
          by_cases e : i = k
          · simp [e]
          · by_cases e2 : i < k
            · simp [e, e2, Nat.lt_succ_of_lt e2]
            · have : ¬ i < k + 1 := by omega
              simp [e, e2, this]
        · by_cases e : r = k
          · subst e
            exact ⟨b, T, fun z => Maps.atKey_put_same m1.ways.isMap (Tryz.lawInt.key (key_int r (by omega))) _ _, hr1.turn m1 t2, hB1, hi1⟩
          · obtain ⟨b0, T0, q1, q2, q3, q4⟩ := HR.out r (by omega)
            exact ⟨b0, T0, fun z => (Maps.atKey_put_other (by simp only [ne_eq, Lit.int.injEq, true_and]; omega) _ _).trans (q1 z), (q2.below hb1).turn m1 t2, q3, q4⟩
      have HN : Hid (Begun w w2 L (k + 1)) := hnew
      clear hnew m m1 m2 t2 hr1 hkp hi1
      go_wp2_with fail
      go_roundw
      case rel => exact ⟨k + 1, by omega, by go_num, HN.out⟩
      case measure => simp [intOf]; omega
    · obtain rfl : k = n := by omega
      go_wp2_with fail
      go_ret2
      exact ⟨L, rfl, hM.below, hM.done hLn, hLn, fun k q => q.elim (HFt.out k) fun e => by have := HG.out; omega⟩

end Go.Proofs.YtcfemppdeidjmacGreat

namespace Go.Proofs.YtcfemppdeidjmacGreat
set_option linter.unusedSectionVars false
variable [Inhabited Zed]
open Go.RowKit Go.Deep
open Go.RowKit (Below)
set_option linter.unusedVariables false

variable {w w' : World} {L : Pl} {p p' : Nat → Nat} {E E' : List (Nat × Nat)}

set_option maxHeartbeats 1000000 in
theorem size_tree (f : FAt w L E p) (a : Nat) (ha : a < L.n) (N : Nat) (hN : (nodesOf L.n p (p a)).length = N) :
    Calls Tryz.prog 62 #[.pointer (some ⟨L.g, 0, none⟩), .int .i64 (a : Int)] w fun e w' => e = .returned (.tuple #[.int .i64 (N : Nat), .nilIface]) ∧ Below w.heap.size w w' := by
  have hb : Below w.heap.size w (w.alloc (.cells #[.int .i64 (a : Int)] 3)) := (Below.refl _ _).alloc (Nat.le_refl _) _
  have f1 := f.below hb
  obtain ⟨DW, DE, m, hw⟩ := f1.mem
  have hh := has_any m rfl w.heap.size [(a : Int)] (fun i x hx => by match i, hx with | 0, hx => cases hx; simp) (by simp) 1
  rw [one_in, decide_eq_true (by omega)] at hh
  have hpn := f.grown.lt ha
  obtain ⟨b, T, l, hW⟩ := hw (p a) hpn (f.grown.rest.least a)
  obtain ⟨hsN, hsz, hs, hz⟩ := hW.sz f.grown m.n60 hpn (f.grown.rest.least a)
  rw [hN] at hsN
  have hlook := ways_look (w := (w.alloc (.cells #[.int .i64 (a : Int)] 3)).drew) m.ways (p a) b (by have := m.n60; omega) hW.at_
  have c0 := m.c0
  have c1 := m.c1
  have hat := m.at ha
  have i0 : (0 : Int) ≤ (a : Int) := by omega
  have i1 : (a : Int) < (L.n : Int) := by omega
  have hlen := len_any hW.row.drew
  have hdr : Below w.heap.size w (w.alloc (.cells #[.int .i64 (a : Int)] 3)).drew := hb.drew
  have HE : Hid (((sz T : Nat) : Int) + 2 = 3 * (N : Int)) := show _ = _ by omega
  clear hW hw hsz hsN hN
  go_enter Tryz.func62, Tryz.ntmps62
  go_wp2_with fail
  refine hh.mono ?_
  rintro e w1 ⟨rfl, rfl⟩
  clear hh
  go_wp2_with fail
  generalize hW1 : (w.alloc (.cells #[.int .i64 (a : Int)] 3)) = W at *
  clear hW1
  go_region_held3 (fun W => W.cell? ⟨L.g, 1, none⟩ = some (.map (some L.wb)) ∧ W.cell? ⟨L.g, 0, none⟩ = some (.slice (some ⟨L.hb, 0, none⟩) L.n L.n) ∧ W.cell? ⟨L.hb, a, none⟩ = some (.int .i64 (p a : Nat))) (first | (go_keep; done) | exact ⟨c1, c0, hat⟩)
    (first
      | (go_at_call 101; refine hlen.mono ?_; rintro e w2 ⟨rfl, rfl⟩))
  have h2 : IntKind.i64.wrap ((IntKind.i64.wrap (((sz T : Nat) : Int) + 2)).tdiv 3) = (N : Int) := by
    have e1 : IntKind.i64.wrap (((sz T : Nat) : Int) + 2) = 3 * (N : Int) := by rw [IntKind.wrap_i64]; have := HE.out; omega
    have e2 : (3 * (N : Int)).tdiv 3 = N := Int.mul_tdiv_cancel_left _ (by omega)
    rw [e1, e2, IntKind.wrap_i64]
    have := HE.out
    omega
  rw [h2]
  go_wp2_with fail
  go_ret2
  exact ⟨rfl, hdr⟩

end Go.Proofs.YtcfemppdeidjmacGreat
