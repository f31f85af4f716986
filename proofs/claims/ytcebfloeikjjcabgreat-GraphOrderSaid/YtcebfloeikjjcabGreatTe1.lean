/-
  Cut of package tour: where it cuts nothing; what a cut comes to.
-/
import Derived.Test.YtcebfloeikjjcabGreatTd
namespace Go.Proofs.YtcebfloeikjjcabGreat
open Go.RowKit Go.Deep Go.Shelf Go.Sort Go.Lib
open Go.RowKit (Below)
set_option linter.unusedVariables false

variable {w w' : World} {L : Pl} {p p' : Nat → Nat} {DW DW' DE DE' : DataW Unit} {E E' : List (Nat × Nat)}

/-- An edge less: the edges, and the nodes' least fellows. -/
theorem grown_less {n : Nat} {A B : List (Nat × Nat)} {a b : Nat} (g : Grown n (A ++ (min a b, max a b) :: B) p) :
    ∃ p', More (A ++ B) a b (A ++ (min a b, max a b) :: B) ∧ Grown n (A ++ B) p' ∧ (min a b, max a b) ∉ A ++ B := by
  obtain ⟨hf, hc⟩ := g.forest.out g.among
  obtain ⟨p', hp'⟩ := rest_of (A ++ B)
  have hsub : ∀ e ∈ A ++ B, e ∈ A ++ (min a b, max a b) :: B := fun e he => by
    rcases List.mem_append.1 he with he | he
    · exact List.mem_append_left _ he
    · exact List.mem_append_right _ (List.mem_cons_of_mem _ he)
  refine ⟨p', ?_, ⟨fun e he => g.among e (hsub e he), hf, hp', fun e he => g.less e (hsub e he), ?_⟩, fun hm => hc (conn_edge hm)⟩
  · rcases Nat.lt_or_ge a b with h | h
    · rw [Nat.min_eq_left (by omega), Nat.max_eq_right (by omega)] at hc ⊢; exact more_out hc
    · rw [Nat.min_eq_right h, Nat.max_eq_left h] at hc ⊢; exact (more_out hc).symm
  · have := g.rises
    unfold Rises at this ⊢
    rw [List.pairwise_append] at this ⊢
    exact ⟨this.1, (List.pairwise_cons.1 this.2.1).2, fun x hx y hy => this.2.2 x hx y (List.mem_cons_of_mem _ hy)⟩

/-- Both moves of an edge stand on the way, one of them first. -/
theorem way_split {l : List (Nat × Nat)} {a b : Nat} (hne : a ≠ b) (h1 : (a, b) ∈ l) (h2 : (b, a) ∈ l) : ∃ u v P M Q, ((u = a ∧ v = b) ∨ (u = b ∧ v = a)) ∧ l = P ++ (u, v) :: (M ++ (v, u) :: Q) := by
  obtain ⟨P, R, rfl⟩ := List.append_of_mem h1
  rcases List.mem_append.1 h2 with h | h
  · obtain ⟨P1, M, rfl⟩ := List.append_of_mem h
    exact ⟨b, a, P1, M, R, Or.inr ⟨rfl, rfl⟩, by simp⟩
  · rcases List.mem_cons.1 h with e | h
    · simp only [Prod.mk.injEq] at e; exact absurd e.1.symm hne
    · obtain ⟨M, Q, rfl⟩ := List.append_of_mem h
      exact ⟨a, b, P, M, Q, Or.inl ⟨rfl, rfl⟩, rfl⟩

/-- The forest behind a Cut. -/
theorem cut_end {u v b1 b2 : Nat} {T1 T2 : BT Int} {l1 l2 : List (Nat × Nat)} (hw : ∀ r, r < L.n → p r = r → ∃ b T l, WayAt w L E p DW r b T l) (m : Mem w L p DW DE E) (t : Turn L w w') (mo : More E' u v E) (g : Grown L.n E p) (g' : Grown L.n E' p') (m' : Mem w' L p' DW' DE' E')
    (hother : ∀ r : Nat, r ≠ p' u → r ≠ p' v → ∀ z, DW'.atKey (.int .i64 (r : Int)) z = DW.atKey (.int .i64 (r : Int)) z) (h1 : WayAt w' L E' p' DW' (p' v) b1 T1 l1) (h2 : WayAt w' L E' p' DW' (p' u) b2 T2 l2) : FAt w' L E' p' := by
  refine ⟨g', DW', DE', m', fun r hr hp => ?_⟩
  by_cases e1 : r = p' v
  · rw [e1]; exact ⟨_, _, _, h1⟩
  · by_cases e2 : r = p' u
    · rw [e2]; exact ⟨_, _, _, h2⟩
    · have e3 := mo.rest g'.rest g.rest (x := r) (by rw [hp]; exact e2) (by rw [hp]; exact e1)
      rw [hp] at e3
      obtain ⟨b0, T0, l0, hW⟩ := hw r hr e3
      exact ⟨b0, T0, l0, fun z => (hother r e2 e1 z).trans (hW.at_ z), hW.row.turn m t, hW.bal, hW.items, (Way.other mo g'.rest g.rest hp e2 e1).2 hW.way⟩

set_option maxHeartbeats 400000 in
theorem cut_no (f : FAt w L E p) (a b : Int) (ha : ¬ ((0 ≤ a ∧ a < L.n) ∧ 0 ≤ b ∧ b < L.n)) :
    Calls Tryz.prog 39 #[.pointer (some ⟨L.g, 0, none⟩), .int .i64 a, .int .i64 b] w fun e w' => e = .returned (.iface 50 (.int .i64 1)) ∧ RowKit.Below w.heap.size w w' := by
  have hb : RowKit.Below w.heap.size w (w.alloc (.cells #[.int .i64 a, .int .i64 b] 3)) := (RowKit.Below.refl _ _).alloc (Nat.le_refl _) _
  obtain ⟨DW, DE, m, -⟩ := (f.below hb).mem
  have hh := has_any m rfl w.heap.size [a, b] (fun i x hx => by match i, hx with | 0, hx => cases hx; simp | 1, hx => cases hx; simp) (by simp) 2
  rw [two_in, decide_eq_false ha] at hh
  clear m
  go_enter Tryz.func39, Tryz.ntmps39
  go_wp2_with fail
  refine hh.mono ?_
  rintro e w1 ⟨rfl, rfl⟩
  go_wp2_with fail
  go_ret
  exact ⟨rfl, hb⟩

set_option maxRecDepth 100000 in
set_option maxHeartbeats 1000000 in
theorem cut_none (f : FAt w L E p) (a b : Nat) (ha : a < L.n) (hb : b < L.n) (hn : (min a b, max a b) ∉ E) :
    Calls Tryz.prog 39 #[.pointer (some ⟨L.g, 0, none⟩), .int .i64 (a : Int), .int .i64 (b : Int)] w fun e w' => e = .returned (.iface 50 (.int .i64 4)) ∧ RowKit.Below w.heap.size w w' := by
  have hb0 : RowKit.Below w.heap.size w (w.alloc (.cells #[.int .i64 (a : Int), .int .i64 (b : Int)] 3)) := (RowKit.Below.refl _ _).alloc (Nat.le_refl _) _
  obtain ⟨DW, DE, m, -⟩ := (f.below hb0).mem
  have hh := has_any m rfl w.heap.size [(a : Int), (b : Int)] (fun i x hx => by match i, hx with | 0, hx => cases hx; simp | 1, hx => cases hx; simp) (by simp) 2
  rw [two_in, decide_eq_true (by omega)] at hh
  have c2 := m.c2
  have hn60 := m.n60
  generalize hWW : (w.alloc (.cells #[.int .i64 (a : Int), .int .i64 (b : Int)] 3)) = W at *
  obtain ⟨O1, hO1⟩ : ∃ O1, O1 = Obj.cells #[.int .i64 (min a b : Nat), .int .i64 (max a b : Nat)] 41 := ⟨_, rfl⟩
  have b1 : RowKit.Below W.heap.size W (W.alloc O1).drew := ((RowKit.Below.refl _ _).alloc (Nat.le_refl _) _).drew
  have b2 : RowKit.Below W.heap.size W ((W.alloc O1).alloc (.cells #[] 73)).drew := (((RowKit.Below.refl _ _).alloc (Nat.le_refl _) _).alloc (by simp) _).drew
  have b3 : RowKit.Below W.heap.size W ((W.alloc (.cells #[] 73)).alloc O1).drew := (((RowKit.Below.refl _ _).alloc (Nat.le_refl _) _).alloc (by simp) _).drew
  have l1 := (m.below b1).edges.look (min a b) (max a b) (by omega) (by omega) false (by simp [hn])
  have l2 := (m.below b2).edges.look (min a b) (max a b) (by omega) (by omega) false (by simp [hn])
  have l3 := (m.below b3).edges.look (min a b) (max a b) (by omega) (by omega) false (by simp [hn])
  rw [hO1] at l1 b1 l2 b2 l3 b3
  clear m hO1
  go_enter Tryz.func39, Tryz.ntmps39
  go_wp2_with fail
  clear hWW
  refine hh.mono ?_
  rintro e w1 ⟨rfl, rfl⟩
  go_wp2_with fail
  go_region_held3 (fun W => W.cell? ⟨L.g, 2, none⟩ = some (.map (some L.eb))) (first | (go_keep; done) | exact cell_keep b1 c2 | exact cell_keep b2 c2 | exact cell_keep b3 c2)
    (first
      | (go_at_call 36; refine (edgeOf_any a b (by omega) (by omega)).mono ?_; rintro e w9 ⟨rfl, rfl⟩))
  all_goals
    go_wp2_with fail
    go_ret
    refine ⟨rfl, ?_⟩
    first
      | exact below_step hb0 b1
      | exact below_step hb0 b2
      | exact below_step hb0 b3

end Go.Proofs.YtcebfloeikjjcabGreat
