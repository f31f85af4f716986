/-
  GraphOrder: two graphs beside each other, and a list of edges of one's own.
-/
import Derived.Test.YtcebfloeikjjcabGreatMm
namespace Go.Proofs.YtcebfloeikjjcabGreat.Gr
open Go.RowKit Go.Deep Go.Maps
open Go.RowKit (Below)
set_option linter.unusedVariables false

variable {w w' wH : World} {G H : GPl} {A ss : List (Nat × Nat)} {lv lv' : Nat × Nat → Nat} {tr tr' : Nat × Nat → Bool} {X : Nat → List (Nat × Nat)} {hb0 : Nat}

theorem tag_one {b : Nat} {t t' : TypeId} (h : Tag w b t) (h' : Tag w b t') : t = t' := by
  obtain ⟨c, z, h⟩ := h
  obtain ⟨c', z', h'⟩ := h'
  rw [h] at h'
  cases h'
  rfl

/-- The graph is as it was behind a step that writes into a list of edges alone. -/
theorem GMem.turn_edge (h : GMem w G A lv tr X) {c : Nat} (hc : Tag w c 41) (t : Turns (fun b => b = c) w w') : GMem w' G A lv tr X := by
  have hne : ∀ {b : Nat} {u : TypeId}, Tag w b u → u ≠ 41 → ¬ b = c := fun ht hn e => hn (tag_one (e ▸ ht) hc)
  obtain ⟨D, hD⟩ := h.map
  have e1 := t.block _ h.st.lt (hne (rowIs_tag h.st) (by decide))
  have e2 := t.block _ (map_lt hD.isMap) (fun e => tag_map (e ▸ hc) hD.isMap)
  have e3 := t.block _ (tag_lt h.tag) (hne h.tag (by decide))
  refine ⟨h.st.of_block e1, ⟨D, hD.of_block e2⟩, fun k hk => (World.cell?_of_block (w := w) (a := ⟨G.fb, k, none⟩) e3).trans (h.row k hk), tag_of h.tag e3, fun k hk => ?_, h.ln, h.apart, h.off, h.levels, h.n1, h.n60, h.rises, h.among, h.less, h.m200⟩
  obtain ⟨p, f⟩ := h.fo k hk
  exact ⟨p, fat_turns f (fun b u hu ho => hne hu (by rcases ho with rfl | rfl | rfl <;> decide)) (fun b hb e => h.plain c 41 hc (by decide) (Or.inr ⟨k, hk, e ▸ hb⟩)) t⟩

theorem GW.turn_edge {w0 : World} (h : GW w0 G A lv tr w) {c : Nat} (hc : Tag w c 41) (h0 : w0.heap.size ≤ c) (t : Turns (fun b => b = c) w w') : GW w0 G A lv tr w' :=
  ⟨⟨GMem.turn_edge h.ok.at_ hc t, h.ok.lev⟩, t.below h.below h.below.size (fun k e => e ▸ h0), h.foot⟩

theorem own_two {base : Nat} {e : TypeId} {v : Value} {s n : Nat} {xs : List Value} (h : w.ownsRow base e s v n xs) {g : Nat} (hg : v.ownBlock = some g) : base ≤ g ∧ Tag w g e := by
  rcases h.2 with ⟨h0, _⟩ | ⟨g', cap, cur, hv, h1, h2, h3⟩
  · rw [h0] at hg; cases hg
  · rw [hv] at hg
    cases hg
    exact ⟨h1, cur, _, h2⟩

theorem own_keep {base : Nat} {e : TypeId} {v : Value} {s n : Nat} {xs : List Value} (h : w.ownsRow base e s v n xs) (hb : ∀ g, v.ownBlock = some g → w'.heap[g]? = w.heap[g]?) : w'.ownsRow base e s v n xs := by
  refine ⟨h.1, ?_⟩
  rcases h.2 with h0 | ⟨g, cap, cur, hv, h1, h2, h3⟩
  · exact Or.inl h0
  · refine Or.inr ⟨g, cap, cur, hv, h1, ?_, h3⟩
    rw [hb g (by rw [hv]; rfl)]; exact h2

/-- The other graph, of which we know which edges it has and how many at most; and a list of edges of one's own. -/
structure OW (wH : World) (H : GPl) (hb0 : Nat) (M : Nat × Nat → Prop) (k : Nat) (ss : List (Nat × Nat)) (v : Value) (w : World) : Prop where
  gw : ∃ B lv tr, GW wH H B lv tr w ∧ (∀ e, e ∈ B ↔ M e) ∧ B.length ≤ k
  own : w.ownsRow hb0 41 2 v ss.length (twos ss)
  foot : ∀ c, GFoot H c → c < hb0
  base : wH.heap.size ≤ hb0
  top : hb0 ≤ w.heap.size

variable {M M' : Nat × Nat → Prop} {k : Nat} {v v' : Value}

theorem OW.below (h : OW wH H hb0 M k ss v w) : Below wH.heap.size wH w := by
  obtain ⟨B, lv, tr, gw, _⟩ := h.gw
  exact gw.below

theorem OW.step (h : OW wH H hb0 M k ss v w) (hb : Below w.heap.size w w') : OW wH H hb0 M k ss v w' := by
  obtain ⟨B, lv, tr, gw, hm⟩ := h.gw
  exact ⟨⟨B, lv, tr, gw.step hb, hm⟩, own_keep h.own (fun g hg => hb.block g (tag_lt (own_two h.own hg).2)), h.foot, h.base, Nat.le_trans h.top hb.size⟩

theorem OW.congr (h : OW wH H hb0 M k ss v w) (hM : ∀ e, M e ↔ M' e) : OW wH H hb0 M' k ss v w := by
  obtain ⟨B, lv, tr, gw, hm, hl⟩ := h.gw
  exact ⟨⟨B, lv, tr, gw, fun e => (hm e).trans (hM e), hl⟩, h.own, h.foot, h.base, h.top⟩

/-- Behind a change of the graph. -/
theorem OW.turn (h : OW wH H hb0 M k ss v w) (t : Turns (GFoot H) w w') {B : List (Nat × Nat)} {k' : Nat} (gw : GW wH H B lv tr w') (hm : ∀ e, e ∈ B ↔ M' e) (hl : B.length ≤ k') : OW wH H hb0 M' k' ss v w' :=
  ⟨⟨B, lv, tr, gw, hm, hl⟩, own_keep h.own (fun g hg => t.block g (tag_lt (own_two h.own hg).2) (fun q => by have := h.foot g q; have := (own_two h.own hg).1; omega)), h.foot, h.base, Nat.le_trans h.top t.size⟩

/-- The list is told of one more. -/
theorem OW.append {e : Nat × Nat} (h : OW wH H hb0 M k ss v w) (ho : w'.ownsRow hb0 41 2 v' (ss.length + 1) (twos ss ++ two e)) (hg : w.grownBy w' v.ownBlock) : OW wH H hb0 M k (ss ++ [e]) v' w' := by
  obtain ⟨B, lv, tr, gw, hm⟩ := h.gw
  refine ⟨⟨B, lv, tr, ?_, hm⟩, ?_, h.foot, h.base, Nat.le_trans h.top hg.size⟩
  · cases hv : v.ownBlock with
    | none =>
      rw [hv] at hg
      exact gw.step ⟨hg.os, hg.tape, hg.output, hg.size, fun k hk => hg.block k hk (fun q => by cases q)⟩
    | some g =>
      rw [hv] at hg
      obtain ⟨q1, q2⟩ := own_two h.own hv
      exact gw.turn_edge q2 (Nat.le_trans h.base q1) (Turns.grown hg rfl)
  · rw [twos_snoc, List.length_append]
    exact ho

/-- An edge that the graph takes. -/
def Fresh (M : Nat × Nat → Prop) (n : Nat) (x y : Int) : Prop := ∃ a b : Nat, x = a ∧ y = b ∧ a < n ∧ b < n ∧ a ≠ b ∧ ¬ M (min a b, max a b)

theorem o_add_no (h : OW wH H hb0 M k ss v w) (x y : Int) (hno : ¬ Fresh M H.n x y) :
    Calls Tryz.prog 6 #[.pointer (some ⟨H.g, 0, none⟩), .int .i64 x, .int .i64 y] w fun e w' => (∃ n : Int, e = .returned (.iface 50 (.int .i64 n))) ∧ OW wH H hb0 M k ss v w' := by
  obtain ⟨B, lv, tr, gw, hm, hl⟩ := h.gw
  by_cases hn : (0 ≤ x ∧ x < H.n) ∧ 0 ≤ y ∧ y < H.n
  · obtain ⟨a, rfl⟩ := Int.eq_ofNat_of_zero_le hn.1.1
    obtain ⟨b, rfl⟩ := Int.eq_ofNat_of_zero_le hn.2.1
    by_cases hab : a = b
    · subst hab
      refine (add_shape gw.ok a (by omega)).mono ?_
      rintro e w1 ⟨rfl, hb⟩
      exact ⟨⟨_, rfl⟩, h.step hb⟩
    · have hin : (min a b, max a b) ∈ B := (hm _).2 (Classical.byContradiction fun q => hno ⟨a, b, rfl, rfl, by omega, by omega, hab, q⟩)
      refine (add_clash gw.ok a b (by omega) (by omega) hab hin).mono ?_
      rintro e w1 ⟨rfl, hb⟩
      exact ⟨⟨_, rfl⟩, h.step hb⟩
  · refine (add_no gw.ok x y hn).mono ?_
    rintro e w1 ⟨rfl, hb⟩
    exact ⟨⟨_, rfl⟩, h.step hb⟩

theorem o_add_ok (h : OW wH H hb0 M k ss v w) (a b : Nat) (ha : a < H.n) (hb : b < H.n) (hne : a ≠ b) (hn : ¬ M (min a b, max a b)) (hk : k < 200) :
    Calls Tryz.prog 6 #[.pointer (some ⟨H.g, 0, none⟩), .int .i64 (a : Nat), .int .i64 (b : Nat)] w fun e w' => e = .returned .nilIface ∧ OW wH H hb0 (fun e => e = (min a b, max a b) ∨ M e) (k + 1) ss v w' := by
  obtain ⟨B, lv, tr, gw, hm, hl⟩ := h.gw
  refine (add_any gw.ok a b ha hb hne (fun q => hn ((hm _).1 q)) (by omega)).mono ?_
  rintro e w1 ⟨rfl, t1, P, Q, tr', rfl, h1⟩
  refine ⟨rfl, h.turn t1 (gw.turn t1 h1) (fun e => ?_) (by simp at hl ⊢; omega)⟩
  rw [← hm]
  simp only [List.mem_append, List.mem_cons]
  constructor
  · rintro (q | q | q)
    · exact Or.inr (Or.inl q)
    · exact Or.inl q
    · exact Or.inr (Or.inr q)
  · rintro (q | q | q)
    · exact Or.inr (Or.inl q)
    · exact Or.inl q
    · exact Or.inr (Or.inr q)

theorem o_drop (h : OW wH H hb0 M k ss v w) (a b : Nat) (ha : a < H.n) (hb : b < H.n) (hin : M (min a b, max a b)) :
    Calls Tryz.prog 7 #[.pointer (some ⟨H.g, 0, none⟩), .int .i64 (a : Nat), .int .i64 (b : Nat)] w fun e w' => e = .returned .nilIface ∧ OW wH H hb0 (fun e => M e ∧ e ≠ (min a b, max a b)) k ss v w' := by
  obtain ⟨B, lv, tr, gw, hm, hl⟩ := h.gw
  refine (drop_any gw.ok a b ha hb ((hm _).2 hin)).mono ?_
  rintro e w1 ⟨rfl, t1, P, Q, lv', tr', rfl, h1, _⟩
  have hnd := rises_nodup gw.ok.mem.rises
  refine ⟨rfl, h.turn t1 (gw.turn t1 h1) (fun e => ?_) (by simp at hl ⊢; omega)⟩
  rw [← hm]
  have h2 := List.nodup_append.1 hnd
  have h3 := (List.nodup_cons.1 h2.2.1).1
  simp only [List.mem_append, List.mem_cons]
  constructor
  · rintro (q | q)
    · exact ⟨Or.inl q, fun e' => h2.2.2 _ q _ (by rw [e']; exact List.mem_cons_self) rfl⟩
    · exact ⟨Or.inr (Or.inr q), fun e' => h3 (e' ▸ q)⟩
  · rintro ⟨q | q | q, hne⟩
    · exact Or.inl q
    · exact absurd q hne
    · exact Or.inr q

end Go.Proofs.YtcebfloeikjjcabGreat.Gr
