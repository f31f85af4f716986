/-
  Link of package tour: two trees become one.
-/
import Derived.Test.YtcebfloeikjjcabGreatTb
namespace Go.Proofs.YtcebfloeikjjcabGreat
open Go.RowKit Go.Deep Go.Shelf Go.Sort Go.Lib
open Go.RowKit (Below)
set_option linter.unusedVariables false

variable {w w' : World} {L : Pl} {p p' : Nat → Nat} {DW DW' DE DE' : DataW Unit} {E E' : List (Nat × Nat)}

theorem rises_mid : ∀ {E : List (Nat × Nat)} {e : Nat × Nat}, Rises E → e ∉ E → ∃ A B, E = A ++ B ∧ Rises (A ++ e :: B)
  | [], e, _, _ => ⟨[], [], rfl, by simp [Rises]⟩
  | x :: E, e, h, hn => by
    obtain ⟨h1, h2⟩ := List.pairwise_cons.1 h
    by_cases c : e.1 < x.1 ∨ e.1 = x.1 ∧ e.2 < x.2
    · refine ⟨[], x :: E, rfl, List.pairwise_cons.2 ⟨fun y hy => ?_, h⟩⟩
      rcases List.mem_cons.1 hy with rfl | hy
      · exact c
      · have := h1 y hy
        omega
    · obtain ⟨A, B, rfl, h3⟩ := rises_mid h2 (fun hm => hn (List.mem_cons_of_mem _ hm))
      refine ⟨x :: A, B, rfl, List.pairwise_cons.2 ⟨fun y hy => ?_, h3⟩⟩
      have hx : x.1 < e.1 ∨ x.1 = e.1 ∧ x.2 < e.2 := by
        have hne : e ≠ x := fun e1 => hn (e1 ▸ List.mem_cons_self ..)
        have : ¬ (e.1 = x.1 ∧ e.2 = x.2) := fun e1 => hne (Prod.ext e1.1 e1.2)
        omega
      rcases List.mem_append.1 hy with hy | hy
      · exact h1 y (List.mem_append_left _ hy)
      · rcases List.mem_cons.1 hy with rfl | hy
        · exact hx
        · exact h1 y (List.mem_append_right _ hy)

/-- An edge more between what was apart: the edges, and the nodes' least fellows. -/
theorem grown_more {n : Nat} (g : Grown n E p) {a b : Nat} (ha : a < n) (hb : b < n) (hne : p a ≠ p b) :
    ∃ A B p', E = A ++ B ∧ More E a b (A ++ (min a b, max a b) :: B) ∧ Grown n (A ++ (min a b, max a b) :: B) p' ∧ (min a b, max a b) ∉ E := by
  have hc : ¬ Conn E a b := fun hc => hne ((g.rest.same a b).2 hc)
  have hab : a ≠ b := fun e => hne (by rw [e])
  have hc' : ¬ Conn E (min a b) (max a b) := by
    rcases Nat.lt_or_ge a b with h | h
    · rw [Nat.min_eq_left (by omega), Nat.max_eq_right (by omega)]; exact hc
    · rw [Nat.min_eq_right h, Nat.max_eq_left h]; exact fun h1 => hc ((conn_eqv E).symm h1)
  have hn : (min a b, max a b) ∉ E := fun hm => hc' (conn_edge hm)
  obtain ⟨A, B, rfl, hr⟩ := rises_mid g.rises hn
  obtain ⟨p', hp'⟩ := rest_of (A ++ (min a b, max a b) :: B)
  refine ⟨A, B, p', rfl, ?_, ⟨fun e he => ?_, g.forest.put g.among (by omega) (by omega) hc', hp', fun e he => ?_, hr⟩, hn⟩
  · rcases Nat.lt_or_ge a b with h | h
    · rw [Nat.min_eq_left (by omega), Nat.max_eq_right (by omega)]; exact more_out hc
    · rw [Nat.min_eq_right h, Nat.max_eq_left h]; exact (more_out (fun h1 => hc ((conn_eqv _).symm h1))).symm
  · rcases List.mem_append.1 he with he | he
    · exact g.among e (List.mem_append_left _ he)
    · rcases List.mem_cons.1 he with rfl | he
      · exact ⟨by show min a b < n; omega, by show max a b < n; omega⟩
      · exact g.among e (List.mem_append_right _ he)
  · rcases List.mem_append.1 he with he | he
    · exact g.less e (List.mem_append_left _ he)
    · rcases List.mem_cons.1 he with rfl | he
      · show min a b < max a b; omega
      · exact g.less e (List.mem_append_right _ he)

theorem Mem.congr (h : Mem w L p DW DE E) (hp : ∀ i, i < L.n → p i = p' i) : Mem w L p' DW DE E :=
  ⟨h.st, h.home.congr fun i hi => by rw [hp i hi], h.ways, h.keys, h.edges, h.n1, h.n60, h.we⟩

/-- The forest behind a Link. -/
theorem link_end {a b b' : Nat} {T' : BT Int} {l' : List (Nat × Nat)} (hw : ∀ r, r < L.n → p r = r → ∃ b T l, WayAt w L E p DW r b T l) (m : Mem w L p DW DE E) (t : Turn L w w') (mo : More E a b E') (g : Grown L.n E p) (g' : Grown L.n E' p') (m' : Mem w' L p' DW' DE' E')
    (hother : ∀ r : Nat, r ≠ p a → r ≠ p b → ∀ z, DW'.atKey (.int .i64 (r : Int)) z = DW.atKey (.int .i64 (r : Int)) z) (hnew : WayAt w' L E' p' DW' (p' a) b' T' l') : FAt w' L E' p' := by
  refine ⟨g', DW', DE', m', fun r hr hp => ?_⟩
  by_cases e : r = p' a
  · rw [e]; exact ⟨b', T', l', hnew⟩
  · have h1 : p r ≠ p a := fun e1 => e (hp.symm.trans ((mo.joined g.rest g'.rest r).2 (Or.inl e1)))
    have h2 : p r ≠ p b := fun e1 => e (hp.symm.trans ((mo.joined g.rest g'.rest r).2 (Or.inr e1)))
    have h3 := mo.rest g.rest g'.rest h1 h2
    have h4 : p r = r := h3.symm.trans hp
    rw [h4] at h1 h2
    obtain ⟨b0, T0, l0, hW⟩ := hw r hr h4
    exact ⟨b0, T0, l0, fun z => (hother r h1 h2 z).trans (hW.at_ z), hW.row.turn m t, hW.bal, hW.items, (Way.other mo g.rest g'.rest h4 h1 h2).1 hW.way⟩

set_option maxHeartbeats 400000 in
theorem link_no (f : FAt w L E p) (a b : Int) (ha : ¬ ((0 ≤ a ∧ a < L.n) ∧ 0 ≤ b ∧ b < L.n)) :
    Calls Tryz.prog 13 #[.pointer (some ⟨L.g, 0, none⟩), .int .i64 a, .int .i64 b] w fun e w' => e = .returned (.iface 50 (.int .i64 1)) ∧ RowKit.Below w.heap.size w w' := by
  have hb : RowKit.Below w.heap.size w (w.alloc (.cells #[.int .i64 a, .int .i64 b] 3)) := (RowKit.Below.refl _ _).alloc (Nat.le_refl _) _
  obtain ⟨DW, DE, m, -⟩ := (f.below hb).mem
  have hh := has_any m rfl w.heap.size [a, b] (fun i x hx => by match i, hx with | 0, hx => cases hx; simp | 1, hx => cases hx; simp) (by simp) 2
  rw [two_in, decide_eq_false ha] at hh
  clear m
  go_enter Tryz.func13, Tryz.ntmps13
  go_wp2_with fail
  refine hh.mono ?_
  rintro e w1 ⟨rfl, rfl⟩
  go_wp2_with fail
  go_ret
  exact ⟨rfl, hb⟩

set_option maxHeartbeats 400000 in
theorem link_clash (f : FAt w L E p) (a b : Nat) (ha : a < L.n) (hb : b < L.n) (hp : p a = p b) :
    Calls Tryz.prog 13 #[.pointer (some ⟨L.g, 0, none⟩), .int .i64 (a : Int), .int .i64 (b : Int)] w fun e w' => e = .returned (.iface 50 (.int .i64 6)) ∧ RowKit.Below w.heap.size w w' := by
  have hb0 : RowKit.Below w.heap.size w (w.alloc (.cells #[.int .i64 (a : Int), .int .i64 (b : Int)] 3)) := (RowKit.Below.refl _ _).alloc (Nat.le_refl _) _
  obtain ⟨DW, DE, m, -⟩ := (f.below hb0).mem
  have hh := has_any m rfl w.heap.size [(a : Int), (b : Int)] (fun i x hx => by match i, hx with | 0, hx => cases hx; simp | 1, hx => cases hx; simp) (by simp) 2
  rw [two_in, decide_eq_true (by omega)] at hh
  have c0 := m.c0
  have h1 := m.at ha
  have h2 := m.at hb
  have i0 : (0 : Int) ≤ (a : Int) := by omega
  have i1 : (a : Int) < (L.n : Int) := by omega
  have i2 : (0 : Int) ≤ (b : Int) := by omega
  have i3 : (b : Int) < (L.n : Int) := by omega
  have hdr : RowKit.Below w.heap.size w (w.alloc (.cells #[.int .i64 (a : Int), .int .i64 (b : Int)] 3)).drew := hb0.drew
  have hq : (((p a : Nat) : Int) == ((p b : Nat) : Int)) = true := by rw [hp]; simp
  clear m hp
  go_enter Tryz.func13, Tryz.ntmps13
  go_wp2_with fail
  refine hh.mono ?_
  rintro e w1 ⟨rfl, rfl⟩
  go_wp2_with fail
  go_region
  go_wp2_with fail
  go_ret
  exact ⟨rfl, hdr⟩

end Go.Proofs.YtcebfloeikjjcabGreat
