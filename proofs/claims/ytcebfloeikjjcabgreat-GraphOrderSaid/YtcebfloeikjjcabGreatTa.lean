/-
  A forest: its edges, its nodes' least fellows, and of each tree a way around it, as they lie in memory.
-/
import Derived.Test.YtcebfloeikjjcabGreatTw4
namespace Go.Proofs.YtcebfloeikjjcabGreat
open Go.RowKit Go.Deep Go.Shelf Go.Sort Go.Lib
open Go.RowKit (Below)
set_option linter.unusedVariables false

variable {w w' : World} {L : Pl} {p : Nat → Nat} {DW DE : DataW Unit} {E : List (Nat × Nat)}

/-- The way around the tree of r lies in the map. -/
structure WayAt (w : World) (L : Pl) (E : List (Nat × Nat)) (p : Nat → Nat) (DW : DataW Unit) (r b : Nat) (T : BT Int) (l : List (Nat × Nat)) : Prop where
  at_ : ∀ z, DW.atKey (.int .i64 (r : Int)) z = .lit (.int .i64 (b : Int))
  row : RowAt w (some ⟨b, 0, none⟩) T
  bal : Bal T
  items : items T = l.map (code L.n)
  way : Way L.n E p r l

/-- Rising by the first, then the second. -/
def Rises (E : List (Nat × Nat)) : Prop := E.Pairwise fun x y => x.1 < y.1 ∨ x.1 = y.1 ∧ x.2 < y.2

/-- What holds of the edges and the nodes. -/
structure Grown (n : Nat) (E : List (Nat × Nat)) (p : Nat → Nat) : Prop where
  among : Among n E
  forest : Forest E
  rest : Rest E p
  less : ∀ e ∈ E, e.1 < e.2
  rises : Rises E

structure FAt (w : World) (L : Pl) (E : List (Nat × Nat)) (p : Nat → Nat) : Prop where
  grown : Grown L.n E p
  mem : ∃ DW DE, Mem w L p DW DE E ∧ ∀ r, r < L.n → p r = r → ∃ b T l, WayAt w L E p DW r b T l

theorem WayAt.turn {r b : Nat} {T : BT Int} {l : List (Nat × Nat)} (h : WayAt w L E p DW r b T l) (m : Mem w L p DW DE E) (t : Turn L w w') : WayAt w' L E p DW r b T l :=
  ⟨h.at_, h.row.turn m t, h.bal, h.items, h.way⟩

theorem FAt.below (h : FAt w L E p) (hb : RowKit.Below w.heap.size w w') : FAt w' L E p := by
  obtain ⟨DW, DE, m, hw⟩ := h.mem
  refine ⟨h.grown, DW, DE, m.below hb, fun r hr hp => ?_⟩
  obtain ⟨b, T, l, h1⟩ := hw r hr hp
  exact ⟨b, T, l, h1.turn m (Turn.of_below hb)⟩

theorem FAt.drew (h : FAt w L E p) : FAt w.drew L E p := h.below (RowKit.Below.refl _ _).drew

theorem Grown.lt {n : Nat} (h : Grown n E p) {a : Nat} (ha : a < n) : p a < n := Nat.lt_of_le_of_lt (h.rest.le a) ha

/-- How long a way is. -/
theorem WayAt.sz {r b : Nat} {T : BT Int} {l : List (Nat × Nat)} (h : WayAt w L E p DW r b T l) (g : Grown L.n E p) (hn : L.n ≤ 60) (hr : r < L.n) (hp : p r = r) : sz T + 2 = 3 * (nodesOf L.n p r).length ∧ sz T = l.length ∧ sz T ≤ 178 ∧ 0 < sz T := by
  have e1 : Go.Proofs.YtcebfloeikjjcabGreat.sz T = l.length := by rw [← items_len, h.items, List.length_map]
  have e2 := h.way.len g.among g.forest g.rest hr hp
  have e3 : (nodesOf L.n p r).length ≤ L.n := by
    have := (nodesOf_nodup L.n p r).length_le_of_subset (l₂ := List.range L.n) (fun x hx => List.mem_range.2 (mem_nodesOf.1 hx).1)
    simpa using this
  have e4 : 0 < (nodesOf L.n p r).length := List.length_pos_iff.2 (fun e => by
    have : r ∈ nodesOf L.n p r := mem_nodesOf.2 ⟨hr, hp⟩
    rw [e] at this
    cases this)
  omega

/-- The nodes on a way begin with its least. -/
theorem WayAt.ns {r b : Nat} {T : BT Int} {l : List (Nat × Nat)} (h : WayAt w L E p DW r b T l) (g : Grown L.n E p) :
    ((Go.Proofs.YtcebfloeikjjcabGreat.items T).filter fun z : Int => decide (z < (L.n : Nat))).mergeSort (fun x y => decide (x ≤ y)) = (nodesOf L.n p r).map Int.ofNat := by
  rw [h.items]; exact h.way.sorted g.among

theorem nodes_head {n : Nat} (h : Rest E p) {r : Nat} (hr : r < n) (hp : p r = r) : ∃ ns, nodesOf n p r = r :: ns := by
  have hm : r ∈ nodesOf n p r := mem_nodesOf.2 ⟨hr, hp⟩
  have hr2 := nodesOf_rising n p r
  cases hl : nodesOf n p r with
  | nil => rw [hl] at hm; cases hm
  | cons x ns =>
    rw [hl] at hm hr2
    rcases List.mem_cons.1 hm with e | hm
    · exact ⟨ns, by rw [← e]⟩
    · have h1 := (List.pairwise_cons.1 hr2).1 r hm
      have h2 : x ∈ nodesOf n p r := by rw [hl]; exact List.mem_cons_self ..
      have h3 := (mem_nodesOf.1 h2).2
      have h4 := h.le x
      omega

set_option maxHeartbeats 1000000 in
/-- The way around the tree of a, begun at a. -/
theorem from_any (f : FAt w L E p) (a : Nat) (ha : a < L.n) :
    Calls Tryz.prog 34 #[.pointer (some ⟨L.g, 0, none⟩), .int .i64 (a : Int)] w fun e w' => ∃ v T l, e = .returned (.pointer v) ∧ RowKit.Below w.heap.size w w' ∧ RowAt w' v T ∧ Bal T ∧ items T = l.map (code L.n) ∧ Way L.n E p (p a) l ∧ Goes a l a ∧ sz T ≤ 178 := by
  obtain ⟨DW, DE, m, hw⟩ := f.mem
  have hpn := f.grown.lt ha
  obtain ⟨b, T, l, hW⟩ := hw (p a) hpn (f.grown.rest.least a)
  obtain ⟨-, hsz, hs, hz⟩ := hW.sz f.grown m.n60 hpn (f.grown.rest.least a)
  have hin : (a, a) ∈ l := (hW.way.mem a a).2 ⟨Or.inl ⟨rfl, ha⟩, rfl⟩
  obtain ⟨P, Q, rfl⟩ := List.append_of_mem hin
  have hnd := hW.way.codes f.grown.among
  have hi : items T = P.map (code L.n) ++ (a : Int) :: Q.map (code L.n) := by rw [hW.items, List.map_append, List.map_cons, code_self]
  have hni : (a : Int) ∉ P.map (code L.n) := by
    rw [List.map_append, List.map_cons, code_self, List.nodup_append] at hnd
    intro hm
    exact hnd.2.2 _ hm _ (List.mem_cons_self ..) rfl
  have hlook := ways_look (w := w.drew) m.ways (p a) b (by have := m.n60; omega) hW.at_
  have c0 := m.c0
  have c1 := m.c1
  have hh := m.at ha
  have i0 : (0 : Int) ≤ (a : Int) := by omega
  have i1 : (a : Int) < (L.n : Int) := by omega
  have hrow := hW.row.drew
  have HP : Hid (items T = P.map (code L.n) ++ (a : Int) :: Q.map (code L.n)) := hi
  have HF : Hid (Way L.n E p (p a) ((a, a) :: Q ++ P) ∧ Goes a ((a, a) :: Q ++ P) a) := by
    have h1 : Way L.n E p (p a) ((a, a) :: Q ++ P) := hW.way.turn
    refine ⟨h1, ?_⟩
    obtain ⟨c, hc⟩ := h1.goes
    have : c = a := hc.1
    rw [this] at hc
    exact hc
  have hpl : P.length < sz T := by rw [hsz]; simp
  have HL : Hid (sz T = (P ++ (a, a) :: Q).length) := hsz
  have hbal := hW.bal
  have hni' : Hid ((a : Int) ∉ P.map (code L.n)) := hni
  have hpe : Hid ((P.map (code L.n)).length = P.length) := show _ = _ by simp
  clear hi hsz hnd hin hW hw hni
  go_enter Tryz.func34, Tryz.ntmps34
  go_wp2_with fail
  go_region
  go_wp2_with fail
  have hr0 : RowAt w.drew (some ⟨b, 0, none⟩) T := hrow
  have hb0 : RowKit.Below w.heap.size w w.drew := (RowKit.Below.refl _ _).drew
  generalize w.drew = w0 at *
  refine (place_any hr0 (by omega) _ _ _ HP.out hni'.out).mono ?_
  rw [hpe.out]
  rintro e w1 ⟨rfl, hb1⟩
  have hr1 := hr0.below hb1
  go_wp2_with fail
  refine (len_any hr1).mono ?_
  rintro e w2 ⟨rfl, rfl⟩
  go_wp2_with fail
  refine (piece_any hr1 hbal (by omega) P.length (sz T) (by omega) (Nat.le_refl _)).mono ?_
  rintro e w3 ⟨v1, T1, rfl, hb3, hr3, hB3, hi3⟩
  have HI3 : Hid (items T1 = _) := hi3
  clear hi3
  go_wp2_with fail
  refine (piece_any (hr1.below hb3) hbal (by omega) 0 P.length (by omega) (by omega)).mono ?_
  rintro e w4 ⟨v2, T2, rfl, hb4, hr4, hB4, hi4⟩
  have HI4 : Hid (items T2 = _) := hi4
  clear hi4
  go_wp2_with fail
  have hall : items T1 ++ items T2 = ((a, a) :: Q ++ P).map (code L.n) := by
    have hl1 : (items T).take (sz T) = items T := by rw [← items_len, List.take_length]
    rw [HI3.out, HI4.out, hl1, HP.out, List.drop_zero]
    rw [List.drop_left' hpe.out, List.take_left' hpe.out]
    simp [code_self]
  have HA : Hid (items T1 ++ items T2 = ((a, a) :: Q ++ P).map (code L.n)) := hall
  have hlen : (items T1 ++ items T2).length = sz T := by rw [hall, HL.out]; simp; omega
  have hb5 : RowKit.Below w4.heap.size w4 (w4.alloc (.cells #[.pointer v1, .pointer v2] 68)) := (RowKit.Below.refl _ _).alloc (Nat.le_refl _) _
  clear hall
  refine (joined_any w4.heap.size [(v1, T1), (v2, T2)] (fun i x hx => ?_) (fun x hx => ?_) (by simp only [List.flatMap_cons, List.flatMap_nil, List.append_nil]; rw [hlen]; omega) (by simp) 2).mono ?_
  · match i, hx with
    | 0, hx => cases hx; simp
    | 1, hx => cases hx; simp
  · simp only [List.mem_cons, List.not_mem_nil, or_false] at hx
    rcases hx with rfl | rfl
    · exact ⟨(hr3.below hb4).below hb5, hB3⟩
    · exact ⟨hr4.below hb5, hB4⟩
  rintro e w6 ⟨v, T', rfl, hb6, hr6, hB6, hi6⟩
  simp only [List.flatMap_cons, List.flatMap_nil, List.append_nil] at hi6
  have HI6 : Hid (items T' = items T1 ++ items T2) := hi6
  clear hi6
  go_wp2_with fail
  go_ret
  refine ⟨v, T', (a, a) :: Q ++ P, rfl, below_step (below_step (below_step (below_step (hb0.trans (hb1.mono hb0.size)) hb3) hb4) hb5) hb6, hr6, hB6, HI6.out.trans HA.out, HF.out.1, HF.out.2, ?_⟩
  rw [← items_len, HI6.out, hlen]
  exact hs

end Go.Proofs.YtcebfloeikjjcabGreat
