/-
  PathGoes, out of what package path is to answer.
-/
import Derived.Test.YtinflbkmemjgbabDoorPk
namespace Go.Proofs.YtinflbkmemjgbabDoor.Pt
open Go.RowKit Go.Deep Go.Proofs.YtinflbkmemjgbabDoor.Br
open Go.RowKit (Below)
set_option linter.unusedVariables false

variable {w w' : World} {f : Nat → Int × Int} {E : List (Nat × Nat)} {a b c n : Nat}

theorem row_next {x y : Nat} (h : Next [(0, 1), (1, 2)] x y) : (x = 0 ∧ y = 1) ∨ (x = 1 ∧ y = 0) ∨ (x = 1 ∧ y = 2) ∨ (x = 2 ∧ y = 1) := by
  rcases h with h | h <;> simp at h <;> omega

theorem row_dist : Dist [(0, 1), (1, 2)] 2 0 2 := by
  refine ⟨.step (c := 1) (Or.inl (by simp)) (.step (c := 2) (Or.inl (by simp)) .here), fun j hj => ?_⟩
  match j, hj with
  | 0, hj => exact absurd hj.zero (by decide)
  | 1, hj =>
    obtain ⟨x, h1, h2⟩ := hj.parts
    have := h2.zero
    have := row_next h1
    omega
  | j + 2, _ => omega

theorem row_way {L : List Nat} (h : Way [(0, 1), (1, 2)] 2 0 2 L) (hl : L.length = 3) : L = [0, 1, 2] := by
  have h0 := h.first
  have h2 := h.last row_dist
  have h1 := row_next (h.next 0 (by omega))
  match L, hl with
  | [x, y, z], _ =>
    simp at h0 h1 h2
    subst h0 h2
    have : y = 1 := by omega
    subst this
    rfl

theorem three_at (w : World) : IntsAt (w.alloc (.cells #[.int .i64 0, .int .i64 1, .int .i64 2] 3)) (some ⟨w.heap.size, 0, none⟩) 3 [0, 1, 2] := ⟨rfl, fun i hi => by
  refine ⟨w.heap.size, 0, rfl, ?_⟩
  have : i = 0 ∨ i = 1 ∨ i = 2 := by omega
  rcases this with rfl | rfl | rfl <;> simp⟩

/-- How far, within bounds. -/
theorem Far.bound {x : Int} (hE : Among n E) (h : Far E b a x) (hb : b < n) : -1 ≤ x ∧ x < (n : Nat) := by
  rcases h with ⟨k, h1, rfl⟩ | ⟨_, rfl⟩
  · have := h1.lt hE hb; omega
  · omega

theorem Far.at {x : Int} {k : Nat} (h : Far E b a x) (hd : Dist E b a k) : x = (k : Nat) := h.one (Or.inl ⟨k, hd, rfl⟩)
theorem Far.not {x : Int} (h : Far E b a x) (hd : ∀ k, ¬ Walk E b a k) : x = -1 := h.one (Or.inr ⟨hd, rfl⟩)
theorem Far.pos {x : Int} (h : Far E b a x) (hx : 0 ≤ x) : ∃ k, Dist E b a k ∧ x = (k : Nat) := by
  rcases h with h | ⟨_, rfl⟩
  · exact h
  · omega

set_option maxRecDepth 100000 in
set_option maxHeartbeats 4000000 in
theorem goes_no (H : PathOk) (h0 : ErrType w) {ad : Option Addr} {m cc : Nat} (h : EgAt w ad m f) (hmc : m ≤ cc) (hcm : cc ≤ maxLen) (n a b c x : Int) (hF : FarNo n m f a x) :
    Calls Tryd.prog 7 #[.int .i64 n, .slice ad m cc, .int .i64 a, .int .i64 b, .int .i64 c] w fun e w' => e = .returned (.bool true) ∧ Below w.heap.size w w' := by
  have HF : Hid (FarNo n m f a x) := hF
  have HH : Hid (EgAt w ad m f) := h
  have HA : Hid PathOk := H
  have hbuild : ∀ (x y : Int) (W : World), (Instr.build 56 #[(0, .int .i64 x), (1, .int .i64 y)]).run Tryd.prog W = .ok (.agg #[.int .i64 x, .int .i64 y]) W := fun x y W => run_build W 56 _ _ (by kernel_rfl)
  have hr1 := H.short_ok (c := 2) (n := 3) (a := 0) (b := 2) (k := 2) (row_at w) (by decide) (by decide) row_valid (by decide) (by decide) (by rw [row_edges]; exact row_dist)
  rw [row_edges] at hr1
  have hbA : Below w.heap.size w (w.alloc (.cells #[.int .i64 0, .int .i64 1, .int .i64 1, .int .i64 2] 56)) := (Below.refl _ _).alloc (Nat.le_refl _) _
  clear h H hF
  go_enter Tryd.func7, Tryd.ntmps7
  go_wp2_with fail
  refine hr1.mono ?_
  rintro e w1 ⟨a1, c1, L1, rfl, hW1, hI1, -, -, hb1⟩
  obtain rfl := row_way hW1 hI1.len
  have hsm := ints_same (c := c1) (c' := 3) (hI1.below (below_box w1 (.cells #[.int .i64 0, .int .i64 1, .int .i64 2] 3))) (three_at w1) (by decide)
  have HB1 : Hid (Below w.heap.size w (w1.alloc (.cells #[.int .i64 0, .int .i64 1, .int .i64 2] 3))) := below_step (below_step hbA hb1) (below_box _ _)
  clear hr1 hW1 hI1 hb1 hbA hbuild
  go_wp2_with fail
  refine hsm.mono ?_
  rintro e w2 ⟨rfl, hb2⟩
  have HB2 : Hid (Below w.heap.size w w2) := below_step HB1.out hb2
  clear hsm hb2 HB1
  go_wp2_with fail
  refine (HA.out.far_no (c := cc) n a x (HH.out.below HB2.out) HF.out).mono ?_
  rintro e w3 ⟨a3, c3, rfl, hb3⟩
  have HB3 : Hid (Below w.heap.size w w3) := below_step HB2.out hb3
  clear hb3 HB2
  go_wp2_with fail
  go_ret
  exact ⟨rfl, HB3.out⟩

set_option maxRecDepth 100000 in
set_option maxHeartbeats 4000000 in
theorem goes_out (H : PathOk) (h0 : ErrType w) {ad : Option Addr} {m cc : Nat} (h : EgAt w ad m f) (hmc : m ≤ cc) (hcm : cc ≤ maxLen) (hv : Valid (n : Nat) m f) (ha : a < n) (b c : Int) (hb : ¬ Node (n : Nat) b) :
    Calls Tryd.prog 7 #[.int .i64 (n : Nat), .slice ad m cc, .int .i64 (a : Nat), .int .i64 b, .int .i64 c] w fun e w' => e = .returned (.bool true) ∧ Below w.heap.size w w' := by
  have hmay : ∀ j, j < m → May n f j := by simpa using hv.2.2
  have hm200 : m ≤ 200 := hv.2.1
  have hn60 : n ≤ 60 := by have := hv.1; omega
  have HV : Hid (Valid (n : Nat) m f) := hv
  obtain ⟨E, hE⟩ : ∃ E, edges f m = E := ⟨_, rfl⟩
  have HL : Hid (edges f m = E ∧ E.length = m ∧ Among n E ∧ ∀ e ∈ E, e.1 < e.2 ∧ e.2 < n) := by rw [← hE]; exact ⟨rfl, edges_len f m, edges_among hmay, may_lt hmay⟩
  have HEd : Hid (∀ W, Below w.heap.size w W → EdgesAt W ad E) := fun W hW => by rw [← hE]; exact (h.below hW).list hmay
  have HNb : Hid (¬ Node (n : Nat) b) := hb
  have HH : Hid (EgAt w ad m f) := h
  have HA : Hid PathOk := H
  have hbuild : ∀ (x y : Int) (W : World), (Instr.build 56 #[(0, .int .i64 x), (1, .int .i64 y)]).run Tryd.prog W = .ok (.agg #[.int .i64 x, .int .i64 y]) W := fun x y W => run_build W 56 _ _ (by kernel_rfl)
  have hr1 := H.short_ok (c := 2) (n := 3) (a := 0) (b := 2) (k := 2) (row_at w) (by decide) (by decide) row_valid (by decide) (by decide) (by rw [row_edges]; exact row_dist)
  rw [row_edges] at hr1
  have hbA : Below w.heap.size w (w.alloc (.cells #[.int .i64 0, .int .i64 1, .int .i64 1, .int .i64 2] 56)) := (Below.refl _ _).alloc (Nat.le_refl _) _
  clear h H hv hmay hE hb
  go_enter Tryd.func7, Tryd.ntmps7
  go_wp2_with fail
  refine hr1.mono ?_
  rintro e w1 ⟨a1, c1, L1, rfl, hW1, hI1, -, -, hb1⟩
  obtain rfl := row_way hW1 hI1.len
  have hsm := ints_same (c := c1) (c' := 3) (hI1.below (below_box w1 (.cells #[.int .i64 0, .int .i64 1, .int .i64 2] 3))) (three_at w1) (by decide)
  have HB1 : Hid (Below w.heap.size w (w1.alloc (.cells #[.int .i64 0, .int .i64 1, .int .i64 2] 3))) := below_step (below_step hbA hb1) (below_box _ _)
  clear hr1 hW1 hI1 hb1 hbA hbuild
  go_wp2_with fail
  refine hsm.mono ?_
  rintro e w2 ⟨rfl, hb2⟩
  have HB2 : Hid (Below w.heap.size w w2) := below_step HB1.out hb2
  clear hsm hb2 HB1
  go_wp2_with fail
  refine (HA.out.far_ok (HH.out.below HB2.out) hmc hcm HV.out ha).mono ?_
  rintro e w3 ⟨a3, c3, d, rfl, hN3, hF3, hb3⟩
  rw [HL.out.1] at hF3
  obtain ⟨bd, od, rfl, -⟩ := hN3 0 (by omega)
  have HB3 : Hid (Below w.heap.size w w3) := below_step HB2.out hb3
  have HF3 : Hid (∀ i, i < n → Far E a i (d i)) := hF3
  have HD : Hid (∀ W, Below w3.heap.size w3 W → ∀ i, i < n → W.cell? ⟨bd, od + i, none⟩ = some (.int .i64 (d i))) := fun W hW i hi => by
    obtain ⟨b', o', e, q⟩ := (NumsAt.below hN3 hW) i hi
    simp only [Option.some.injEq, Addr.mk.injEq, and_true] at e
    obtain ⟨rfl, rfl⟩ := e
    exact q
  clear hb3 HB2 hN3 hF3
  go_wp2_with fail
  go_loopw [16, 17, 18] (fun i _ _ wr => ∃ j : Nat, j ≤ m ∧ i = .int .i64 (j : Nat) ∧ Below w3.heap.size w3 wr) (fun i _ _ _ => m - (intOf i).toNat)
  case atStart => exact ⟨0, Nat.zero_le _, rfl, Below.refl _ _⟩
  case round =>
    obtain ⟨j, hj, rfl, hb⟩ := hrel
    have HB : Hid (Below w3.heap.size w3 wr) := hb
    by_cases hlt : j < m
    · obtain ⟨⟨u, v⟩, hEj⟩ : ∃ s, E[j]? = some s := ⟨E[j]'(by rw [HL.out.2.1]; exact hlt), List.getElem?_eq_getElem (by rw [HL.out.2.1]; exact hlt)⟩
      obtain ⟨b', o', rfl, c1, c2⟩ := (HEd.out _ (below_step HB3.out hb)).cell j (by rw [HL.out.2.1]; exact hlt)
      rw [List.getD_eq_getElem?_getD, hEj] at c1 c2
      replace c1 : wr.cell? ⟨b', o' + j * 2, none⟩ = some (.int .i64 (u : Nat)) := c1
      replace c2 : wr.cell? ⟨b', o' + j * 2 + 1, none⟩ = some (.int .i64 (v : Nat)) := c2
      have hmem : (u, v) ∈ E := List.mem_of_getElem? hEj
      have huv : u < v ∧ v < n := HL.out.2.2.2 _ hmem
      have d1 := HD.out wr hb u (by omega)
      have d2 := HD.out wr hb v (by omega)
      have hfe := far_edge (Or.inl hmem) (HF3.out u (by omega)) (HF3.out v (by omega))
      have b1 := (HF3.out u (by omega)).bound HL.out.2.2.1 ha
      have b2 := (HF3.out v (by omega)).bound HL.out.2.2.1 ha
      generalize d u = x at d1 hfe b1
      generalize d v = y at d2 hfe b2
      obtain ⟨g1, g2, g3⟩ := hfe
      have w1' : IntKind.i64.wrap (x - y) = x - y := by rw [IntKind.wrap_i64]; omega
      have w2' : IntKind.i64.wrap (y - x) = y - x := by rw [IntKind.wrap_i64]; omega
      have g2' : ¬ 1 < x - y := by omega
      have g3' : ¬ 1 < y - x := by omega
      have i0 : (0 : Int) ≤ (j : Int) := by omega
      have i1 : (j : Int) < (m : Int) := by omega
      have i2 : (0 : Int) ≤ (u : Int) := by omega
      have i3 : (u : Int) < (n : Int) := by omega
      have i4 : (0 : Int) ≤ (v : Int) := by omega
      have i5 : (v : Int) < (n : Int) := by omega
      clear hb hEj hmem huv g2 g3 b1 b2
      by_cases hx : x < 0
      · have hy := g1.1 hx
        clear g1
        go_wp2_with fail
        go_roundw
        case rel => exact ⟨j + 1, by omega, by go_num, HB.out⟩
        case measure => simp [intOf]; omega
      · have hy : ¬ y < 0 := fun q => hx (g1.2 q)
        clear g1
        go_wp2_with fail
        go_roundw
        case rel => exact ⟨j + 1, by omega, by go_num, HB.out⟩
        case measure => simp [intOf]; omega
    · obtain rfl : j = m := by omega
      have HB4 : Hid (Below w.heap.size w wr) := below_step HB3.out hb
      clear hb
      go_wp2_with fail
      refine (HA.out.short_no (c := cc) (n : Nat) (a : Nat) b 1 (HH.out.below HB4.out) (Or.inr (Or.inl ⟨HV.out, fun q => HNb.out q.2, rfl⟩))).mono ?_
      rintro e w5 ⟨a5, c5, rfl, hb5⟩
      have HB5 : Hid (Below w.heap.size w w5) := below_step HB4.out hb5
      clear hb5
      go_wp2_with fail
      refine (error_not (x := 1) (n := 4) (by decide) (h0.below HB5.out)).mono ?_
      rintro e w6 ⟨rfl, hb6⟩
      have HB6 : Hid (Below w.heap.size w w6) := below_step HB5.out hb6
      clear hb6
      go_wp2_with fail
      go_ret
      exact ⟨rfl, HB6.out⟩

set_option maxRecDepth 100000 in
set_option maxHeartbeats 4000000 in
theorem goes_none (H : PathOk) (h0 : ErrType w) {ad : Option Addr} {m cc : Nat} (h : EgAt w ad m f) (hmc : m ≤ cc) (hcm : cc ≤ maxLen) (hv : Valid (n : Nat) m f) (ha : a < n) (hbn : b < n) (c : Int) (hw : ∀ k, ¬ Walk (edges f m) b a k) :
    Calls Tryd.prog 7 #[.int .i64 (n : Nat), .slice ad m cc, .int .i64 (a : Nat), .int .i64 (b : Nat), .int .i64 c] w fun e w' => e = .returned (.bool true) ∧ Below w.heap.size w w' := by
  have hmay : ∀ j, j < m → May n f j := by simpa using hv.2.2
  have hm200 : m ≤ 200 := hv.2.1
  have hn60 : n ≤ 60 := by have := hv.1; omega
  have HV : Hid (Valid (n : Nat) m f) := hv
  obtain ⟨E, hE⟩ : ∃ E, edges f m = E := ⟨_, rfl⟩
  have HL : Hid (edges f m = E ∧ E.length = m ∧ Among n E ∧ ∀ e ∈ E, e.1 < e.2 ∧ e.2 < n) := by rw [← hE]; exact ⟨rfl, edges_len f m, edges_among hmay, may_lt hmay⟩
  have HEd : Hid (∀ W, Below w.heap.size w W → EdgesAt W ad E) := fun W hW => by rw [← hE]; exact (h.below hW).list hmay
  have HNw : Hid (∀ k, ¬ Walk E b a k) := by rw [← hE]; exact hw
  have HH : Hid (EgAt w ad m f) := h
  have HA : Hid PathOk := H
  have hbuild : ∀ (x y : Int) (W : World), (Instr.build 56 #[(0, .int .i64 x), (1, .int .i64 y)]).run Tryd.prog W = .ok (.agg #[.int .i64 x, .int .i64 y]) W := fun x y W => run_build W 56 _ _ (by kernel_rfl)
  have hr1 := H.short_ok (c := 2) (n := 3) (a := 0) (b := 2) (k := 2) (row_at w) (by decide) (by decide) row_valid (by decide) (by decide) (by rw [row_edges]; exact row_dist)
  rw [row_edges] at hr1
  have hbA : Below w.heap.size w (w.alloc (.cells #[.int .i64 0, .int .i64 1, .int .i64 1, .int .i64 2] 56)) := (Below.refl _ _).alloc (Nat.le_refl _) _
  clear h H hv hmay hE hw
  go_enter Tryd.func7, Tryd.ntmps7
  go_wp2_with fail
  refine hr1.mono ?_
  rintro e w1 ⟨a1, c1, L1, rfl, hW1, hI1, -, -, hb1⟩
  obtain rfl := row_way hW1 hI1.len
  have hsm := ints_same (c := c1) (c' := 3) (hI1.below (below_box w1 (.cells #[.int .i64 0, .int .i64 1, .int .i64 2] 3))) (three_at w1) (by decide)
  have HB1 : Hid (Below w.heap.size w (w1.alloc (.cells #[.int .i64 0, .int .i64 1, .int .i64 2] 3))) := below_step (below_step hbA hb1) (below_box _ _)
  clear hr1 hW1 hI1 hb1 hbA hbuild
  go_wp2_with fail
  refine hsm.mono ?_
  rintro e w2 ⟨rfl, hb2⟩
  have HB2 : Hid (Below w.heap.size w w2) := below_step HB1.out hb2
  clear hsm hb2 HB1
  go_wp2_with fail
  refine (HA.out.far_ok (HH.out.below HB2.out) hmc hcm HV.out ha).mono ?_
  rintro e w3 ⟨a3, c3, d, rfl, hN3, hF3, hb3⟩
  rw [HL.out.1] at hF3
  obtain ⟨bd, od, rfl, -⟩ := hN3 0 (by omega)
  have HB3 : Hid (Below w.heap.size w w3) := below_step HB2.out hb3
  have HF3 : Hid (∀ i, i < n → Far E a i (d i)) := hF3
  have HD : Hid (∀ W, Below w3.heap.size w3 W → ∀ i, i < n → W.cell? ⟨bd, od + i, none⟩ = some (.int .i64 (d i))) := fun W hW i hi => by
    obtain ⟨b', o', e, q⟩ := (NumsAt.below hN3 hW) i hi
    simp only [Option.some.injEq, Addr.mk.injEq, and_true] at e
    obtain ⟨rfl, rfl⟩ := e
    exact q
  clear hb3 HB2 hN3 hF3
  go_wp2_with fail
  go_loopw [16, 17, 18] (fun i _ _ wr => ∃ j : Nat, j ≤ m ∧ i = .int .i64 (j : Nat) ∧ Below w3.heap.size w3 wr) (fun i _ _ _ => m - (intOf i).toNat)
  case atStart => exact ⟨0, Nat.zero_le _, rfl, Below.refl _ _⟩
  case round =>
    obtain ⟨j, hj, rfl, hb⟩ := hrel
    have HB : Hid (Below w3.heap.size w3 wr) := hb
    by_cases hlt : j < m
    · obtain ⟨⟨u, v⟩, hEj⟩ : ∃ s, E[j]? = some s := ⟨E[j]'(by rw [HL.out.2.1]; exact hlt), List.getElem?_eq_getElem (by rw [HL.out.2.1]; exact hlt)⟩
      obtain ⟨b', o', rfl, c1, c2⟩ := (HEd.out _ (below_step HB3.out hb)).cell j (by rw [HL.out.2.1]; exact hlt)
      rw [List.getD_eq_getElem?_getD, hEj] at c1 c2
      replace c1 : wr.cell? ⟨b', o' + j * 2, none⟩ = some (.int .i64 (u : Nat)) := c1
      replace c2 : wr.cell? ⟨b', o' + j * 2 + 1, none⟩ = some (.int .i64 (v : Nat)) := c2
      have hmem : (u, v) ∈ E := List.mem_of_getElem? hEj
      have huv : u < v ∧ v < n := HL.out.2.2.2 _ hmem
      have d1 := HD.out wr hb u (by omega)
      have d2 := HD.out wr hb v (by omega)
      have hfe := far_edge (Or.inl hmem) (HF3.out u (by omega)) (HF3.out v (by omega))
      have b1 := (HF3.out u (by omega)).bound HL.out.2.2.1 ha
      have b2 := (HF3.out v (by omega)).bound HL.out.2.2.1 ha
      generalize d u = x at d1 hfe b1
      generalize d v = y at d2 hfe b2
      obtain ⟨g1, g2, g3⟩ := hfe
      have w1' : IntKind.i64.wrap (x - y) = x - y := by rw [IntKind.wrap_i64]; omega
      have w2' : IntKind.i64.wrap (y - x) = y - x := by rw [IntKind.wrap_i64]; omega
      have g2' : ¬ 1 < x - y := by omega
      have g3' : ¬ 1 < y - x := by omega
      have i0 : (0 : Int) ≤ (j : Int) := by omega
      have i1 : (j : Int) < (m : Int) := by omega
      have i2 : (0 : Int) ≤ (u : Int) := by omega
      have i3 : (u : Int) < (n : Int) := by omega
      have i4 : (0 : Int) ≤ (v : Int) := by omega
      have i5 : (v : Int) < (n : Int) := by omega
      clear hb hEj hmem huv g2 g3 b1 b2
      by_cases hx : x < 0
      · have hy := g1.1 hx
        clear g1
        go_wp2_with fail
        go_roundw
        case rel => exact ⟨j + 1, by omega, by go_num, HB.out⟩
        case measure => simp [intOf]; omega
      · have hy : ¬ y < 0 := fun q => hx (g1.2 q)
        clear g1
        go_wp2_with fail
        go_roundw
        case rel => exact ⟨j + 1, by omega, by go_num, HB.out⟩
        case measure => simp [intOf]; omega
    · obtain rfl : j = m := by omega
      have HB4 : Hid (Below w.heap.size w wr) := below_step HB3.out hb
      clear hb
      go_wp2_with fail
      refine (HA.out.short_no (c := cc) (n : Nat) (a : Nat) (b : Nat) 4 (HH.out.below HB4.out) (Or.inr (Or.inr ⟨HV.out, ⟨by omega, by omega⟩, ⟨by omega, by omega⟩, by rw [HL.out.1]; simpa using HNw.out, rfl⟩))).mono ?_
      rintro e w5 ⟨a5, c5, rfl, hb5⟩
      have HB5 : Hid (Below w.heap.size w w5) := below_step HB4.out hb5
      have HB5' : Hid (Below w3.heap.size w3 w5) := below_step HB.out hb5
      clear hb5
      go_wp2_with fail
      refine (error_any (n := 4) ⟨Or.inr rfl⟩ (h0.below HB5.out)).mono ?_
      rintro e w6 ⟨rfl, hb6⟩
      have HB6 : Hid (Below w.heap.size w w6) := below_step HB5.out hb6
      have db := HD.out w6 (below_step HB5'.out hb6) b hbn
      rw [(HF3.out b hbn).not fun k hk => HNw.out k hk.back] at db
      have i2 : (0 : Int) ≤ (b : Int) := by omega
      have i3 : (b : Int) < (n : Int) := by omega
      clear hb6
      go_wp2_with fail
      go_ret
      exact ⟨rfl, HB6.out⟩

set_option maxRecDepth 100000 in
set_option maxHeartbeats 4000000 in
theorem goes_ok (H : PathOk) (h0 : ErrType w) {ad : Option Addr} {m cc : Nat} (h : EgAt w ad m f) (hmc : m ≤ cc) (hcm : cc ≤ maxLen) (hv : Valid (n : Nat) m f) (ha : a < n) (hbn : b < n) (c : Int) {k : Nat} (hk : Dist (edges f m) b a k) :
    Calls Tryd.prog 7 #[.int .i64 (n : Nat), .slice ad m cc, .int .i64 (a : Nat), .int .i64 (b : Nat), .int .i64 c] w fun e w' => e = .returned (.bool true) ∧ Below w.heap.size w w' := by
  have hmay : ∀ j, j < m → May n f j := by simpa using hv.2.2
  have hm200 : m ≤ 200 := hv.2.1
  have hn60 : n ≤ 60 := by have := hv.1; omega
  have HV : Hid (Valid (n : Nat) m f) := hv
  obtain ⟨E, hE⟩ : ∃ E, edges f m = E := ⟨_, rfl⟩
  have HL : Hid (edges f m = E ∧ E.length = m ∧ Among n E ∧ ∀ e ∈ E, e.1 < e.2 ∧ e.2 < n) := by rw [← hE]; exact ⟨rfl, edges_len f m, edges_among hmay, may_lt hmay⟩
  have HEd : Hid (∀ W, Below w.heap.size w W → EdgesAt W ad E) := fun W hW => by rw [← hE]; exact (h.below hW).list hmay
  have HK : Hid (Dist E b a k) := by rw [← hE]; exact hk
  have HH : Hid (EgAt w ad m f) := h
  have HA : Hid PathOk := H
  have hbuild : ∀ (x y : Int) (W : World), (Instr.build 56 #[(0, .int .i64 x), (1, .int .i64 y)]).run Tryd.prog W = .ok (.agg #[.int .i64 x, .int .i64 y]) W := fun x y W => run_build W 56 _ _ (by kernel_rfl)
  have hr1 := H.short_ok (c := 2) (n := 3) (a := 0) (b := 2) (k := 2) (row_at w) (by decide) (by decide) row_valid (by decide) (by decide) (by rw [row_edges]; exact row_dist)
  rw [row_edges] at hr1
  have hbA : Below w.heap.size w (w.alloc (.cells #[.int .i64 0, .int .i64 1, .int .i64 1, .int .i64 2] 56)) := (Below.refl _ _).alloc (Nat.le_refl _) _
  clear h H hv hmay hE hk
  go_enter Tryd.func7, Tryd.ntmps7
  go_wp2_with fail
  refine hr1.mono ?_
  rintro e w1 ⟨a1, c1, L1, rfl, hW1, hI1, -, -, hb1⟩
  obtain rfl := row_way hW1 hI1.len
  have hsm := ints_same (c := c1) (c' := 3) (hI1.below (below_box w1 (.cells #[.int .i64 0, .int .i64 1, .int .i64 2] 3))) (three_at w1) (by decide)
  have HB1 : Hid (Below w.heap.size w (w1.alloc (.cells #[.int .i64 0, .int .i64 1, .int .i64 2] 3))) := below_step (below_step hbA hb1) (below_box _ _)
  clear hr1 hW1 hI1 hb1 hbA hbuild
  go_wp2_with fail
  refine hsm.mono ?_
  rintro e w2 ⟨rfl, hb2⟩
  have HB2 : Hid (Below w.heap.size w w2) := below_step HB1.out hb2
  clear hsm hb2 HB1
  go_wp2_with fail
  refine (HA.out.far_ok (HH.out.below HB2.out) hmc hcm HV.out ha).mono ?_
  rintro e w3 ⟨a3, c3, d, rfl, hN3, hF3, hb3⟩
  rw [HL.out.1] at hF3
  obtain ⟨bd, od, rfl, -⟩ := hN3 0 (by omega)
  have HB3 : Hid (Below w.heap.size w w3) := below_step HB2.out hb3
  have HF3 : Hid (∀ i, i < n → Far E a i (d i)) := hF3
  have HD : Hid (∀ W, Below w3.heap.size w3 W → ∀ i, i < n → W.cell? ⟨bd, od + i, none⟩ = some (.int .i64 (d i))) := fun W hW i hi => by
    obtain ⟨b', o', e, q⟩ := (NumsAt.below hN3 hW) i hi
    simp only [Option.some.injEq, Addr.mk.injEq, and_true] at e
    obtain ⟨rfl, rfl⟩ := e
    exact q
  clear hb3 HB2 hN3 hF3
  go_wp2_with fail
  go_loopw [16, 17, 18] (fun i _ _ wr => ∃ j : Nat, j ≤ m ∧ i = .int .i64 (j : Nat) ∧ Below w3.heap.size w3 wr) (fun i _ _ _ => m - (intOf i).toNat)
  case atStart => exact ⟨0, Nat.zero_le _, rfl, Below.refl _ _⟩
  case round =>
    obtain ⟨j, hj, rfl, hb⟩ := hrel
    have HB : Hid (Below w3.heap.size w3 wr) := hb
    by_cases hlt : j < m
    · obtain ⟨⟨u, v⟩, hEj⟩ : ∃ s, E[j]? = some s := ⟨E[j]'(by rw [HL.out.2.1]; exact hlt), List.getElem?_eq_getElem (by rw [HL.out.2.1]; exact hlt)⟩
      obtain ⟨b', o', rfl, c1, c2⟩ := (HEd.out _ (below_step HB3.out hb)).cell j (by rw [HL.out.2.1]; exact hlt)
      rw [List.getD_eq_getElem?_getD, hEj] at c1 c2
      replace c1 : wr.cell? ⟨b', o' + j * 2, none⟩ = some (.int .i64 (u : Nat)) := c1
      replace c2 : wr.cell? ⟨b', o' + j * 2 + 1, none⟩ = some (.int .i64 (v : Nat)) := c2
      have hmem : (u, v) ∈ E := List.mem_of_getElem? hEj
      have huv : u < v ∧ v < n := HL.out.2.2.2 _ hmem
      have d1 := HD.out wr hb u (by omega)
      have d2 := HD.out wr hb v (by omega)
      have hfe := far_edge (Or.inl hmem) (HF3.out u (by omega)) (HF3.out v (by omega))
      have b1 := (HF3.out u (by omega)).bound HL.out.2.2.1 ha
      have b2 := (HF3.out v (by omega)).bound HL.out.2.2.1 ha
      generalize d u = x at d1 hfe b1
      generalize d v = y at d2 hfe b2
      obtain ⟨g1, g2, g3⟩ := hfe
      have w1' : IntKind.i64.wrap (x - y) = x - y := by rw [IntKind.wrap_i64]; omega
      have w2' : IntKind.i64.wrap (y - x) = y - x := by rw [IntKind.wrap_i64]; omega
      have g2' : ¬ 1 < x - y := by omega
      have g3' : ¬ 1 < y - x := by omega
      have i0 : (0 : Int) ≤ (j : Int) := by omega
      have i1 : (j : Int) < (m : Int) := by omega
      have i2 : (0 : Int) ≤ (u : Int) := by omega
      have i3 : (u : Int) < (n : Int) := by omega
      have i4 : (0 : Int) ≤ (v : Int) := by omega
      have i5 : (v : Int) < (n : Int) := by omega
      clear hb hEj hmem huv g2 g3 b1 b2
      by_cases hx : x < 0
      · have hy := g1.1 hx
        clear g1
        go_wp2_with fail
        go_roundw
        case rel => exact ⟨j + 1, by omega, by go_num, HB.out⟩
        case measure => simp [intOf]; omega
      · have hy : ¬ y < 0 := fun q => hx (g1.2 q)
        clear g1
        go_wp2_with fail
        go_roundw
        case rel => exact ⟨j + 1, by omega, by go_num, HB.out⟩
        case measure => simp [intOf]; omega
    · obtain rfl : j = m := by omega
      have HB4 : Hid (Below w.heap.size w wr) := below_step HB3.out hb
      clear hb
      go_wp2_with fail
      refine (HA.out.short_ok (HH.out.below HB4.out) hmc hcm HV.out ha hbn (by rw [HL.out.1]; exact HK.out)).mono ?_
      rintro e w5 ⟨a5, c5, L, rfl, hW5, hI5, hc5, hc5m, hb5⟩
      rw [HL.out.1] at hW5
      obtain ⟨K1, hK1⟩ : ∃ K1, k + 1 = K1 := ⟨_, rfl⟩
      rw [hK1] at hI5 hc5 ⊢
      have HK1 : Hid (k + 1 = K1) := hK1
      have HB5 : Hid (Below w.heap.size w w5) := below_step HB4.out hb5
      have HB5' : Hid (Below w3.heap.size w3 w5) := below_step HB.out hb5
      obtain ⟨bw, ow, rfl, -⟩ := hI5.cell 0 (by omega)
      have HW : Hid (∀ W, Below w5.heap.size w5 W → ∀ i, i < K1 → W.cell? ⟨bw, ow + i, none⟩ = some (.int .i64 ((L.getD i 0 : Nat) : Int))) := fun W hW i hi => by
        obtain ⟨b', o', e, q⟩ := (hI5.below hW).cell i hi
        simp only [Option.some.injEq, Addr.mk.injEq, and_true] at e
        obtain ⟨rfl, rfl⟩ := e
        exact q
      have HWay : Hid (Way E b a k L ∧ L.length = K1) := ⟨hW5, hI5.len⟩
      have q0 := HW.out w5 (Below.refl _ _) 0 (by omega)
      rw [hW5.first, Nat.add_zero] at q0
      have q1 := HW.out w5 (Below.refl _ _) k (by omega)
      rw [hW5.last HK.out] at q1
      have db := HD.out w5 HB5'.out b hbn
      rw [(HF3.out b hbn).at HK.out.back] at db
      have hk60 : k < n := HK.out.lt HL.out.2.2.1 hbn
      have wk : IntKind.i64.wrap ((k : Nat) + 1 : Int) = (K1 : Int) := by rw [IntKind.wrap_i64]; omega
      have wk2 : IntKind.i64.wrap (k : Int) = (k : Int) := by rw [IntKind.wrap_i64]; omega
      have j0 : (0 : Int) < (K1 : Int) := by omega
      have j1 : (k : Int) < (K1 : Int) := by omega
      have j2 : (0 : Int) ≤ (k : Int) := by omega
      have j3 : (K1 : Int) - 1 = (k : Int) := by omega
      have j4 : ((K1 : Int) == 0) = false := by rw [beq_eq_false_iff_ne]; omega
      have j5 : (K1 == 0) = false := by rw [beq_eq_false_iff_ne]; omega
      have i2 : (0 : Int) ≤ (b : Int) := by omega
      have i3 : (b : Int) < (n : Int) := by omega
      have HC5 : Hid (K1 ≤ c5 ∧ c5 ≤ maxLen) := ⟨hc5, hc5m⟩
      have hKb : K1 ≤ 61 := by omega
      clear hb5 hW5 hI5 hc5 hc5m hK1
      go_wp2_with fail
      clear q0 q1 db wk wk2 j0 j1 j2 j3 j4 j5
      go_loopw [21] (fun i wx => ∃ q : Nat, 1 ≤ q ∧ q ≤ K1 ∧ i = .int .i64 (q : Nat) ∧ Below w5.heap.size w5 wx) (fun i _ => K1 - (intOf i).toNat)
      case atStart => exact ⟨1, Nat.le_refl _, by have := HK1.out; omega, rfl, Below.refl _ _⟩
      case round =>
        obtain ⟨q, hq1, hq, rfl, hbx⟩ := hrel
        have HBx : Hid (Below w5.heap.size w5 wr) := hbx
        by_cases hlq : q < K1
        · obtain ⟨t, ht⟩ : ∃ t, t + 1 = q := ⟨q - 1, by omega⟩
          obtain ⟨x, hx⟩ : ∃ x, L.getD t 0 = x := ⟨_, rfl⟩
          obtain ⟨y, hy⟩ : ∃ y, L.getD q 0 = y := ⟨_, rfl⟩
          have hK1 := HK1.out
          have hnx := HWay.out.1.next t (by omega)
          rw [ht, hx, hy] at hnx
          have hpl : ∀ W, Below wr.heap.size wr W → Calls Tryd.prog 28 #[.slice ad j cc, .int .i64 (x : Nat), .int .i64 (y : Nat)] W fun e w' => (∃ j : Nat, e = .returned (.int .i64 (j : Nat))) ∧ Below W.heap.size W w' := fun W hW => place_yes (HEd.out _ (below_step HB5.out (below_step hbx hW))) HL.out.2.1 (by omega) (fun e he => (HL.out.2.2.2 e he).1) hnx
          have hhas : ∀ W, Below wr.heap.size wr W → Calls Tryd.prog 31 #[.slice (some ⟨bw, ow, none⟩) q c5, .int .i64 (y : Nat)] W fun e w' => e = .returned (.bool false) ∧ Below W.heap.size W w' := fun W hW => has_no (g := fun i => ((L.getD i 0 : Nat) : Int)) (fun i hi => ⟨bw, ow, rfl, HW.out W (below_step hbx hW) i (by omega)⟩) _ (by omega) fun i hi z => by
            have z2 : ((L.getD i 0 : Nat) : Int) = ((y : Nat) : Int) := z
            exact HWay.out.1.once HK.out hi (by omega) (by rw [hy]; omega)
          have HPl : Hid (∀ W, Below wr.heap.size wr W → Calls Tryd.prog 28 #[.slice ad j cc, .int .i64 (x : Nat), .int .i64 (y : Nat)] W fun e w' => (∃ j : Nat, e = .returned (.int .i64 (j : Nat))) ∧ Below W.heap.size W w') := hpl
          have HHas : Hid (∀ W, Below wr.heap.size wr W → Calls Tryd.prog 31 #[.slice (some ⟨bw, ow, none⟩) q c5, .int .i64 (y : Nat)] W fun e w' => e = .returned (.bool false) ∧ Below W.heap.size W w') := hhas
          have k0 := HW.out wr hbx t (by omega)
          rw [hx] at k0
          have k1 := HW.out wr hbx q (by omega)
          rw [hy] at k1
          have l1 : (q : Int) - 1 = (t : Int) := by omega
          have l2 : IntKind.i64.wrap (t : Int) = (t : Int) := by rw [IntKind.wrap_i64]; omega
          have l3 : (0 : Int) ≤ (t : Int) := by omega
          have l4 : (t : Int) < (K1 : Int) := by omega
          have l5 : (0 : Int) ≤ (q : Int) := by omega
          have l6 : (q : Int) < (K1 : Int) := by omega
          have l7 : (q : Int) ≤ (c5 : Int) := by have := HC5.out.1; omega
          have HT : Hid (t + 1 = q) := ht
          clear hbx hx hy hnx hpl hhas ht hK1
          go_wp2_with fail
          go_region_held3 (fun V => V.cell? ⟨bw, ow + t, none⟩ = some (.int .i64 (x : Nat)) ∧ V.cell? ⟨bw, ow + q, none⟩ = some (.int .i64 (y : Nat))) (first | (go_keep; done) | exact ⟨k0, k1⟩ | exact ⟨cell_keep hbq' k0, cell_keep hbq' k1⟩ | exact ⟨cell_keep hbp' k0, cell_keep hbp' k1⟩)
            (first
              | (go_at_call 31; refine (HHas.out wp hbp').mono ?_; rintro e wq ⟨rfl, hbq⟩; have hbq' : Below wr.heap.size wr wq := below_step hbp' hbq)
              | (go_at_call 28; refine (HPl.out wr (Below.refl _ _)).mono ?_; rintro e wp ⟨⟨jj, rfl⟩, hbp⟩; have hbp' : Below wr.heap.size wr wp := hbp; have jj0 : ¬ (jj : Int) < 0 := (by omega); have jj1 : decide ((jj : Int) < 0) = false := (by simp))
              | (go_at_call 28; refine (HPl.out wr.drew (Below.refl _ _).drew).mono ?_; rintro e wp ⟨⟨jj, rfl⟩, hbp⟩; have hbp' : Below wr.heap.size wr wp := below_step (Below.refl _ _).drew hbp; have jj0 : ¬ (jj : Int) < 0 := (by omega); have jj1 : decide ((jj : Int) < 0) = false := (by simp)))
          have HRd : Hid (Below w5.heap.size w5 wq) := below_step HBx.out hbq'
          clear hbq hbq' hbp hbp' k0 k1
          go_wp2_with fail
          go_roundw
          case rel => exact ⟨q + 1, by omega, by omega, by go_num, HRd.out⟩
          case measure => simp [intOf]; omega
        · obtain rfl : q = K1 := by omega
          have HB6 : Hid (Below w.heap.size w wr) := below_step HB5.out hbx
          have HB6' : Hid (Below w3.heap.size w3 wr) := below_step HB5'.out hbx
          clear hbx
          go_wp2_with fail
          refine (HA.out.short_ok (HH.out.below HB6.out) hmc hcm HV.out hbn ha (by rw [HL.out.1]; exact HK.out.back)).mono ?_
          rintro e w7 ⟨a7, c7, L7, rfl, -, -, -, -, hb7⟩
          rw [HK1.out]
          have HB7 : Hid (Below w.heap.size w w7) := below_step HB6.out hb7
          have HB7' : Hid (Below w3.heap.size w3 w7) := below_step HB6'.out hb7
          clear hb7
          go_wp2_with fail
          refine (HA.out.far_ok (HH.out.below HB7.out) hmc hcm HV.out hbn).mono ?_
          rintro e w8 ⟨a8, c8, g, rfl, hN8, hF8, hb8⟩
          rw [HL.out.1] at hF8
          have HB8 : Hid (Below w.heap.size w w8) := below_step HB7.out hb8
          have HB8' : Hid (Below w3.heap.size w3 w8) := below_step HB7'.out hb8
          clear hb8
          by_cases hc0 : c < 0
          · go_wp2_with fail
            go_ret
            exact ⟨rfl, HB8.out⟩
          by_cases hcn : (n : Int) ≤ c
          · go_wp2_with fail
            go_ret
            exact ⟨rfl, HB8.out⟩
          obtain ⟨z, rfl⟩ := Int.eq_ofNat_of_zero_le (show 0 ≤ c by omega)
          have hzn : z < n := by omega
          have dz := HD.out w8 HB8'.out z hzn
          have hFz := HF3.out z hzn
          have z0 : (0 : Int) ≤ (z : Int) := by omega
          have z1 : (z : Int) < (n : Int) := by omega
          by_cases hdz : d z < 0
          · generalize d z = x at dz hdz
            clear hF8 hN8 hFz
            go_wp2_with fail
            go_ret
            exact ⟨rfl, HB8.out⟩
          · obtain ⟨p, hp, hpx⟩ := hFz.pos (by omega)
            rw [hpx] at dz hdz
            have db := HD.out w8 HB8'.out b hbn
            rw [(HF3.out b hbn).at HK.out.back] at db
            obtain ⟨r, hr⟩ : ∃ r, Dist E b z r := dist_some ((conn_eqv E).trans hp.1.conn ((conn_eqv E).symm HK.out.back.1.conn))
            have hgz := (hF8 z hzn).at hr
            obtain ⟨b8, o8, rfl, gz⟩ := hN8 z hzn
            rw [hgz] at gz
            have h3 := far_third hp HK.out.back hr
            have hpn : p < n := hp.lt HL.out.2.2.1 ha
            have hrn : r < n := hr.lt HL.out.2.2.1 hbn
            have wz : IntKind.i64.wrap ((k : Nat) + (r : Nat) : Int) = (k : Int) + (r : Int) := by rw [IntKind.wrap_i64]; omega
            have h3' : (p : Int) ≤ (k : Int) + (r : Int) := by omega
            have h4' : ¬ (p : Int) < 0 := by omega
            clear hF8 hN8 hFz hpx hp hr hgz hpn hrn hdz
            go_wp2_with fail
            go_quiet (fail)
            go_wp2_with fail
            go_ret
            exact ⟨rfl, below_step HB8.out (Br.below_drewN rfl)⟩

theorem path_goes (H : PathOk) (h0 : ErrType w) {ad : Option Addr} {m cc : Nat} (h : EgAt w ad m f) (hmc : m ≤ cc) (hcm : cc ≤ maxLen) (n a b c : Int) :
    Calls Tryd.prog 7 #[.int .i64 n, .slice ad m cc, .int .i64 a, .int .i64 b, .int .i64 c] w fun e w' => e = .returned (.bool true) ∧ Below w.heap.size w w' := by
  by_cases hv : Valid n m f
  · by_cases hna : Node n a
    · obtain ⟨nn, rfl⟩ := Int.eq_ofNat_of_zero_le (show 0 ≤ n by have := hv.1; omega)
      obtain ⟨aa, rfl⟩ := Int.eq_ofNat_of_zero_le hna.1
      have ha : aa < nn := by have := hna.2; omega
      by_cases hnb : Node (nn : Nat) b
      · obtain ⟨bb, rfl⟩ := Int.eq_ofNat_of_zero_le hnb.1
        have hb : bb < nn := by have := hnb.2; omega
        by_cases hc : Conn (edges f m) aa bb
        · obtain ⟨k, hk⟩ := dist_some hc
          exact goes_ok H h0 h hmc hcm hv ha hb c hk
        · exact goes_none H h0 h hmc hcm hv ha hb c fun k hk => hc hk.conn
      · exact goes_out H h0 h hmc hcm hv ha b c hnb
    · exact goes_no H h0 h hmc hcm n a b c 1 (Or.inr ⟨hv, hna, rfl⟩)
  · obtain ⟨k, x, h1, h2⟩ := (fault_or n m f).resolve_left hv
    exact goes_no H h0 h hmc hcm n a b c x (Or.inl ⟨k, h1, h2⟩)

end Go.Proofs.YtinflbkmemjgbabDoor.Pt
