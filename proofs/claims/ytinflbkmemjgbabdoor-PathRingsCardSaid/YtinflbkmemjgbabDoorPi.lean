/-
  PathRings, whatever it is called with.
-/
import Derived.Test.YtinflbkmemjgbabDoorPh
namespace Go.Proofs.YtinflbkmemjgbabDoor.Pt
open Go.RowKit Go.Deep Go.Proofs.YtinflbkmemjgbabDoor.Br
open Go.RowKit (Below)
set_option linter.unusedVariables false

variable {w w' : World} {f : Nat → Int × Int} {E : List (Nat × Nat)}

set_option maxRecDepth 100000 in
set_option maxHeartbeats 2000000 in
theorem rings_no (H : RingOk) (h0 : ErrType w) {ad : Option Addr} {m c : Nat} (h : EgAt w ad m f) (n : Int) (hv : ¬ Valid n m f) :
    Calls Tryd.prog 8 #[.int .i64 n, .slice ad m c] w fun e w' => e = .returned (.bool true) ∧ Below w.heap.size w w' := by
  have HV : Hid (¬ Valid n m f) := hv
  have HH : Hid (EgAt w ad m f) := h
  have HA : Hid RingOk := H
  have hbuild : ∀ (x y : Int) (W : World), (Instr.build 56 #[(0, .int .i64 x), (1, .int .i64 y)]).run Tryd.prog W = .ok (.agg #[.int .i64 x, .int .i64 y]) W := fun x y W => run_build W 56 _ _ (by kernel_rfl)
  have hr1 := H.ring_some (c := 3) (n := 3) (tri_at w) (by decide) (by decide) tri_valid tri_not
  have hbA : Below w.heap.size w (w.alloc (.cells #[.int .i64 0, .int .i64 1, .int .i64 0, .int .i64 2, .int .i64 1, .int .i64 2] 56)) := (Below.refl _ _).alloc (Nat.le_refl _) _
  clear h H hv
  go_enter Tryd.func8, Tryd.ntmps8
  go_wp2_with fail
  refine hr1.mono ?_
  rintro e w1 ⟨a1, c1, N1, r1, rfl, hR1, -, -, -, hb1⟩
  obtain rfl := tri_three hR1
  have HB1 : Hid (Below w.heap.size w w1) := below_step hbA hb1
  clear hr1 hR1 hb1 hbA
  go_wp2_with fail
  refine (HA.out.ring_no n (HH.out.below HB1.out) HV.out).mono ?_
  rintro e w2 ⟨v2, t2, y2, rfl, hb2⟩
  have HB2 : Hid (Below w.heap.size w w2) := below_step HB1.out hb2
  clear hb2 HB1
  go_wp2_with fail
  refine (HA.out.bridges_no n (HH.out.below HB2.out) HV.out).mono ?_
  rintro e w3 ⟨v3, t3, y3, rfl, hb3⟩
  have HB3 : Hid (Below w.heap.size w w3) := below_step HB2.out hb3
  clear hb3 HB2
  go_wp2_with fail
  go_ret
  exact ⟨rfl, HB3.out⟩

set_option maxRecDepth 100000 in
set_option maxHeartbeats 2000000 in
theorem rings_none (H : RingOk) (h0 : ErrType w) {ad : Option Addr} {m c : Nat} (h : EgAt w ad m f) (hmc : m ≤ c) (hcm : c ≤ maxLen) (n : Nat) (hv : Valid (n : Nat) m f) (hall : ∀ e ∈ edges f m, Bridge (edges f m) e) :
    Calls Tryd.prog 8 #[.int .i64 (n : Nat), .slice ad m c] w fun e w' => e = .returned (.bool true) ∧ Below w.heap.size w w' := by
  have HV : Hid (Valid (n : Nat) m f) := hv
  have HAll : Hid (∀ e ∈ edges f m, Bridge (edges f m) e) := hall
  have HH : Hid (EgAt w ad m f) := h
  have HA : Hid RingOk := H
  have hbuild : ∀ (x y : Int) (W : World), (Instr.build 56 #[(0, .int .i64 x), (1, .int .i64 y)]).run Tryd.prog W = .ok (.agg #[.int .i64 x, .int .i64 y]) W := fun x y W => run_build W 56 _ _ (by kernel_rfl)
  have hr1 := H.ring_some (c := 3) (n := 3) (tri_at w) (by decide) (by decide) tri_valid tri_not
  have hbA : Below w.heap.size w (w.alloc (.cells #[.int .i64 0, .int .i64 1, .int .i64 0, .int .i64 2, .int .i64 1, .int .i64 2] 56)) := (Below.refl _ _).alloc (Nat.le_refl _) _
  clear h H hv hall
  go_enter Tryd.func8, Tryd.ntmps8
  go_wp2_with fail
  refine hr1.mono ?_
  rintro e w1 ⟨a1, c1, N1, r1, rfl, hR1, -, -, -, hb1⟩
  obtain rfl := tri_three hR1
  have HB1 : Hid (Below w.heap.size w w1) := below_step hbA hb1
  clear hr1 hR1 hb1 hbA
  go_wp2_with fail
  refine (HA.out.ring_none (HH.out.below HB1.out) hmc hcm HV.out HAll.out).mono ?_
  rintro e w2 ⟨v2, rfl, hb2⟩
  have HB2 : Hid (Below w.heap.size w w2) := below_step HB1.out hb2
  clear hb2 HB1
  go_wp2_with fail
  refine (HA.out.bridges_ok (HH.out.below HB2.out) hmc hcm HV.out).mono ?_
  rintro e w3 ⟨a3, c3, N3, L3, rfl, hL3, hN3, -, hb3⟩
  obtain rfl : N3 = m := by rw [← hN3, (brs_all hL3).2 HAll.out, edges_len]
  have HB3 : Hid (Below w.heap.size w w3) := below_step HB2.out hb3
  clear hb3 HB2 hL3 hN3
  go_wp2_with fail
  refine (error_any (n := 4) ⟨Or.inr rfl⟩ (h0.below HB3.out)).mono ?_
  rintro e w4 ⟨rfl, hb4⟩
  have HB4 : Hid (Below w.heap.size w w4) := below_step HB3.out hb4
  clear hb4 HB3
  go_wp2_with fail
  go_ret
  exact ⟨rfl, HB4.out⟩

set_option maxRecDepth 100000 in
set_option maxHeartbeats 2000000 in
theorem rings_some (H : RingOk) (h0 : ErrType w) {ad : Option Addr} {m c : Nat} (h : EgAt w ad m f) (hmc : m ≤ c) (hcm : c ≤ maxLen) (n : Nat) (hv : Valid (n : Nat) m f) (hall : ¬ ∀ e ∈ edges f m, Bridge (edges f m) e) :
    Calls Tryd.prog 8 #[.int .i64 (n : Nat), .slice ad m c] w fun e w' => e = .returned (.bool true) ∧ Below w.heap.size w w' := by
  have HV : Hid (Valid (n : Nat) m f) := hv
  have HAll : Hid (¬ ∀ e ∈ edges f m, Bridge (edges f m) e) := hall
  have hmay : ∀ j, j < m → May n f j := by simpa using hv.2.2
  have hm200 : m ≤ 200 := hv.2.1
  have hn60 : n ≤ 60 := by have := hv.1; omega
  have HL : Hid ((edges f m).length = m ∧ Among n (edges f m) ∧ (∀ e ∈ edges f m, e.1 < e.2) ∧ (edges f m).Nodup) := ⟨edges_len f m, edges_among hmay, fun e he => by
    obtain ⟨i, hi, rfl⟩ := List.mem_map.1 he
    have := (hmay i (List.mem_range.1 hi)).1
    unfold Sane at this
    show (f i).1.toNat < (f i).2.toNat
    omega, (edges_up hmay).nodup⟩
  have HEd : Hid (∀ W, Below w.heap.size w W → EdgesAt W ad (edges f m)) := fun W hW => (h.below hW).list hmay
  have HH : Hid (EgAt w ad m f) := h
  have HA : Hid RingOk := H
  have hbuild : ∀ (x y : Int) (W : World), (Instr.build 56 #[(0, .int .i64 x), (1, .int .i64 y)]).run Tryd.prog W = .ok (.agg #[.int .i64 x, .int .i64 y]) W := fun x y W => run_build W 56 _ _ (by kernel_rfl)
  have hr1 := H.ring_some (c := 3) (n := 3) (tri_at w) (by decide) (by decide) tri_valid tri_not
  have hbA : Below w.heap.size w (w.alloc (.cells #[.int .i64 0, .int .i64 1, .int .i64 0, .int .i64 2, .int .i64 1, .int .i64 2] 56)) := (Below.refl _ _).alloc (Nat.le_refl _) _
  clear h H hv hall hmay
  go_enter Tryd.func8, Tryd.ntmps8
  go_wp2_with fail
  refine hr1.mono ?_
  rintro e w1 ⟨a1, c1, N1, r1, rfl, hR1, -, -, -, hb1⟩
  obtain rfl := tri_three hR1
  have HB1 : Hid (Below w.heap.size w w1) := below_step hbA hb1
  clear hr1 hR1 hb1 hbA
  go_wp2_with fail
  refine (HA.out.ring_some (HH.out.below HB1.out) hmc hcm HV.out HAll.out).mono ?_
  rintro e w2 ⟨a2, c2, N, r, rfl, hR, hN2, hc2, hc2m, hb2⟩
  have h3 : 3 ≤ N := hR.three
  have hNn : N ≤ n := hR.le HL.out.2.1
  have HR : Hid (Ring (edges f m) N r) := hR
  have HN2 : Hid (NumsAt w2 a2 N (fun i => ((r i : Nat) : Int))) := hN2
  have HB2 : Hid (Below w.heap.size w w2) := below_step HB1.out hb2
  clear hb2 HB1 hR hN2
  go_wp2_with fail
  refine (HA.out.bridges_ok (HH.out.below HB2.out) hmc hcm HV.out).mono ?_
  rintro e w3 ⟨a3, c3, M, L3, rfl, hL3, hM, hE3, hb3⟩
  have hMm : M ≠ m := fun q => HAll.out ((brs_all hL3).1 (by rw [hM, q, edges_len]))
  have hMle : M ≤ m := by
    obtain ⟨t, -, hL⟩ := hL3
    have q := List.length_filter_le t (edges f m)
    rw [edges_len, ← hL, hM] at q
    exact q
  have HB3 : Hid (Below w.heap.size w w3) := below_step HB2.out hb3
  have HN3 : Hid (NumsAt w3 a2 N (fun i => ((r i : Nat) : Int))) := HN2.out.below hb3
  have HL3 : Hid (Brs (edges f m) L3 ∧ L3.length = M ∧ EdgesAt w3 a3 L3) := ⟨hL3, hM, hE3⟩
  obtain ⟨b2, o2, rfl, -⟩ := HN3.out 0 (by omega)
  have tM : (M == m) = false := by rw [beq_eq_false_iff_ne]; exact hMm
  have tMi : ((M : Int) == (m : Int)) = false := by rw [beq_eq_false_iff_ne]; omega
  have tN : ¬ (N : Int) < 3 := by omega
  have HC : Hid (∀ W, Below w3.heap.size w3 W → ∀ i, i < N → W.cell? ⟨b2, o2 + i, none⟩ = some (.int .i64 ((r i : Nat) : Int))) := fun W hW i hi => by
    obtain ⟨b', o', e, q⟩ := (HN3.out.below hW) i hi
    simp only [Option.some.injEq, Addr.mk.injEq, and_true] at e
    obtain ⟨rfl, rfl⟩ := e
    exact q
  clear hb3 HB2 hL3 hM hE3 HN2 hMm
  go_wp2_with fail
  clear tM tMi tN
  go_loopw [12, 13] (fun i _ wr => ∃ j : Nat, j ≤ N ∧ i = .int .i64 (j : Nat) ∧ Below w3.heap.size w3 wr) (fun i _ _ => N - (intOf i).toNat)
  case atStart => exact ⟨0, Nat.zero_le _, rfl, Below.refl _ _⟩
  case round =>
    obtain ⟨i, hi, rfl, hb⟩ := hrel
    have HB : Hid (Below w3.heap.size w3 wr) := hb
    by_cases hlt : i < N
    · obtain ⟨s, hs⟩ : ∃ s, (i + 1) % N = s := ⟨_, rfl⟩
      have hsN : s < N := by rw [← hs]; exact Nat.mod_lt _ (by omega)
      have hnx := HR.out.next i hlt
      have hbr := HR.out.bridge HL.out.2.2.1 HL.out.2.2.2 hlt
      rw [hs] at hnx hbr
      obtain ⟨x, hx⟩ : ∃ x, r i = x := ⟨_, rfl⟩
      obtain ⟨y, hy⟩ : ∃ y, r s = y := ⟨_, rfl⟩
      rw [hx, hy] at hnx hbr
      have hpl1 : ∀ W, Below wr.heap.size wr W → Calls Tryd.prog 28 #[.slice ad m c, .int .i64 (x : Nat), .int .i64 (y : Nat)] W fun e w' => (∃ j : Nat, e = .returned (.int .i64 (j : Nat))) ∧ Below W.heap.size W w' := fun W hW => place_yes (HEd.out _ (below_step HB3.out (below_step HB.out hW))) HL.out.1 (by omega) HL.out.2.2.1 hnx
      have hl3 : ∀ e ∈ L3, e.1 < e.2 := fun e he => by
        obtain ⟨t, -, hL⟩ := HL3.out.1
        rw [hL] at he
        exact HL.out.2.2.1 e (List.mem_filter.1 he).1
      have hno3 : ¬ Next L3 x y := fun q => by
        have q1 := next_edge hl3 q
        obtain ⟨t, ht, hL⟩ := HL3.out.1
        rw [hL] at q1
        exact hbr ((ht _ (List.mem_filter.1 q1).1).1 (List.mem_filter.1 q1).2)
      have hpl2 : ∀ W, Below wr.heap.size wr W → Calls Tryd.prog 28 #[.slice a3 M c3, .int .i64 (x : Nat), .int .i64 (y : Nat)] W fun e w' => e = .returned (.int .i64 (-1)) ∧ Below W.heap.size W w' := fun W hW => place_not (HL3.out.2.2.below (below_step HB.out hW)) HL3.out.2.1 (by omega) hl3 hno3
      have hhas : ∀ W, Below wr.heap.size wr W → Calls Tryd.prog 31 #[.slice (some ⟨b2, o2, none⟩) i c2, .int .i64 (x : Nat)] W fun e w' => e = .returned (.bool false) ∧ Below W.heap.size W w' := fun W hW => has_no (g := fun j => ((r j : Nat) : Int)) (fun j hj => ⟨b2, o2, rfl, HC.out W (below_step HB.out hW) j (by omega)⟩) (x : Nat) (by omega) (fun j hj q => by
        have q2 : ((r j : Nat) : Int) = ((x : Nat) : Int) := q
        have q1 : r j = r i := by rw [hx]; omega
        have := HR.out.inj j i (by omega) hlt q1
        omega)
      have kx : ∀ W, Below wr.heap.size wr W → W.cell? ⟨b2, o2 + i, none⟩ = some (.int .i64 (x : Nat)) := fun W hW => by
        have := HC.out W (below_step HB.out hW) i hlt
        rw [hx] at this
        exact this
      have HKeep : Hid (∀ W, Below wr.heap.size wr W → W.cell? ⟨b2, o2 + i, none⟩ = some (.int .i64 (x : Nat))) := kx
      have k0 := kx wr (Below.refl _ _)
      have c0 : wr.cell? ⟨b2, o2, none⟩ = some (.int .i64 ((r 0 : Nat) : Int)) := HC.out wr HB.out 0 (by omega)
      have i0 : (0 : Int) ≤ (i : Int) := by omega
      have i1 : (i : Int) < (N : Int) := by omega
      have i2 : (i : Int) ≤ (c2 : Int) := by omega
      have i3 : (0 : Int) < (N : Int) := by omega
      clear hb kx hnx hbr hno3 hl3
      by_cases hl : i + 1 < N
      · have hs1 : s = i + 1 := by rw [← hs]; exact Nat.mod_eq_of_lt hl
        have c1 := HC.out wr HB.out (i + 1) hl
        rw [← hs1, hy] at c1
        rw [hs1] at c1
        have l1 : (i : Int) + 1 < (N : Int) := by omega
        have l2 : (0 : Int) ≤ (i : Int) + 1 := by omega
        have l3 : ((i : Int) + 1).toNat = i + 1 := by omega
        clear hs1 hs hsN hx hy
        go_wp2_with fail
        go_region_held3 (fun V => V.cell? ⟨b2, o2 + i, none⟩ = some (.int .i64 (x : Nat))) (first | (go_keep; done) | exact k0 | exact HKeep.out _ hbs' | exact HKeep.out _ hbq' | exact HKeep.out _ hbp')
          (first
            | (go_at_call 31; refine (hhas wp hbp').mono ?_; rintro e wq ⟨rfl, hbq⟩; have hbq' : Below wr.heap.size wr wq := below_step hbp' hbq)
            | (go_at_call 28; refine (hpl2 wq hbq').mono ?_; rintro e ws ⟨rfl, hbs⟩; have hbs' : Below wr.heap.size wr ws := below_step hbq' hbs)
            | (go_at_call 28; refine (hpl1 wr (Below.refl _ _)).mono ?_; rintro e wp ⟨⟨jj, rfl⟩, hbp⟩; have hbp' : Below wr.heap.size wr wp := hbp; have jj0 : ¬ (jj : Int) < 0 := (by omega); have jj1 : decide ((jj : Int) < 0) = false := (by simp))
            | (go_at_call 28; refine (hpl1 wr.drew (Below.refl _ _).drew).mono ?_; rintro e wp ⟨⟨jj, rfl⟩, hbp⟩; have hbp' : Below wr.heap.size wr wp := below_step (Below.refl _ _).drew hbp; have jj0 : ¬ (jj : Int) < 0 := (by omega); have jj1 : decide ((jj : Int) < 0) = false := (by simp)))
        have HRd : Hid (Below w3.heap.size w3 ws) := below_step HB.out hbs'
        clear hbs hbs' hbq hbq' hbp hbp' hpl1 hpl2 hhas
        go_wp2_with fail
        go_roundw
        case rel => exact ⟨i + 1, by omega, by go_num, HRd.out⟩
        case measure => simp [intOf]; omega
      · have hs1 : s = 0 := by rw [← hs, show i + 1 = N by omega, Nat.mod_self]
        rw [hs1] at hy
        rw [hy] at c0
        have l1 : ¬ (i : Int) + 1 < (N : Int) := by omega
        clear hs1 hs hsN hx hy
        go_wp2_with fail
        go_region_held3 (fun V => V.cell? ⟨b2, o2 + i, none⟩ = some (.int .i64 (x : Nat))) (first | (go_keep; done) | exact k0 | exact HKeep.out _ hbs' | exact HKeep.out _ hbq' | exact HKeep.out _ hbp')
          (first
            | (go_at_call 31; refine (hhas wp hbp').mono ?_; rintro e wq ⟨rfl, hbq⟩; have hbq' : Below wr.heap.size wr wq := below_step hbp' hbq)
            | (go_at_call 28; refine (hpl2 wq hbq').mono ?_; rintro e ws ⟨rfl, hbs⟩; have hbs' : Below wr.heap.size wr ws := below_step hbq' hbs)
            | (go_at_call 28; refine (hpl1 wr (Below.refl _ _)).mono ?_; rintro e wp ⟨⟨jj, rfl⟩, hbp⟩; have hbp' : Below wr.heap.size wr wp := hbp; have jj0 : ¬ (jj : Int) < 0 := (by omega); have jj1 : decide ((jj : Int) < 0) = false := (by simp))
            | (go_at_call 28; refine (hpl1 wr.drew (Below.refl _ _).drew).mono ?_; rintro e wp ⟨⟨jj, rfl⟩, hbp⟩; have hbp' : Below wr.heap.size wr wp := below_step (Below.refl _ _).drew hbp; have jj0 : ¬ (jj : Int) < 0 := (by omega); have jj1 : decide ((jj : Int) < 0) = false := (by simp)))
        have HRd : Hid (Below w3.heap.size w3 ws) := below_step HB.out hbs'
        clear hbs hbs' hbq hbq' hbp hbp' hpl1 hpl2 hhas
        go_wp2_with fail
        go_roundw
        case rel => exact ⟨i + 1, by omega, by go_num, HRd.out⟩
        case measure => simp [intOf]; omega
    · obtain rfl : i = N := by omega
      have HF : Hid (Below w.heap.size w wr) := below_step HB3.out HB.out
      clear hb
      go_wp2_with fail
      go_ret
      exact ⟨rfl, HF.out⟩

theorem path_rings (H : RingOk) (h0 : ErrType w) {ad : Option Addr} {m c : Nat} (h : EgAt w ad m f) (hmc : m ≤ c) (hcm : c ≤ maxLen) (n : Int) :
    Calls Tryd.prog 8 #[.int .i64 n, .slice ad m c] w fun e w' => e = .returned (.bool true) ∧ Below w.heap.size w w' := by
  by_cases hv : Valid n m f
  · obtain ⟨nn, rfl⟩ := Int.eq_ofNat_of_zero_le (show 0 ≤ n by have := hv.1; omega)
    rcases Classical.em (∀ e ∈ edges f m, Bridge (edges f m) e) with q | q
    · exact rings_none H h0 h hmc hcm nn hv q
    · exact rings_some H h0 h hmc hcm nn hv q
  · exact rings_no H h0 h n hv

end Go.Proofs.YtinflbkmemjgbabDoor.Pt
