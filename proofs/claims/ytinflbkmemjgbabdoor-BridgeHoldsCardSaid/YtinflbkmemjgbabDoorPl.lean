/-
  BridgeHolds, out of what package path is to answer.
-/
import Derived.Test.YtinflbkmemjgbabDoorPk
namespace Go.Proofs.YtinflbkmemjgbabDoor.Pt
open Go.RowKit Go.Deep Go.Proofs.YtinflbkmemjgbabDoor.Br
open Go.RowKit (Below)
set_option linter.unusedVariables false

variable {w w' : World} {f : Nat → Int × Int}

set_option maxRecDepth 100000 in
set_option maxHeartbeats 2000000 in
theorem holds_no (h0 : ErrType w) {ad : Option Addr} {m c : Nat} (h : EgAt w ad m f) (n : Int) (hv : ¬ Valid n m f) :
    Calls Tryd.prog 5 #[.int .i64 n, .slice ad m c] w fun e w' => e = .returned (.bool true) ∧ Below w.heap.size w w' := by
  obtain ⟨k, x, hF, hx⟩ := (fault_or n m f).resolve_left hv
  have HF : Hid (EFault n m f k x ∧ x ≠ 0) := ⟨hF, hx⟩
  have HH : Hid (EgAt w ad m f) := h
  have hbuild : ∀ (x y : Int) (W : World), (Instr.build 56 #[(0, .int .i64 x), (1, .int .i64 y)]).run Tryd.prog W = .ok (.agg #[.int .i64 x, .int .i64 y]) W := fun x y W => run_build W 56 _ _ (by kernel_rfl)
  have hr1 := bridges_ok (c := 2) (n := 3) (row_at w) row_valid
  rw [row_edges] at hr1
  have hbA : Below w.heap.size w (w.alloc (.cells #[.int .i64 0, .int .i64 1, .int .i64 1, .int .i64 2] 56)) := (Below.refl _ _).alloc (Nat.le_refl _) _
  clear h hv hF hx
  go_enter Tryd.func5, Tryd.ntmps5
  go_wp2_with fail
  refine hr1.mono ?_
  rintro e w1 ⟨v1, L1, rfl, hB1, hO1, hb1⟩
  have hl1 := row_brs hB1
  rw [hl1] at hO1
  obtain ⟨a1, c1, rfl, -, -, -⟩ := own_edges hO1 hl1
  have HB1 : Hid (Below w.heap.size w w1) := below_step hbA hb1
  clear hr1 hB1 hO1 hb1 hbA hl1
  go_wp2_with fail
  refine (bridges_no (c := c) (HH.out.below HB1.out) n k x HF.out.1 HF.out.2).mono ?_
  rintro e w2 ⟨rfl, hb2⟩
  have HB2 : Hid (Below w.heap.size w w2) := below_step HB1.out hb2
  clear hb2 HB1
  go_wp2_with fail
  refine (joints_no (c := c) (HH.out.below HB2.out) n k x HF.out.1 HF.out.2).mono ?_
  rintro e w3 ⟨rfl, hb3⟩
  have HB3 : Hid (Below w.heap.size w w3) := below_step HB2.out hb3
  clear hb3 HB2
  go_wp2_with fail
  go_ret
  exact ⟨rfl, HB3.out⟩

set_option maxRecDepth 100000 in
set_option maxHeartbeats 4000000 in
theorem holds_ok (H : PathOk) (h0 : ErrType w) {ad : Option Addr} {m c n : Nat} (h : EgAt w ad m f) (hmc : m ≤ c) (hcm : c ≤ maxLen) (hv : Valid (n : Nat) m f) :
    Calls Tryd.prog 5 #[.int .i64 (n : Nat), .slice ad m c] w fun e w' => e = .returned (.bool true) ∧ Below w.heap.size w w' := by
  have hmay : ∀ j, j < m → May n f j := by simpa using hv.2.2
  have hm200 : m ≤ 200 := hv.2.1
  have hn0 : 0 < n := by have := hv.1; omega
  have hn60 : n ≤ 60 := by have := hv.1; omega
  have HV : Hid (Valid (n : Nat) m f) := hv
  have HH : Hid (EgAt w ad m f) := h
  have HA : Hid PathOk := H
  obtain ⟨E, hE⟩ : ∃ E, edges f m = E := ⟨_, rfl⟩
  have HL : Hid (edges f m = E ∧ E.length = m ∧ Up E ∧ ∀ e ∈ E, e.1 < e.2 ∧ e.2 < n) := by rw [← hE]; exact ⟨rfl, edges_len f m, edges_up hmay, may_lt hmay⟩
  have HEd : Hid (∀ W, Below w.heap.size w W → EdgesAt W ad E) := fun W hW => by rw [← hE]; exact (HH.out.below hW).list hmay
  have hbuild : ∀ (x y : Int) (W : World), (Instr.build 56 #[(0, .int .i64 x), (1, .int .i64 y)]).run Tryd.prog W = .ok (.agg #[.int .i64 x, .int .i64 y]) W := fun x y W => run_build W 56 _ _ (by kernel_rfl)
  have hmk := run_make_row' (P := Tryd.prog) 45 3 (.int .i64 0) 8 Tryd.underlying45 Tryd.infoInt rfl .i64 .i64 n (by omega) (by omega)
  have hr1 := bridges_ok (c := 2) (n := 3) (row_at w) row_valid
  rw [row_edges] at hr1
  have hbA : Below w.heap.size w (w.alloc (.cells #[.int .i64 0, .int .i64 1, .int .i64 1, .int .i64 2] 56)) := (Below.refl _ _).alloc (Nat.le_refl _) _
  clear h hv hmay H hE
  go_enter Tryd.func5, Tryd.ntmps5
  go_wp2_with fail
  refine hr1.mono ?_
  rintro e w1 ⟨v1, L1, rfl, hB1, hO1, hb1⟩
  have hl1 := row_brs hB1
  rw [hl1] at hO1
  obtain ⟨a1, c1, rfl, -, -, -⟩ := own_edges hO1 hl1
  have HB1 : Hid (Below w.heap.size w w1) := below_step hbA hb1
  clear hr1 hB1 hO1 hb1 hbA hl1 hbuild
  go_wp2_with fail
  refine (bridges_ok (c := c) (HH.out.below HB1.out) HV.out).mono ?_
  rintro e w2 ⟨v2, L2, rfl, hBr2, hO2, hb2⟩
  rw [HL.out.1] at hBr2
  obtain ⟨N2, hN2⟩ : ∃ N, L2.length = N := ⟨_, rfl⟩
  rw [hN2] at hO2
  obtain ⟨a2, cb, rfl, hE2, -, -⟩ := own_edges hO2 hN2
  have hN2m : N2 ≤ m := by
    obtain ⟨t, -, hL⟩ := hBr2
    rw [← hN2, hL, ← HL.out.2.1]
    exact List.length_filter_le _ _
  have HB2 : Hid (Below w.heap.size w w2) := below_step HB1.out hb2
  have HBr2 : Hid (Brs E L2 ∧ L2.length = N2 ∧ EdgesAt w2 a2 L2) := ⟨hBr2, hN2, hE2⟩
  clear hb2 HB1 hBr2 hO2 hN2 hE2
  go_wp2_with fail
  refine (joints_ok (c := c) (HH.out.below HB2.out) HV.out).mono ?_
  rintro e w3 ⟨v3, L3, rfl, hJ3, hO3, hb3⟩
  rw [HL.out.1] at hJ3
  obtain ⟨N3, hN3⟩ : ∃ N, L3.length = N := ⟨_, rfl⟩
  rw [hN3] at hO3
  obtain ⟨a3, cj, rfl, hI3⟩ := own_ints hO3 hN3
  have hN3n : N3 ≤ n := by
    obtain ⟨t, -, hL⟩ := hJ3
    rw [← hN3, hL]
    have := List.length_filter_le t (List.range n)
    rw [List.length_range] at this
    exact this
  have HB3 : Hid (Below w.heap.size w w3) := below_step HB2.out hb3
  have HJ3 : Hid (Jts n E L3 ∧ L3.length = N3 ∧ IntsAt w3 a3 N3 L3) := ⟨hJ3, hN3, hI3⟩
  have HE3 : Hid (EdgesAt w3 a2 L2) := HBr2.out.2.2.below hb3
  clear hb3 HB2 hJ3 hO3 hN3 hI3
  go_wp2_with fail
  have HM : Hid ((w3.alloc (.cells (madeCells #[.int .i64 0] n) 3)).rowIs w3.heap.size 3 n (fun i => .int .i64 (dg (E.take 0) i : Nat))) := (World.rowIs_made w3 (.int .i64 0) n 3).congr fun i _ => by simp [dg]
  have HMb : Hid (Below w3.heap.size w3 (w3.alloc (.cells (madeCells #[.int .i64 0] n) 3))) := below_box _ _
  clear hmk
  go_loopw [12] (fun i wr => ∃ j : Nat, j ≤ m ∧ i = .int .i64 (j : Nat) ∧ Below w3.heap.size w3 wr ∧ wr.rowIs w3.heap.size 3 n (fun i => .int .i64 (dg (E.take j) i : Nat))) (fun i _ => m - (intOf i).toNat)
  case atStart => exact ⟨0, Nat.zero_le _, rfl, HMb.out, HM.out⟩
  case round =>
    obtain ⟨j, hj, rfl, hb, hrow⟩ := hrel
    by_cases hlt : j < m
    · obtain ⟨⟨u, v⟩, hEj⟩ : ∃ s, E[j]? = some s := ⟨E[j]'(by rw [HL.out.2.1]; exact hlt), List.getElem?_eq_getElem (by rw [HL.out.2.1]; exact hlt)⟩
      obtain ⟨b, o, rfl, c1, c2⟩ := (HEd.out _ (below_step HB3.out hb)).cell j (by rw [HL.out.2.1]; exact hlt)
      rw [List.getD_eq_getElem?_getD, hEj] at c1 c2
      replace c1 : wr.cell? ⟨b, o + j * 2, none⟩ = some (.int .i64 (u : Nat)) := c1
      replace c2 : wr.cell? ⟨b, o + j * 2 + 1, none⟩ = some (.int .i64 (v : Nat)) := c2
      have huv : u < v ∧ v < n := HL.out.2.2.2 _ (List.mem_of_getElem? hEj)
      have HEj : Hid (E.take (j + 1) = E.take j ++ [(u, v)]) := show _ = _ by rw [List.take_add_one, hEj]; rfl
      have hbk : b ≠ w3.heap.size := by
        obtain ⟨b', o', e', q1, -⟩ := (HEd.out w3 HB3.out).cell j (by rw [HL.out.2.1]; exact hlt)
        cases e'
        have := World.block_lt_of_cell? _ _ q1
        exact Nat.ne_of_lt this
      have d1 := hrow.cell (i := u) (by omega)
      have d2 := hrow.cell (i := v) (by omega)
      have z1 := hrow.frozen
      have hdu : dg (E.take j) u ≤ 200 := Nat.le_trans (dg_le _ _) (by rw [List.length_take]; omega)
      have hdv : dg (E.take j) v ≤ 200 := Nat.le_trans (dg_le _ _) (by rw [List.length_take]; omega)
      obtain ⟨B, hB⟩ : ∃ B, w3.heap.size = B := ⟨_, rfl⟩
      rw [hB] at hb hrow d1 d2 z1 hbk
      obtain ⟨du, hdu'⟩ : ∃ d, dg (E.take j) u = d := ⟨_, rfl⟩
      obtain ⟨dv, hdv'⟩ : ∃ d, dg (E.take j) v = d := ⟨_, rfl⟩
      have HX : Hid (Below w3.heap.size w3 ((wr.setCell ⟨B, u, none⟩ (.int .i64 ((du + 1 : Nat) : Int))).setCell ⟨B, v, none⟩ (.int .i64 ((dv + 1 : Nat) : Int))) ∧ ((wr.setCell ⟨B, u, none⟩ (.int .i64 ((du + 1 : Nat) : Int))).setCell ⟨B, v, none⟩ (.int .i64 ((dv + 1 : Nat) : Int))).rowIs w3.heap.size 3 n (fun i => .int .i64 (dg (E.take (j + 1)) i : Nat))) := by
        rw [hB]
        refine ⟨(hb.setCell (Nat.le_refl _) _).setCell (Nat.le_refl _) _, ((hrow.set u _).set v _).congr fun i hi => ?_⟩
        rw [HEj.out, dg_snoc]
        by_cases e1 : i = v
        · subst e1; simp [hdv']
        · by_cases e2 : i = u
          · subst e2; simp [e1, hdu']
          · simp [e1, e2, Ne.symm e1, Ne.symm e2]
      rw [hdu'] at d1 hdu
      rw [hdv'] at d2 hdv
      have hw1 : IntKind.i64.wrap ((du : Nat) + 1 : Int) = ((du + 1 : Nat) : Int) := by rw [IntKind.wrap_i64]; omega
      have hw2 : IntKind.i64.wrap ((dv : Nat) + 1 : Int) = ((dv + 1 : Nat) : Int) := by rw [IntKind.wrap_i64]; omega
      have i0 : (0 : Int) ≤ (j : Int) := by omega
      have i1 : (j : Int) < (m : Int) := by omega
      have i2 : (0 : Int) ≤ (u : Int) := by omega
      have i3 : (u : Int) < (n : Int) := by omega
      have i4 : (0 : Int) ≤ (v : Int) := by omega
      have i5 : (v : Int) < (n : Int) := by omega
      have n1 : B ≠ b := hbk.symm
      have n2 : u ≠ v := by omega
      have n3 : v ≠ u := by omega
      generalize du + 1 = du1 at hw1 HX
      generalize dv + 1 = dv1 at hw2 HX
      clear hb hrow hEj hdu' hdv' hdu hdv huv HM HMb
      go_wp2_with fail
      exact ⟨⟨j + 1, by omega, by go_num, HX.out⟩, by simp [intOf]; omega⟩
    · obtain rfl : j = m := by omega
      rw [List.take_of_length_le (Nat.le_of_eq HL.out.2.1)] at hrow
      have HB5 : Hid (Below w.heap.size w wr) := below_step HB3.out hb
      have HMany : Hid (∀ W, Below wr.heap.size wr W → ∀ i, i < n → W.cell? ⟨w3.heap.size, i, none⟩ = some (.int .i64 (dg E i : Nat))) := fun W hW i hi => cell_keep hW (hrow.cell hi)
      have HE5 : Hid (EdgesAt wr a2 L2) := HE3.out.below hb
      have HI5 : Hid (IntsAt wr a3 N3 L3) := HJ3.out.2.2.below hb
      clear hb hrow HM HMb HE3
      generalize w3.heap.size = B at HMany ⊢
      go_wp2_with fail
      obtain ⟨w5, hw5⟩ : ∃ W, wr = W := ⟨_, rfl⟩
      rw [hw5] at HB5 HMany HE5 HI5 ⊢
      clear hw5 wr
      go_loopw [13, 14, 15, 16, 17] (fun i _ _ _ _ wr => ∃ q : Nat, q ≤ j ∧ i = .int .i64 (q : Nat) ∧ Below w5.heap.size w5 wr) (fun i _ _ _ _ _ => j - (intOf i).toNat)
      case atStart => exact ⟨0, Nat.zero_le _, rfl, Below.refl _ _⟩
      case round =>
        obtain ⟨q, hq, rfl, hb⟩ := hrel
        by_cases hlt : q < j
        · have hEr := HEd.out _ (below_step HB5.out hb)
          obtain ⟨⟨u, v⟩, hEj⟩ : ∃ s, E[q]? = some s := ⟨E[q]'(by rw [HL.out.2.1]; exact hlt), List.getElem?_eq_getElem (by rw [HL.out.2.1]; exact hlt)⟩
          obtain ⟨b, o, rfl, c1, c2⟩ := hEr.cell q (by rw [HL.out.2.1]; exact hlt)
          rw [List.getD_eq_getElem?_getD, hEj] at c1 c2
          replace c1 : wr.cell? ⟨b, o + q * 2, none⟩ = some (.int .i64 (u : Nat)) := c1
          replace c2 : wr.cell? ⟨b, o + q * 2 + 1, none⟩ = some (.int .i64 (v : Nat)) := c2
          have hmem : (u, v) ∈ E := List.mem_of_getElem? hEj
          have huv : u < v ∧ v < n := HL.out.2.2.2 _ hmem
          have HB : Hid (Below w5.heap.size w5 wr) := hb
          have hAB : (E.take q ++ E.drop (q + 1)).length = j - 1 := by
            have := HL.out.2.1
            simp
            omega
          have HAB : Hid ((E.take q ++ E.drop (q + 1)).length = j - 1) := hAB
          have hcut := cut_at hEj
          have hup := HL.out.2.2.1
          have hltE := HL.out.2.2.2
          have HOut : Hid (∀ W, Below wr.heap.size wr W → Calls Tryd.prog 30 #[.slice (some ⟨b, o, none⟩) j c, .int .i64 (q : Nat)] W fun e w' => ∃ v, e = .returned v ∧ Below W.heap.size W w' ∧ w'.ownsRow W.heap.size 56 2 v (j - 1) (twos (E.take q ++ E.drop (q + 1)))) := fun W hW => by
            have hEW := hEr.below hW
            rw [hcut] at hEW
            exact out_cut hEW (by omega) hAB hmc hcm (by omega) (by simp; have := HL.out.2.1; omega)
          have hval : Valid ((n : Nat) : Int) (j - 1) (fn (E.take q ++ E.drop (q + 1))) := by
            rw [hcut] at hup hltE
            exact out_valid (by omega) hAB (by omega) hup hltE
          have hee : edges (fn (E.take q ++ E.drop (q + 1))) (j - 1) = E.take q ++ E.drop (q + 1) := by rw [← hAB]; exact fn_edges _
          have hbw : Bridge E (u, v) ↔ ∀ k, ¬ Walk (E.take q ++ E.drop (q + 1)) v u k := by
            rw [hcut] at hup
            conv => lhs; rw [hcut]
            exact bridge_out hup
          have hat : ∀ {W : World} {a' : Option Addr}, EdgesAt W a' (E.take q ++ E.drop (q + 1)) → EgAt W a' (j - 1) (fn (E.take q ++ E.drop (q + 1))) := fun {W a'} hW => by
            have := fn_at hW
            rw [hAB] at this
            exact this
          have d1 := HMany.out wr hb u (by omega)
          have d2 := HMany.out wr hb v (by omega)
          have hL2lt : ∀ e ∈ L2, e.1 < e.2 := fun e he => (hltE e (brs_sub HBr2.out.1 e he)).1
          have hmb := brs_mem HBr2.out.1 hmem
          have i0 : (0 : Int) ≤ (q : Int) := by omega
          have i1 : (q : Int) < (j : Int) := by omega
          have i2 : (0 : Int) ≤ (u : Int) := by omega
          have i3 : (u : Int) < (n : Int) := by omega
          have i4 : (0 : Int) ≤ (v : Int) := by omega
          have i5 : (v : Int) < (n : Int) := by omega
          by_cases hbr : Bridge E (u, v)
          · have hpl := place_yes (w := wr.drew) (c := cb) (x := u) (y := v) (HE5.out.below (below_step hb (Below.refl _ _).drew)) HBr2.out.2.1 (by omega) hL2lt ((next_lt hL2lt huv.1).2 (hmb.2 hbr))
            have HSh : Hid (∀ W a' c', EdgesAt W a' (E.take q ++ E.drop (q + 1)) → j - 1 ≤ c' → c' ≤ maxLen → Calls Tryd.prog 29 #[.int .i64 (n : Nat), .slice a' (j - 1) c', .int .i64 (u : Nat), .int .i64 (v : Nat)] W fun e w' => ∃ v', e = .returned (.tuple #[v', .iface 23 (.int .i64 4)]) ∧ Below W.heap.size W w') := fun W a' c' hW h1 h2 => by
              refine (HA.out.short_no (c := c') (n : Nat) (u : Nat) (v : Nat) 4 (hat hW) (Or.inr (Or.inr ⟨hval, ⟨by omega, by omega⟩, ⟨by omega, by omega⟩, ?_, rfl⟩))).mono fun e w' ⟨a'', c'', q1, q2⟩ => ⟨_, q1, q2⟩
              rw [hee]
              simpa using hbw.1 hbr
            have HJo : Hid ((1 < dg E u → Joint E u) ∧ (1 < dg E v → Joint E v)) := ⟨fun hd => by
              obtain ⟨g, g1, g2, g3⟩ := dg_more (a := u) HL.out.2.2.1.nodup hmem (Or.inl rfl) hd
              exact bridge_joint (fun e he => (hltE e he).1) HL.out.2.2.1.nodup hbr hmem g1 g2 ⟨g3, Or.inl rfl⟩, fun hd => by
              obtain ⟨g, g1, g2, g3⟩ := dg_more (a := v) HL.out.2.2.1.nodup hmem (Or.inr rfl) hd
              exact bridge_joint (fun e he => (hltE e he).1) HL.out.2.2.1.nodup hbr hmem g1 g2 ⟨g3, Or.inr rfl⟩⟩
            clear hb hEr hEj hmem hAB hcut hup hltE hval hee hbw hat hL2lt hmb hbr
            go_wp2_with fail
            go_region_held3 (fun W => W.cell? ⟨b, o + q * 2, none⟩ = some (.int .i64 (u : Nat)) ∧ W.cell? ⟨b, o + q * 2 + 1, none⟩ = some (.int .i64 (v : Nat))) (first | (go_keep; done) | exact ⟨c1, c2⟩ | exact ⟨cell_keep hbp c1, cell_keep hbp c2⟩)
              (first | (go_at_call 28; refine hpl.mono ?_; rintro e wp ⟨⟨jj, rfl⟩, hbp0⟩; have hbp : Below wr.heap.size wr wp := below_step (Below.refl _ _).drew hbp0))
            replace c1 := cell_keep hbp c1
            replace c2 := cell_keep hbp c2
            have HBp : Hid (Below wr.heap.size wr wp) := hbp
            have hout := HOut.out wp.drew (below_step hbp (Below.refl _ _).drew)
            clear hpl hbp0 hbp
            go_wp2_with fail
            go_region_held3 (fun W => W.cell? ⟨b, o + q * 2, none⟩ = some (.int .i64 (u : Nat)) ∧ W.cell? ⟨b, o + q * 2 + 1, none⟩ = some (.int .i64 (v : Nat))) (first | (go_keep; done) | exact ⟨c1, c2⟩ | exact ⟨cell_keep hb4 c1, cell_keep hb4 c2⟩ | exact ⟨cell_keep hb5 c1, cell_keep hb5 c2⟩)
              (first
                | (go_at_call 30; refine hout.mono ?_; rintro e w4 ⟨v4, rfl, hb40, hown4⟩; obtain ⟨a4, c4, rfl, hE4, hmc4, hcm4⟩ := own_edges hown4 HAB.out; have hb4 : Below wp.heap.size wp w4 := below_step (Below.refl _ _).drew hb40; have hsh := HSh.out w4 a4 c4 hE4 hmc4 hcm4)
                | (go_at_call 29; refine hsh.mono ?_; rintro e w6 ⟨v6, rfl, hb60⟩; have hb5 : Below wp.heap.size wp w6 := below_step hb4 hb60))
            have HB6 : Hid (Below wr.heap.size wr w6) := below_step HBp.out hb5
            replace c1 := cell_keep hb5 c1
            replace c2 := cell_keep hb5 c2
            clear hout hsh hown4 hE4 hb40 hb4 hb60 hb5 hmc4 hcm4
            go_wp2_with fail
            refine (error_any (n := 4) ⟨Or.inr rfl⟩ (h0.below (below_step HB5.out (below_step HB.out HB6.out)))).mono ?_
            rintro e w7 ⟨rfl, hb7⟩
            have HB7 : Hid (Below wr.heap.size wr w7) := below_step HB6.out hb7
            replace c1 := cell_keep hb7 c1
            replace c2 := cell_keep hb7 c2
            replace d1 := cell_keep HB7.out d1
            replace d2 := cell_keep HB7.out d2
            clear hb7 HB6 HBp
            obtain ⟨du, hdu⟩ : ∃ d, dg E u = d := ⟨_, rfl⟩
            obtain ⟨dv, hdv⟩ : ∃ d, dg E v = d := ⟨_, rfl⟩
            rw [hdu] at d1 HJo
            rw [hdv] at d2 HJo
            clear hdu hdv
            by_cases hd1 : 1 < du
            · have hd1' : (1 : Int) < (du : Int) := by omega
              by_cases hd2 : 1 < dv
              · have hd2' : (1 : Int) < (dv : Int) := by omega
                go_wp2_with fail
                refine (has_yes (c := cj) (IntsAt.nums (HI5.out.below (below_step HB.out HB7.out))) ((u : Nat) : Int) (by omega) (jts_at HJ3.out.1 HJ3.out.2.1 (by omega) (HJo.out.1 hd1))).mono ?_
                rintro e w8 ⟨rfl, hb8⟩
                have HB8 : Hid (Below wr.heap.size wr w8) := below_step HB7.out hb8
                replace c1 := cell_keep hb8 c1
                replace c2 := cell_keep hb8 c2
                replace d1 := cell_keep hb8 d1
                replace d2 := cell_keep hb8 d2
                clear hb8
                go_wp2_with fail
                refine (has_yes (c := cj) (IntsAt.nums (HI5.out.below (below_step HB.out HB8.out))) ((v : Nat) : Int) (by omega) (jts_at HJ3.out.1 HJ3.out.2.1 (by omega) (HJo.out.2 hd2))).mono ?_
                rintro e w9 ⟨rfl, hb9⟩
                have HB9 : Hid (Below wr.heap.size wr w9) := below_step HB8.out hb9
                replace c1 := cell_keep hb9 c1
                replace c2 := cell_keep hb9 c2
                replace d1 := cell_keep hb9 d1
                replace d2 := cell_keep hb9 d2
                clear hb9
                go_wp2_with fail
                go_roundw
                case rel => exact ⟨q + 1, by omega, by go_num, below_step HB.out HB9.out⟩
                case measure => simp [intOf]; omega
              · have hd2' : ¬ (1 : Int) < (dv : Int) := by omega
                go_wp2_with fail
                refine (has_yes (c := cj) (IntsAt.nums (HI5.out.below (below_step HB.out HB7.out))) ((u : Nat) : Int) (by omega) (jts_at HJ3.out.1 HJ3.out.2.1 (by omega) (HJo.out.1 hd1))).mono ?_
                rintro e w8 ⟨rfl, hb8⟩
                have HB8 : Hid (Below wr.heap.size wr w8) := below_step HB7.out hb8
                replace c1 := cell_keep hb8 c1
                replace c2 := cell_keep hb8 c2
                replace d1 := cell_keep hb8 d1
                replace d2 := cell_keep hb8 d2
                clear hb8
                go_wp2_with fail
                go_roundw
                case rel => exact ⟨q + 1, by omega, by go_num, below_step HB.out HB8.out⟩
                case measure => simp [intOf]; omega
            · have hd1' : ¬ (1 : Int) < (du : Int) := by omega
              by_cases hd2 : 1 < dv
              · have hd2' : (1 : Int) < (dv : Int) := by omega
                go_wp2_with fail
                refine (has_yes (c := cj) (IntsAt.nums (HI5.out.below (below_step HB.out HB7.out))) ((v : Nat) : Int) (by omega) (jts_at HJ3.out.1 HJ3.out.2.1 (by omega) (HJo.out.2 hd2))).mono ?_
                rintro e w8 ⟨rfl, hb8⟩
                have HB8 : Hid (Below wr.heap.size wr w8) := below_step HB7.out hb8
                replace c1 := cell_keep hb8 c1
                replace c2 := cell_keep hb8 c2
                replace d1 := cell_keep hb8 d1
                replace d2 := cell_keep hb8 d2
                clear hb8
                go_wp2_with fail
                go_roundw
                case rel => exact ⟨q + 1, by omega, by go_num, below_step HB.out HB8.out⟩
                case measure => simp [intOf]; omega
              · have hd2' : ¬ (1 : Int) < (dv : Int) := by omega
                go_wp2_with fail
                go_roundw
                case rel => exact ⟨q + 1, by omega, by go_num, below_step HB.out HB7.out⟩
                case measure => simp [intOf]; omega
          · obtain ⟨k0, hk0⟩ : ∃ k, Walk (E.take q ++ E.drop (q + 1)) v u k := Classical.byContradiction fun z => hbr (hbw.2 fun k hk => z ⟨k, hk⟩)
            obtain ⟨k1, hk1⟩ := dist_some hk0.conn
            have hpl := place_not (w := wr.drew) (c := cb) (x := u) (y := v) (HE5.out.below (below_step hb (Below.refl _ _).drew)) HBr2.out.2.1 (by omega) hL2lt (fun z => hbr (hmb.1 ((next_lt hL2lt huv.1).1 z)))
            have HSh : Hid (∀ W a' c', EdgesAt W a' (E.take q ++ E.drop (q + 1)) → j - 1 ≤ c' → c' ≤ maxLen → Calls Tryd.prog 29 #[.int .i64 (n : Nat), .slice a' (j - 1) c', .int .i64 (u : Nat), .int .i64 (v : Nat)] W fun e w' => ∃ v', e = .returned (.tuple #[v', .nilIface]) ∧ Below W.heap.size W w') := fun W a' c' hW h1 h2 => by
              refine (HA.out.short_ok (c := c') (k := k1) (a := u) (b := v) (hat hW) h1 h2 hval (by omega) (by omega) ?_).mono fun e w' ⟨a'', c'', L, q1, _, _, _, _, q2⟩ => ⟨_, q1, q2⟩
              rw [hee]
              exact hk1
            clear hb hEr hEj hmem hAB hcut hup hltE hval hee hbw hat hL2lt hmb hbr hk0 hk1
            go_wp2_with fail
            go_region_held3 (fun W => W.cell? ⟨b, o + q * 2, none⟩ = some (.int .i64 (u : Nat)) ∧ W.cell? ⟨b, o + q * 2 + 1, none⟩ = some (.int .i64 (v : Nat))) (first | (go_keep; done) | exact ⟨c1, c2⟩ | exact ⟨cell_keep hbp c1, cell_keep hbp c2⟩)
              (first | (go_at_call 28; refine hpl.mono ?_; rintro e wp ⟨rfl, hbp0⟩; have hbp : Below wr.heap.size wr wp := below_step (Below.refl _ _).drew hbp0))
            replace c1 := cell_keep hbp c1
            replace c2 := cell_keep hbp c2
            have HBp : Hid (Below wr.heap.size wr wp) := hbp
            have hout := HOut.out wp.drew (below_step hbp (Below.refl _ _).drew)
            clear hpl hbp0 hbp
            go_wp2_with fail
            go_region_held3 (fun W => W.cell? ⟨b, o + q * 2, none⟩ = some (.int .i64 (u : Nat)) ∧ W.cell? ⟨b, o + q * 2 + 1, none⟩ = some (.int .i64 (v : Nat))) (first | (go_keep; done) | exact ⟨c1, c2⟩ | exact ⟨cell_keep hb4 c1, cell_keep hb4 c2⟩ | exact ⟨cell_keep hb5 c1, cell_keep hb5 c2⟩)
              (first
                | (go_at_call 30; refine hout.mono ?_; rintro e w4 ⟨v4, rfl, hb40, hown4⟩; obtain ⟨a4, c4, rfl, hE4, hmc4, hcm4⟩ := own_edges hown4 HAB.out; have hb4 : Below wp.heap.size wp w4 := below_step (Below.refl _ _).drew hb40; have hsh := HSh.out w4 a4 c4 hE4 hmc4 hcm4)
                | (go_at_call 29; refine hsh.mono ?_; rintro e w6 ⟨v6, rfl, hb60⟩; have hb5 : Below wp.heap.size wp w6 := below_step hb4 hb60))
            have HB6 : Hid (Below wr.heap.size wr w6) := below_step HBp.out hb5
            replace c1 := cell_keep hb5 c1
            replace c2 := cell_keep hb5 c2
            clear hout hsh hown4 hE4 hb40 hb4 hb60 hb5 hmc4 hcm4
            go_wp2_with fail
            refine (error_nil (n := 4) (by decide)).mono ?_
            rintro e w7 ⟨rfl, hb7⟩
            have HB7 : Hid (Below wr.heap.size wr w7) := below_step HB6.out hb7
            clear hb7 HB6 HBp c1 c2 d1 d2
            go_wp2_with fail
            go_roundw
            case rel => exact ⟨q + 1, by omega, by go_num, below_step HB.out HB7.out⟩
            case measure => simp [intOf]; omega
        · obtain rfl : q = j := by omega
          have HX : Hid (Below w.heap.size w wr) := below_step HB5.out hb
          clear hb
          go_wp2_with fail
          go_ret
          exact ⟨rfl, HX.out⟩

theorem bridge_holds (H : PathOk) (h0 : ErrType w) {ad : Option Addr} {m c : Nat} (h : EgAt w ad m f) (hmc : m ≤ c) (hcm : c ≤ maxLen) (n : Int) :
    Calls Tryd.prog 5 #[.int .i64 n, .slice ad m c] w fun e w' => e = .returned (.bool true) ∧ Below w.heap.size w w' := by
  by_cases hv : Valid n m f
  · obtain ⟨k, rfl⟩ := Int.eq_ofNat_of_zero_le (show 0 ≤ n by have := hv.1; omega)
    exact holds_ok H h0 h hmc hcm hv
  · exact holds_no h0 h n hv

end Go.Proofs.YtinflbkmemjgbabDoor.Pt
