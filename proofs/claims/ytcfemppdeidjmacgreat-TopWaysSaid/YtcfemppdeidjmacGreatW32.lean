/-
  Pq
-/
import Derived.Test.YtcfemppdeidjmacGreatW31
namespace Go.Proofs.YtcfemppdeidjmacGreat.Pt
set_option linter.unusedSimpArgs false
open Go.RowKit Go.Deep Go.Proofs.YtcfemppdeidjmacGreat.Br
open Go.RowKit (Below)
set_option linter.unusedVariables false

variable {w w' : World} {f : Nat → Int × Int}

theorem Tryz.infoInts : (Tryz.prog.info? 33).map (fun i => (i.zero, i.size, i.bytes)) = some (some (.slice none 0 0), 1, 24) := by kernel_rfl

theorem made_lists (w : World) (n : Nat) : LAt w.heap.size (w.alloc (.cells (madeCells #[.slice none 0 0] n) 33)) w.heap.size n (fun _ => .slice none 0 0) (nbl []) :=
  ⟨World.rowIs_made w (.slice none 0 0) n 33, Nat.le_refl _, fun i hi => World.ownsRow_nil .., fun i hi k hk => (by cases hk), fun i j hi hj hij k hk => (by cases hk)⟩

theorem frozen_past {W w1 w2 : World} {r : Option Nat} {a : Addr} (hd : Below W.heap.size W w1) (hg : w1.grownBy w2 r) (hlt : a.block < W.heap.size) (hr : some a.block = r → False) (h : W.frozen? a = false) : w2.frozen? a = false := by
  rw [World.frozen?_of_block (w := w1) (hg.block a.block (Nat.lt_of_lt_of_le hlt hd.size) hr), World.frozen?_of_block (w := W) (hd.block a.block hlt)]
  exact h

set_option maxRecDepth 100000 in
set_option maxHeartbeats 2000000 in
theorem neighbours_any {a : Option Addr} {m c n : Nat} (h : EgAt w a m f) (hv : Valid (n : Nat) m f) :
    Calls Tryz.prog 51 #[.int .i64 (n : Nat), .slice a m c] w fun e w' => ∃ kn V, e = .returned (.slice (some ⟨kn, 0, none⟩) n n) ∧ NearAt w' kn n V (nbl (edges f m)) ∧ Below w.heap.size w w' := by
  have hn60 : n ≤ 60 := by have := hv.1; omega
  have hm200 : m ≤ 200 := hv.2.1
  have hmay : ∀ j, j < m → May n f j := by simpa using hv.2.2
  have HM : Hid (∀ j, j < m → May n f j) := hmay
  have hmk := run_make_row' (P := Tryz.prog) 95 33 (.slice none 0 0) 24 Tryz.underlying95 Tryz.infoInts rfl .i64 .i64 n (by omega) (by omega) w
  have hL0 := made_lists w n
  have hB0 := below_box w (.cells (madeCells #[.slice none 0 0] n) 33)
  have HH : Hid (EgAt w a m f) := h
  clear h hv hmay
  obtain ⟨W0, hW0⟩ : ∃ W0, w.alloc (.cells (madeCells #[.slice none 0 0] n) 33) = W0 := ⟨_, rfl⟩
  rw [hW0] at hmk hL0 hB0
  obtain ⟨base, hbase⟩ : ∃ b, w.heap.size = b := ⟨_, rfl⟩
  have HZ : Hid (w.heap.size = base) := hbase
  rw [hbase] at hmk hL0 hB0 ⊢
  have HL0 : Hid (LAt base W0 base n (fun _ => .slice none 0 0) (nbl [])) := hL0
  have HB0 : Hid (Below base w W0) := hB0
  obtain ⟨i9, hj9, hi9, hi91, hi92⟩ := info_parts Tryz.infoInt
  clear hW0 hL0 hB0 hbase
  go_enter Tryz.func51, Tryz.ntmps51
  go_wp2_with fail
  clear hmk
  go_loopw [7, 12] (fun _ i wr => ∃ j : Nat, j ≤ m ∧ i = .int .i64 (j : Nat) ∧ ∃ V, LAt base wr base n V (nbl ((edges f m).take j)) ∧ Below base w wr) (fun _ i _ => m - (intOf i).toNat)
  case atStart => exact ⟨0, Nat.zero_le _, rfl, _, HL0.out, HB0.out⟩
  case round =>
    obtain ⟨j, hj, rfl, V, hBr, hbr⟩ := hrel
    by_cases hlt : j < m
    · obtain ⟨b, o, rfl, c1, c2⟩ := HH.out.below (w' := wr) (by rw [HZ.out]; exact hbr) j hlt
      have hs := (HM.out j hlt).1
      obtain ⟨u, hu⟩ : ∃ u : Nat, (f j).1 = u := ⟨(f j).1.toNat, by unfold Sane at hs; omega⟩
      obtain ⟨v, hv⟩ : ∃ v : Nat, (f j).2 = v := ⟨(f j).2.toNat, by unfold Sane at hs; omega⟩
      have hsuv : u < v ∧ v < n := by unfold Sane at hs; omega
      have hE : (edges f m)[j]? = some (u, v) := by rw [edges_get hlt, hu, hv]; rfl
      rw [hu] at c1
      rw [hv] at c2
      obtain ⟨L, hL⟩ : ∃ L, (edges f m).take j = L := ⟨_, rfl⟩
      have hLl : L.length ≤ 200 := by rw [← hL, List.length_take, edges_len]; omega
      have HL : Hid ((edges f m).take (j + 1) = L ++ [(u, v)]) := show _ = _ by rw [List.take_add_one, hE, hL]; rfl
      rw [hL] at hBr
      have i0 : (0 : Int) ≤ (j : Int) := by omega
      have i1 : (j : Int) < (m : Int) := by omega
      have i2 : (0 : Int) ≤ (u : Int) := by omega
      have i3 : (u : Int) < (n : Int) := by omega
      have i4 : (0 : Int) ≤ (v : Int) := by omega
      have i5 : (v : Int) < (n : Int) := by omega
      have HBr : Hid (Below base w wr) := hbr
      have hB1 := hBr.below (below_box wr (.cells #[.int .i64 (u : Int), .int .i64 (v : Int)] 44))
      have hb1 : Below wr.heap.size wr (wr.alloc (.cells #[.int .i64 (u : Int), .int .i64 (v : Int)] 44)) := below_box _ _
      have hbb1 : Below base w (wr.alloc (.cells #[.int .i64 (u : Int), .int .i64 (v : Int)] 44)) := hbr.trans (hb1.mono (by have := hBr.row.lt; omega))
      obtain ⟨K, hK⟩ : ∃ K, (nbl L u).length = K := ⟨_, rfl⟩
      have hK2 : K ≤ 200 := by rw [← hK]; exact Nat.le_trans (nbl_len L u) hLl
      have hfar : ∀ k, (V u).ownBlock = some k → k < wr.heap.size := fun k hk => (own_bound (hBr.own u (by omega)) hk).2
      have hfarv : ∀ k, (V v).ownBlock = some k → k < wr.heap.size := fun k hk => (own_bound (hBr.own v (by omega)) hk).2
      have HEbr : Hid (wr.heap.size ≠ base) := show _ ≠ _ by
        have := hBr.row.lt
        omega
      clear hs hu hv hE hbr hBr hb1
      go_wp2_with fail
      have e0 : (wr.alloc (.cells #[.int .i64 (u : Int), .int .i64 (v : Int)] 44)).cell? ⟨wr.heap.size, 0, none⟩ = some (.int .i64 (u : Nat)) := by simp
      have e1 : (wr.alloc (.cells #[.int .i64 (u : Int), .int .i64 (v : Int)] 44)).cell? ⟨wr.heap.size, 1, none⟩ = some (.int .i64 (v : Nat)) := by simp
      generalize wr.alloc (.cells #[.int .i64 (u : Int), .int .i64 (v : Int)] 44) = W1 at e0 e1 hB1 hbb1 ⊢
      have HEb : Hid (wr.heap.size ≠ base) := HEbr.out
      have HFv : Hid (∀ k, (V v).ownBlock = some k → k < wr.heap.size) := hfarv
      clear hfarv
      generalize wr.heap.size = eb at e0 e1 hfar HEb HFv ⊢
      have f0 := hB1.at (u := u) (by omega)
      have z0 := hB1.fz
      have hown := hB1.own u (by omega)
      rw [hK] at hown
      have hown0 : ∀ o : Obj, Hid ((W1.drew.alloc o).ownsRow base 3 1 (V u) K (ints (nbl L u))) := fun o => hown.alloc o
      have hbs : base ≤ W1.heap.size := by have := hB1.row.lt; omega
      have hd : Below W1.heap.size W1 (W1.drew.alloc (.cells #[.int .i64 (v : Int)] 3)) := ((Below.refl _ _).drew).alloc (by simp) _
      have hbase : base ≤ (W1.drew.alloc (.cells #[.int .i64 (v : Int)] 3)).heap.size := Nat.le_trans hbs (by simp)
      have lte : eb < W1.heap.size := World.block_lt_of_cell? _ _ e0
      have ltn : base < W1.heap.size := World.block_lt_of_cell? _ _ f0
      have far2 : some base = (V u).ownBlock → False := fun e => hB1.off u (by omega) base e.symm rfl
      have far3 : some eb = (V u).ownBlock → False := fun e => by have := hfar _ e.symm; omega
      have HB1 : Hid (LAt base W1 base n V (nbl L)) := hB1
      have Hb1 : Hid (Below base w W1) := hbb1
      have HK : Hid ((nbl L u).length = K) := hK
      clear hB1 hbb1 hown hK
      obtain ⟨vu, hvu⟩ : ∃ x, V u = x := ⟨_, rfl⟩
      rw [hvu] at f0 hown0 far2 far3 hfar
      have HVu : Hid (V u = vu) := hvu
      clear hvu hfar
      have ene : eb ≠ base := HEb.out
      refine wp_region_noPanic ?_
      refine wp_region_held_drew (S := fun W => W.cell? ⟨eb, 0, none⟩ = some (.int .i64 (u : Nat)) ∧ W.cell? ⟨eb, 1, none⟩ = some (.int .i64 (v : Nat))) (by kernel_rfl) ?hsg (fun hHeld => ?_)
      case hsg => exact ⟨e0, e1⟩
      refine wpAnyH_take (i := 0) (v := ?vg0) rfl (by kernel_rfl) (by kernel_rfl) (by kernel_rfl) (fun _ _ _ h => h) (Or.inl ⟨by rfl, ?yg0⟩) (by assumption) ?_
      case yg0 => intro w hSw; (try dsimp only at hSw); go_simp; (try with_reducible rfl)
      simp only [Act.put, List.setIfInBounds_toArray, List.set_cons_zero, List.set_cons_succ]
      refine wpAnyH_take (i := 1) (v := ?vg1) rfl (by kernel_rfl) (by kernel_rfl) (by kernel_rfl) (fun _ _ _ h => h) (Or.inl ⟨by rfl, ?yg1⟩) (by assumption) ?_
      case yg1 => intro w hSw; (try dsimp only at hSw); go_simp; (try with_reducible rfl)
      simp only [Act.put, List.setIfInBounds_toArray, List.set_cons_zero, List.set_cons_succ]
      refine wpAnyH_take (i := 2) (v := ?vg2) rfl (by kernel_rfl) (by kernel_rfl) (by kernel_rfl) (fun _ _ _ h => h) (Or.inl ⟨by rfl, ?yg2⟩) (by assumption) ?_
      case yg2 => intro w hSw; (try dsimp only at hSw); go_simp; (try with_reducible rfl)
      simp only [Act.put, List.setIfInBounds_toArray, List.set_cons_zero, List.set_cons_succ]
      refine wpAnyH_take (i := 3) (v := ?vg3) rfl (by kernel_rfl) (by kernel_rfl) (by kernel_rfl) (fun _ _ _ h => h) (Or.inl ⟨by rfl, ?yg3⟩) (by assumption) ?_
      case yg3 => intro w hSw; (try dsimp only at hSw); go_simp; (try with_reducible rfl)
      simp only [Act.put, List.setIfInBounds_toArray, List.set_cons_zero, List.set_cons_succ]
      refine wpAnyH_take (i := 4) (v := ?vg4) rfl (by kernel_rfl) (by kernel_rfl) (by kernel_rfl) (fun _ _ _ h => h) (Or.inl ⟨by rfl, ?yg4⟩) (by assumption) ?_
      case yg4 => intro w hSw; (try dsimp only at hSw); go_simp; (try with_reducible rfl)
      simp only [Act.put, List.setIfInBounds_toArray, List.set_cons_zero, List.set_cons_succ]
      refine wpAnyH_take (i := 5) (v := ?vg5) rfl (by kernel_rfl) (by kernel_rfl) (by kernel_rfl) (fun _ _ _ h => h) (Or.inl ⟨by rfl, ?yg5⟩) (by assumption) ?_
      case yg5 => intro w hSw; (try dsimp only at hSw); go_simp; (try with_reducible rfl)
      simp only [Act.put, List.setIfInBounds_toArray, List.set_cons_zero, List.set_cons_succ]
      refine wpAnyH_take (i := 6) (v := ?vg6) rfl (by kernel_rfl) (by kernel_rfl) (by kernel_rfl) (fun _ _ _ h => h) (Or.inl ⟨by rfl, ?yg6⟩) (by assumption) ?_
      case yg6 => intro w hSw; (try dsimp only at hSw); go_simp; (try with_reducible rfl)
      simp only [Act.put, List.setIfInBounds_toArray, List.set_cons_zero, List.set_cons_succ]
      refine wpAnyH_take (i := 8) (v := ?vg8) rfl (by kernel_rfl) (by kernel_rfl) (by kernel_rfl) (fun _ _ _ h => h) (Or.inl ⟨by rfl, ?yg8⟩) (by assumption) ?_
      case yg8 => intro w hSw; (try dsimp only at hSw); go_simp; (try with_reducible rfl)
      simp only [Act.put, List.setIfInBounds_toArray, List.set_cons_zero, List.set_cons_succ]
      refine wpAnyH_take (i := 9) (v := ?vg9) rfl (by kernel_rfl) (by kernel_rfl) (by kernel_rfl) (fun _ _ _ h => h) (Or.inl ⟨by rfl, ?yg9⟩) (by assumption) ?_
      case yg9 => intro w hSw; (try dsimp only at hSw); go_simp; (try with_reducible rfl)
      simp only [Act.put, List.setIfInBounds_toArray, List.set_cons_zero, List.set_cons_succ]
      refine wpAnyH_ready (rs := [7, 10]) (by kernel_rfl) (by simp) ?_
      refine (AllReadyH.cons rfl (fun K9 hK9 => ?gA) (AllReadyH.cons rfl (fun K9 hK9 => ?gB) AllReadyH.nil))
      case gA =>
        go_simp
        refine hK9.out _ _ ?kgl (fun hHeld => ?_)
        case kgl => exact ⟨e0, e1⟩
        clear hK9
        refine wpAnyH_ready (rs := [10]) (by kernel_rfl) (by simp) ?_
        refine (AllReadyH.cons rfl (fun K9 hK9 => ?gb) AllReadyH.nil)
        case gb =>
          go_simp
          refine hK9.out _ _ ?kgm (fun hHeld => ?_)
          case kgm => exact ⟨cell_keep hd e0, cell_keep hd e1⟩
          clear hK9
          refine wpAnyH_ready (rs := [11]) (by kernel_rfl) (by simp) ?_
          refine (AllReadyH.cons rfl (fun K9 hK9 => ?gpa) AllReadyH.nil)
          case gpa =>
            refine step_append_lies _ (by rfl) (.tmp 23) (.tmp 26) 33 (by rfl) base 3 i9 (.int .i64 0) 1 8 Tryz.underlying33 hj9 hi9 hi91 hi92 rfl (by decide) vu K (ints (nbl L u)) (by simp [Act.eval]) (hown0 _).out ⟨W1.heap.size, 0, none⟩ 1 1 [.int .i64 (v : Int)] (by simp [Act.eval]) rfl (by exact cell_one_new _ _ _) (by simp [Value.oneCell']) (by decide) (by unfold maxLen; omega) (by omega) hbase _ rfl ?_
            intro g2 cap2 w6 hown2 hgrow hat hlt4
            have fz6 := frozen_past (a := ⟨base, u, none⟩) hd hgrow ltn far2 (z0 _)
            have cz6 := (hgrow.cell_far ⟨base, u, none⟩ (by simp; omega) far2).trans (cell_keep hd f0)
            refine hK9.out _ _ ?kgpa (fun hHeld => ?_)
            case kgpa => exact ⟨(hgrow.cell_far ⟨eb, 0, none⟩ (by simp; omega) far3).trans (cell_keep hd e0), (hgrow.cell_far ⟨eb, 1, none⟩ (by simp; omega) far3).trans (cell_keep hd e1)⟩
            clear hK9
            simp only [Act.put, List.setIfInBounds_toArray]
            refine wpAnyH_take (i := 12) (v := ?vgpx) rfl (by kernel_rfl) (by kernel_rfl) (by kernel_rfl) (fun _ _ _ h => h) (Or.inl ⟨by rfl, ?ygpx⟩) (by assumption) ?_
            case ygpx => intro w hSw; (try dsimp only at hSw); go_simp; (try with_reducible rfl)
            simp only [Act.put]
            refine wpAnyH_ready (rs := [13]) (by kernel_rfl) (by simp) ?_
            refine (AllReadyH.cons rfl (fun K9 hK9 => ?gps) AllReadyH.nil)
            case gps =>
              go_simp
              refine hK9.out _ _ ?kgps (fun hHeld => ?_)
              case kgps => exact ⟨(World.cell?_setCell_far _ _ _ _ ene.symm).trans hHeld.1, (World.cell?_setCell_far _ _ _ _ ene.symm).trans hHeld.2⟩
              clear hK9
              refine wpAnyH_done (by kernel_rfl) ?_ _
              refine NoPanic.normal ?_
              have hB2 := (HB1.out.below hd).push (u := u) (K := K) (g1 := g2) (cap := cap2) (x := v) (by omega) HK.out hown2 (by rw [HVu.out]; exact hgrow) (by rw [HVu.out]; exact hat)
              have hgk : ∀ k, vu.ownBlock = some k → base ≤ k := fun k e => (own_bound (HB1.out.own u (by omega)) (by rw [HVu.out]; exact e)).1
              have hb2 : Below base w (w6.setCell ⟨base, u, none⟩ (.slice (some ⟨g2, 0, none⟩) (K + 1) cap2)) := ((Hb1.out.trans (hd.mono hbs)).grown hgrow hbase hgk).setCell (Nat.le_refl _) _
              have e0' := hHeld.1
              have e1' := hHeld.2
              clear hgrow hat hown2 hlt4 fz6 cz6 hHeld e0 e1 f0 z0 hown0 hbs hd hbase lte ltn far2 far3 HB1 Hb1 HK hK2 hgk
              have hV2 : upd V u (.slice (some ⟨g2, 0, none⟩) (K + 1) cap2) v = V v := upd_ne _ _ (by omega)
              have hN2 : upd (nbl L) u (nbl L u ++ [v]) v = nbl L v := upd_ne _ _ (by omega)
              generalize w6.setCell ⟨base, u, none⟩ (.slice (some ⟨g2, 0, none⟩) (K + 1) cap2) = W2 at hB2 hb2 e0' e1' ⊢
              generalize upd V u (.slice (some ⟨g2, 0, none⟩) (K + 1) cap2) = V2 at hB2 hV2
              generalize (Value.slice (some ⟨g2, 0, none⟩) (K + 1) cap2) = v2
              clear HVu
              have e0 := e0'
              have e1 := e1'
              clear e0' e1'
              obtain ⟨K, hK⟩ : ∃ K, (nbl L v).length = K := ⟨_, rfl⟩
              have hK2 : K ≤ 200 := by rw [← hK]; exact Nat.le_trans (nbl_len L v) hLl
              have f0 := hB2.at (u := v) (by omega)
              rw [hV2] at f0
              have z0 := hB2.fz
              have hown := hB2.own v (by omega)
              rw [hV2, hN2, hK] at hown
              have hown0 : ∀ o : Obj, Hid ((W2.drew.alloc o).ownsRow base 3 1 (V v) K (ints (nbl L v))) := fun o => hown.alloc o
              have hbs : base ≤ W2.heap.size := by have := hB2.row.lt; omega
              have hd : Below W2.heap.size W2 (W2.drew.alloc (.cells #[.int .i64 (u : Int)] 3)) := ((Below.refl _ _).drew).alloc (by simp) _
              have hbase : base ≤ (W2.drew.alloc (.cells #[.int .i64 (u : Int)] 3)).heap.size := Nat.le_trans hbs (by simp)
              have lte : eb < W2.heap.size := World.block_lt_of_cell? _ _ e0
              have ltn : base < W2.heap.size := World.block_lt_of_cell? _ _ f0
              have far2 : some base = (V v).ownBlock → False := fun e => hB2.off v (by omega) base (by rw [hV2]; exact e.symm) rfl
              have far3 : some eb = (V v).ownBlock → False := fun e => by have := HFv.out _ e.symm; omega
              have HB2 : Hid (LAt base W2 base n V2 (upd (nbl L) u (nbl L u ++ [v])) ∧ upd (nbl L) u (nbl L u ++ [v]) v = nbl L v ∧ V2 v = V v) := ⟨hB2, hN2, hV2⟩
              have Hb2 : Hid (Below base w W2) := hb2
              have HK : Hid ((nbl L v).length = K) := hK
              clear hB2 hb2 hown hK hN2 hV2
              obtain ⟨vv, hvv⟩ : ∃ x, V v = x := ⟨_, rfl⟩
              rw [hvv] at f0 hown0 far2 far3
              have HVv : Hid (V v = vv) := hvv
              clear hvv
              go_wp2_with fail
              refine wp_region_noPanic ?_
              refine wp_region_held_drew (S := fun W => W.cell? ⟨eb, 0, none⟩ = some (.int .i64 (u : Nat)) ∧ W.cell? ⟨eb, 1, none⟩ = some (.int .i64 (v : Nat))) (by kernel_rfl) ?hsr (fun hHeld => ?_)
              case hsr => exact ⟨e0, e1⟩
              refine wpAnyH_take (i := 0) (v := ?vr0) rfl (by kernel_rfl) (by kernel_rfl) (by kernel_rfl) (fun _ _ _ h => h) (Or.inl ⟨by rfl, ?yr0⟩) (by assumption) ?_
              case yr0 => intro w hSw; (try dsimp only at hSw); go_simp; (try with_reducible rfl)
              simp only [Act.put, List.setIfInBounds_toArray, List.set_cons_zero, List.set_cons_succ]
              refine wpAnyH_take (i := 1) (v := ?vr1) rfl (by kernel_rfl) (by kernel_rfl) (by kernel_rfl) (fun _ _ _ h => h) (Or.inl ⟨by rfl, ?yr1⟩) (by assumption) ?_
              case yr1 => intro w hSw; (try dsimp only at hSw); go_simp; (try with_reducible rfl)
              simp only [Act.put, List.setIfInBounds_toArray, List.set_cons_zero, List.set_cons_succ]
              refine wpAnyH_take (i := 2) (v := ?vr2) rfl (by kernel_rfl) (by kernel_rfl) (by kernel_rfl) (fun _ _ _ h => h) (Or.inl ⟨by rfl, ?yr2⟩) (by assumption) ?_
              case yr2 => intro w hSw; (try dsimp only at hSw); go_simp; (try with_reducible rfl)
              simp only [Act.put, List.setIfInBounds_toArray, List.set_cons_zero, List.set_cons_succ]
              refine wpAnyH_take (i := 3) (v := ?vr3) rfl (by kernel_rfl) (by kernel_rfl) (by kernel_rfl) (fun _ _ _ h => h) (Or.inl ⟨by rfl, ?yr3⟩) (by assumption) ?_
              case yr3 => intro w hSw; (try dsimp only at hSw); go_simp; (try with_reducible rfl)
              simp only [Act.put, List.setIfInBounds_toArray, List.set_cons_zero, List.set_cons_succ]
              refine wpAnyH_take (i := 4) (v := ?vr4) rfl (by kernel_rfl) (by kernel_rfl) (by kernel_rfl) (fun _ _ _ h => h) (Or.inl ⟨by rfl, ?yr4⟩) (by assumption) ?_
              case yr4 => intro w hSw; (try dsimp only at hSw); go_simp; (try with_reducible rfl)
              simp only [Act.put, List.setIfInBounds_toArray, List.set_cons_zero, List.set_cons_succ]
              refine wpAnyH_take (i := 5) (v := ?vr5) rfl (by kernel_rfl) (by kernel_rfl) (by kernel_rfl) (fun _ _ _ h => h) (Or.inl ⟨by rfl, ?yr5⟩) (by assumption) ?_
              case yr5 => intro w hSw; (try dsimp only at hSw); go_simp; (try with_reducible rfl)
              simp only [Act.put, List.setIfInBounds_toArray, List.set_cons_zero, List.set_cons_succ]
              refine wpAnyH_take (i := 6) (v := ?vr6) rfl (by kernel_rfl) (by kernel_rfl) (by kernel_rfl) (fun _ _ _ h => h) (Or.inl ⟨by rfl, ?yr6⟩) (by assumption) ?_
              case yr6 => intro w hSw; (try dsimp only at hSw); go_simp; (try with_reducible rfl)
              simp only [Act.put, List.setIfInBounds_toArray, List.set_cons_zero, List.set_cons_succ]
              refine wpAnyH_take (i := 8) (v := ?vr8) rfl (by kernel_rfl) (by kernel_rfl) (by kernel_rfl) (fun _ _ _ h => h) (Or.inl ⟨by rfl, ?yr8⟩) (by assumption) ?_
              case yr8 => intro w hSw; (try dsimp only at hSw); go_simp; (try with_reducible rfl)
              simp only [Act.put, List.setIfInBounds_toArray, List.set_cons_zero, List.set_cons_succ]
              refine wpAnyH_take (i := 9) (v := ?vr9) rfl (by kernel_rfl) (by kernel_rfl) (by kernel_rfl) (fun _ _ _ h => h) (Or.inl ⟨by rfl, ?yr9⟩) (by assumption) ?_
              case yr9 => intro w hSw; (try dsimp only at hSw); go_simp; (try with_reducible rfl)
              simp only [Act.put, List.setIfInBounds_toArray, List.set_cons_zero, List.set_cons_succ]
              refine wpAnyH_ready (rs := [7, 10]) (by kernel_rfl) (by simp) ?_
              refine (AllReadyH.cons rfl (fun K9 hK9 => ?rA) (AllReadyH.cons rfl (fun K9 hK9 => ?rB) AllReadyH.nil))
              case rA =>
                go_simp
                refine hK9.out _ _ ?krl (fun hHeld => ?_)
                case krl => exact ⟨e0, e1⟩
                clear hK9
                refine wpAnyH_ready (rs := [10]) (by kernel_rfl) (by simp) ?_
                refine (AllReadyH.cons rfl (fun K9 hK9 => ?rb) AllReadyH.nil)
                case rb =>
                  go_simp
                  refine hK9.out _ _ ?krm (fun hHeld => ?_)
                  case krm => exact ⟨cell_keep hd e0, cell_keep hd e1⟩
                  clear hK9
                  refine wpAnyH_ready (rs := [11]) (by kernel_rfl) (by simp) ?_
                  refine (AllReadyH.cons rfl (fun K9 hK9 => ?rpa) AllReadyH.nil)
                  case rpa =>
                    refine step_append_lies _ (by rfl) (.tmp 36) (.tmp 39) 33 (by rfl) base 3 i9 (.int .i64 0) 1 8 Tryz.underlying33 hj9 hi9 hi91 hi92 rfl (by decide) vv K (ints (nbl L v)) (by simp [Act.eval]) (hown0 _).out ⟨W2.heap.size, 0, none⟩ 1 1 [.int .i64 (u : Int)] (by simp [Act.eval]) rfl (by exact cell_one_new _ _ _) (by simp [Value.oneCell']) (by decide) (by unfold maxLen; omega) (by omega) hbase _ rfl ?_
                    intro g2 cap2 w6 hown2 hgrow hat hlt4
                    have fz6 := frozen_past (a := ⟨base, v, none⟩) hd hgrow ltn far2 (z0 _)
                    have cz6 := (hgrow.cell_far ⟨base, v, none⟩ (by simp; omega) far2).trans (cell_keep hd f0)
                    refine hK9.out _ _ ?krpa (fun hHeld => ?_)
                    case krpa => exact ⟨(hgrow.cell_far ⟨eb, 0, none⟩ (by simp; omega) far3).trans (cell_keep hd e0), (hgrow.cell_far ⟨eb, 1, none⟩ (by simp; omega) far3).trans (cell_keep hd e1)⟩
                    clear hK9
                    simp only [Act.put, List.setIfInBounds_toArray]
                    refine wpAnyH_take (i := 12) (v := ?vrpx) rfl (by kernel_rfl) (by kernel_rfl) (by kernel_rfl) (fun _ _ _ h => h) (Or.inl ⟨by rfl, ?yrpx⟩) (by assumption) ?_
                    case yrpx => intro w hSw; (try dsimp only at hSw); go_simp; (try with_reducible rfl)
                    simp only [Act.put]
                    refine wpAnyH_ready (rs := [13]) (by kernel_rfl) (by simp) ?_
                    refine (AllReadyH.cons rfl (fun K9 hK9 => ?rps) AllReadyH.nil)
                    case rps =>
                      go_simp
                      refine hK9.out _ _ ?krps (fun hHeld => ?_)
                      case krps => exact ⟨(World.cell?_setCell_far _ _ _ _ ene.symm).trans hHeld.1, (World.cell?_setCell_far _ _ _ _ ene.symm).trans hHeld.2⟩
                      clear hK9
                      refine wpAnyH_done (by kernel_rfl) ?_ _
                      refine NoPanic.normal ?_
                      have hB3 := (HB2.out.1.below hd).push (u := v) (K := K) (g1 := g2) (cap := cap2) (x := u) (by omega) (by rw [HB2.out.2.1]; exact HK.out) (by rw [HB2.out.2.1]; exact hown2) (by rw [HB2.out.2.2, HVv.out]; exact hgrow) (by rw [HB2.out.2.2, HVv.out]; exact hat)
                      have hgk : ∀ k, vv.ownBlock = some k → base ≤ k := fun k e => (own_bound (HB2.out.1.own v (by omega)) (by rw [HB2.out.2.2, HVv.out]; exact e)).1
                      have hb3 : Below base w (w6.setCell ⟨base, v, none⟩ (.slice (some ⟨g2, 0, none⟩) (K + 1) cap2)) := ((Hb2.out.trans (hd.mono hbs)).grown hgrow hbase hgk).setCell (Nat.le_refl _) _
                      have hnb : upd (upd (nbl L) u (nbl L u ++ [v])) v (upd (nbl L) u (nbl L u ++ [v]) v ++ [u]) = nbl ((edges f m).take (j + 1)) := by
                        rw [HL.out, HB2.out.2.1]
                        funext i
                        exact (nbl_snoc L u v (by omega) i).symm
                      rw [hnb] at hB3
                      clear hgrow hat hown2 hlt4 fz6 cz6 hHeld e0 e1 f0 z0 hown0 hbs hd hbase lte ltn far2 far3 hnb hgk
                      generalize w6.setCell ⟨base, v, none⟩ (.slice (some ⟨g2, 0, none⟩) (K + 1) cap2) = W3 at hB3 hb3 ⊢
                      have HB3 : Hid (LAt base W3 base n (upd V2 v (.slice (some ⟨g2, 0, none⟩) (K + 1) cap2)) (nbl ((edges f m).take (j + 1))) ∧ Below base w W3) := ⟨hB3, hb3⟩
                      clear hB3 hb3
                      go_wp2_with fail
                      go_roundw
                      case rel => exact ⟨j + 1, by omega, by go_num, _, HB3.out.1, HB3.out.2⟩
                      case measure => simp [intOf]; omega
              case rB =>
                go_simp
                refine hK9.out _ _ ?krn (fun hHeld => ?_)
                case krn => exact ⟨cell_keep hd e0, cell_keep hd e1⟩
                clear hK9
                refine wpAnyH_ready (rs := [7]) (by kernel_rfl) (by simp) ?_
                refine (AllReadyH.cons rfl (fun K9 hK9 => ?rd) AllReadyH.nil)
                case rd =>
                  go_simp
                  refine hK9.out _ _ ?kro (fun hHeld => ?_)
                  case kro => exact ⟨cell_keep hd e0, cell_keep hd e1⟩
                  clear hK9
                  refine wpAnyH_ready (rs := [11]) (by kernel_rfl) (by simp) ?_
                  refine (AllReadyH.cons rfl (fun K9 hK9 => ?rqa) AllReadyH.nil)
                  case rqa =>
                    refine step_append_lies _ (by rfl) (.tmp 36) (.tmp 39) 33 (by rfl) base 3 i9 (.int .i64 0) 1 8 Tryz.underlying33 hj9 hi9 hi91 hi92 rfl (by decide) vv K (ints (nbl L v)) (by simp [Act.eval]) (hown0 _).out ⟨W2.heap.size, 0, none⟩ 1 1 [.int .i64 (u : Int)] (by simp [Act.eval]) rfl (by exact cell_one_new _ _ _) (by simp [Value.oneCell']) (by decide) (by unfold maxLen; omega) (by omega) hbase _ rfl ?_
                    intro g2 cap2 w6 hown2 hgrow hat hlt4
                    have fz6 := frozen_past (a := ⟨base, v, none⟩) hd hgrow ltn far2 (z0 _)
                    have cz6 := (hgrow.cell_far ⟨base, v, none⟩ (by simp; omega) far2).trans (cell_keep hd f0)
                    refine hK9.out _ _ ?krqa (fun hHeld => ?_)
                    case krqa => exact ⟨(hgrow.cell_far ⟨eb, 0, none⟩ (by simp; omega) far3).trans (cell_keep hd e0), (hgrow.cell_far ⟨eb, 1, none⟩ (by simp; omega) far3).trans (cell_keep hd e1)⟩
                    clear hK9
                    simp only [Act.put, List.setIfInBounds_toArray]
                    refine wpAnyH_take (i := 12) (v := ?vrqx) rfl (by kernel_rfl) (by kernel_rfl) (by kernel_rfl) (fun _ _ _ h => h) (Or.inl ⟨by rfl, ?yrqx⟩) (by assumption) ?_
                    case yrqx => intro w hSw; (try dsimp only at hSw); go_simp; (try with_reducible rfl)
                    simp only [Act.put]
                    refine wpAnyH_ready (rs := [13]) (by kernel_rfl) (by simp) ?_
                    refine (AllReadyH.cons rfl (fun K9 hK9 => ?rqs) AllReadyH.nil)
                    case rqs =>
                      go_simp
                      refine hK9.out _ _ ?krqs (fun hHeld => ?_)
                      case krqs => exact ⟨(World.cell?_setCell_far _ _ _ _ ene.symm).trans hHeld.1, (World.cell?_setCell_far _ _ _ _ ene.symm).trans hHeld.2⟩
                      clear hK9
                      refine wpAnyH_done (by kernel_rfl) ?_ _
                      refine NoPanic.normal ?_
                      have hB3 := (HB2.out.1.below hd).push (u := v) (K := K) (g1 := g2) (cap := cap2) (x := u) (by omega) (by rw [HB2.out.2.1]; exact HK.out) (by rw [HB2.out.2.1]; exact hown2) (by rw [HB2.out.2.2, HVv.out]; exact hgrow) (by rw [HB2.out.2.2, HVv.out]; exact hat)
                      have hgk : ∀ k, vv.ownBlock = some k → base ≤ k := fun k e => (own_bound (HB2.out.1.own v (by omega)) (by rw [HB2.out.2.2, HVv.out]; exact e)).1
                      have hb3 : Below base w (w6.setCell ⟨base, v, none⟩ (.slice (some ⟨g2, 0, none⟩) (K + 1) cap2)) := ((Hb2.out.trans (hd.mono hbs)).grown hgrow hbase hgk).setCell (Nat.le_refl _) _
                      have hnb : upd (upd (nbl L) u (nbl L u ++ [v])) v (upd (nbl L) u (nbl L u ++ [v]) v ++ [u]) = nbl ((edges f m).take (j + 1)) := by
                        rw [HL.out, HB2.out.2.1]
                        funext i
                        exact (nbl_snoc L u v (by omega) i).symm
                      rw [hnb] at hB3
                      clear hgrow hat hown2 hlt4 fz6 cz6 hHeld e0 e1 f0 z0 hown0 hbs hd hbase lte ltn far2 far3 hnb hgk
                      generalize w6.setCell ⟨base, v, none⟩ (.slice (some ⟨g2, 0, none⟩) (K + 1) cap2) = W3 at hB3 hb3 ⊢
                      have HB3 : Hid (LAt base W3 base n (upd V2 v (.slice (some ⟨g2, 0, none⟩) (K + 1) cap2)) (nbl ((edges f m).take (j + 1))) ∧ Below base w W3) := ⟨hB3, hb3⟩
                      clear hB3 hb3
                      go_wp2_with fail
                      go_roundw
                      case rel => exact ⟨j + 1, by omega, by go_num, _, HB3.out.1, HB3.out.2⟩
                      case measure => simp [intOf]; omega
      case gB =>
        go_simp
        refine hK9.out _ _ ?kgn (fun hHeld => ?_)
        case kgn => exact ⟨cell_keep hd e0, cell_keep hd e1⟩
        clear hK9
        refine wpAnyH_ready (rs := [7]) (by kernel_rfl) (by simp) ?_
        refine (AllReadyH.cons rfl (fun K9 hK9 => ?gd) AllReadyH.nil)
        case gd =>
          go_simp
          refine hK9.out _ _ ?kgo (fun hHeld => ?_)
          case kgo => exact ⟨cell_keep hd e0, cell_keep hd e1⟩
          clear hK9
          refine wpAnyH_ready (rs := [11]) (by kernel_rfl) (by simp) ?_
          refine (AllReadyH.cons rfl (fun K9 hK9 => ?gqa) AllReadyH.nil)
          case gqa =>
            refine step_append_lies _ (by rfl) (.tmp 23) (.tmp 26) 33 (by rfl) base 3 i9 (.int .i64 0) 1 8 Tryz.underlying33 hj9 hi9 hi91 hi92 rfl (by decide) vu K (ints (nbl L u)) (by simp [Act.eval]) (hown0 _).out ⟨W1.heap.size, 0, none⟩ 1 1 [.int .i64 (v : Int)] (by simp [Act.eval]) rfl (by exact cell_one_new _ _ _) (by simp [Value.oneCell']) (by decide) (by unfold maxLen; omega) (by omega) hbase _ rfl ?_
            intro g2 cap2 w6 hown2 hgrow hat hlt4
            have fz6 := frozen_past (a := ⟨base, u, none⟩) hd hgrow ltn far2 (z0 _)
            have cz6 := (hgrow.cell_far ⟨base, u, none⟩ (by simp; omega) far2).trans (cell_keep hd f0)
            refine hK9.out _ _ ?kgqa (fun hHeld => ?_)
            case kgqa => exact ⟨(hgrow.cell_far ⟨eb, 0, none⟩ (by simp; omega) far3).trans (cell_keep hd e0), (hgrow.cell_far ⟨eb, 1, none⟩ (by simp; omega) far3).trans (cell_keep hd e1)⟩
            clear hK9
            simp only [Act.put, List.setIfInBounds_toArray]
            refine wpAnyH_take (i := 12) (v := ?vgqx) rfl (by kernel_rfl) (by kernel_rfl) (by kernel_rfl) (fun _ _ _ h => h) (Or.inl ⟨by rfl, ?ygqx⟩) (by assumption) ?_
            case ygqx => intro w hSw; (try dsimp only at hSw); go_simp; (try with_reducible rfl)
            simp only [Act.put]
            refine wpAnyH_ready (rs := [13]) (by kernel_rfl) (by simp) ?_
            refine (AllReadyH.cons rfl (fun K9 hK9 => ?gqs) AllReadyH.nil)
            case gqs =>
              go_simp
              refine hK9.out _ _ ?kgqs (fun hHeld => ?_)
              case kgqs => exact ⟨(World.cell?_setCell_far _ _ _ _ ene.symm).trans hHeld.1, (World.cell?_setCell_far _ _ _ _ ene.symm).trans hHeld.2⟩
              clear hK9
              refine wpAnyH_done (by kernel_rfl) ?_ _
              refine NoPanic.normal ?_
              have hB2 := (HB1.out.below hd).push (u := u) (K := K) (g1 := g2) (cap := cap2) (x := v) (by omega) HK.out hown2 (by rw [HVu.out]; exact hgrow) (by rw [HVu.out]; exact hat)
              have hgk : ∀ k, vu.ownBlock = some k → base ≤ k := fun k e => (own_bound (HB1.out.own u (by omega)) (by rw [HVu.out]; exact e)).1
              have hb2 : Below base w (w6.setCell ⟨base, u, none⟩ (.slice (some ⟨g2, 0, none⟩) (K + 1) cap2)) := ((Hb1.out.trans (hd.mono hbs)).grown hgrow hbase hgk).setCell (Nat.le_refl _) _
              have e0' := hHeld.1
              have e1' := hHeld.2
              clear hgrow hat hown2 hlt4 fz6 cz6 hHeld e0 e1 f0 z0 hown0 hbs hd hbase lte ltn far2 far3 HB1 Hb1 HK hK2 hgk
              have hV2 : upd V u (.slice (some ⟨g2, 0, none⟩) (K + 1) cap2) v = V v := upd_ne _ _ (by omega)
              have hN2 : upd (nbl L) u (nbl L u ++ [v]) v = nbl L v := upd_ne _ _ (by omega)
              generalize w6.setCell ⟨base, u, none⟩ (.slice (some ⟨g2, 0, none⟩) (K + 1) cap2) = W2 at hB2 hb2 e0' e1' ⊢
              generalize upd V u (.slice (some ⟨g2, 0, none⟩) (K + 1) cap2) = V2 at hB2 hV2
              generalize (Value.slice (some ⟨g2, 0, none⟩) (K + 1) cap2) = v2
              clear HVu
              have e0 := e0'
              have e1 := e1'
              clear e0' e1'
              obtain ⟨K, hK⟩ : ∃ K, (nbl L v).length = K := ⟨_, rfl⟩
              have hK2 : K ≤ 200 := by rw [← hK]; exact Nat.le_trans (nbl_len L v) hLl
              have f0 := hB2.at (u := v) (by omega)
              rw [hV2] at f0
              have z0 := hB2.fz
              have hown := hB2.own v (by omega)
              rw [hV2, hN2, hK] at hown
              have hown0 : ∀ o : Obj, Hid ((W2.drew.alloc o).ownsRow base 3 1 (V v) K (ints (nbl L v))) := fun o => hown.alloc o
              have hbs : base ≤ W2.heap.size := by have := hB2.row.lt; omega
              have hd : Below W2.heap.size W2 (W2.drew.alloc (.cells #[.int .i64 (u : Int)] 3)) := ((Below.refl _ _).drew).alloc (by simp) _
              have hbase : base ≤ (W2.drew.alloc (.cells #[.int .i64 (u : Int)] 3)).heap.size := Nat.le_trans hbs (by simp)
              have lte : eb < W2.heap.size := World.block_lt_of_cell? _ _ e0
              have ltn : base < W2.heap.size := World.block_lt_of_cell? _ _ f0
              have far2 : some base = (V v).ownBlock → False := fun e => hB2.off v (by omega) base (by rw [hV2]; exact e.symm) rfl
              have far3 : some eb = (V v).ownBlock → False := fun e => by have := HFv.out _ e.symm; omega
              have HB2 : Hid (LAt base W2 base n V2 (upd (nbl L) u (nbl L u ++ [v])) ∧ upd (nbl L) u (nbl L u ++ [v]) v = nbl L v ∧ V2 v = V v) := ⟨hB2, hN2, hV2⟩
              have Hb2 : Hid (Below base w W2) := hb2
              have HK : Hid ((nbl L v).length = K) := hK
              clear hB2 hb2 hown hK hN2 hV2
              obtain ⟨vv, hvv⟩ : ∃ x, V v = x := ⟨_, rfl⟩
              rw [hvv] at f0 hown0 far2 far3
              have HVv : Hid (V v = vv) := hvv
              clear hvv
              go_wp2_with fail
              refine wp_region_noPanic ?_
              refine wp_region_held_drew (S := fun W => W.cell? ⟨eb, 0, none⟩ = some (.int .i64 (u : Nat)) ∧ W.cell? ⟨eb, 1, none⟩ = some (.int .i64 (v : Nat))) (by kernel_rfl) ?hsr (fun hHeld => ?_)
              case hsr => exact ⟨e0, e1⟩
              refine wpAnyH_take (i := 0) (v := ?vr0) rfl (by kernel_rfl) (by kernel_rfl) (by kernel_rfl) (fun _ _ _ h => h) (Or.inl ⟨by rfl, ?yr0⟩) (by assumption) ?_
              case yr0 => intro w hSw; (try dsimp only at hSw); go_simp; (try with_reducible rfl)
              simp only [Act.put, List.setIfInBounds_toArray, List.set_cons_zero, List.set_cons_succ]
              refine wpAnyH_take (i := 1) (v := ?vr1) rfl (by kernel_rfl) (by kernel_rfl) (by kernel_rfl) (fun _ _ _ h => h) (Or.inl ⟨by rfl, ?yr1⟩) (by assumption) ?_
              case yr1 => intro w hSw; (try dsimp only at hSw); go_simp; (try with_reducible rfl)
              simp only [Act.put, List.setIfInBounds_toArray, List.set_cons_zero, List.set_cons_succ]
              refine wpAnyH_take (i := 2) (v := ?vr2) rfl (by kernel_rfl) (by kernel_rfl) (by kernel_rfl) (fun _ _ _ h => h) (Or.inl ⟨by rfl, ?yr2⟩) (by assumption) ?_
              case yr2 => intro w hSw; (try dsimp only at hSw); go_simp; (try with_reducible rfl)
              simp only [Act.put, List.setIfInBounds_toArray, List.set_cons_zero, List.set_cons_succ]
              refine wpAnyH_take (i := 3) (v := ?vr3) rfl (by kernel_rfl) (by kernel_rfl) (by kernel_rfl) (fun _ _ _ h => h) (Or.inl ⟨by rfl, ?yr3⟩) (by assumption) ?_
              case yr3 => intro w hSw; (try dsimp only at hSw); go_simp; (try with_reducible rfl)
              simp only [Act.put, List.setIfInBounds_toArray, List.set_cons_zero, List.set_cons_succ]
              refine wpAnyH_take (i := 4) (v := ?vr4) rfl (by kernel_rfl) (by kernel_rfl) (by kernel_rfl) (fun _ _ _ h => h) (Or.inl ⟨by rfl, ?yr4⟩) (by assumption) ?_
              case yr4 => intro w hSw; (try dsimp only at hSw); go_simp; (try with_reducible rfl)
              simp only [Act.put, List.setIfInBounds_toArray, List.set_cons_zero, List.set_cons_succ]
              refine wpAnyH_take (i := 5) (v := ?vr5) rfl (by kernel_rfl) (by kernel_rfl) (by kernel_rfl) (fun _ _ _ h => h) (Or.inl ⟨by rfl, ?yr5⟩) (by assumption) ?_
              case yr5 => intro w hSw; (try dsimp only at hSw); go_simp; (try with_reducible rfl)
              simp only [Act.put, List.setIfInBounds_toArray, List.set_cons_zero, List.set_cons_succ]
              refine wpAnyH_take (i := 6) (v := ?vr6) rfl (by kernel_rfl) (by kernel_rfl) (by kernel_rfl) (fun _ _ _ h => h) (Or.inl ⟨by rfl, ?yr6⟩) (by assumption) ?_
              case yr6 => intro w hSw; (try dsimp only at hSw); go_simp; (try with_reducible rfl)
              simp only [Act.put, List.setIfInBounds_toArray, List.set_cons_zero, List.set_cons_succ]
              refine wpAnyH_take (i := 8) (v := ?vr8) rfl (by kernel_rfl) (by kernel_rfl) (by kernel_rfl) (fun _ _ _ h => h) (Or.inl ⟨by rfl, ?yr8⟩) (by assumption) ?_
              case yr8 => intro w hSw; (try dsimp only at hSw); go_simp; (try with_reducible rfl)
              simp only [Act.put, List.setIfInBounds_toArray, List.set_cons_zero, List.set_cons_succ]
              refine wpAnyH_take (i := 9) (v := ?vr9) rfl (by kernel_rfl) (by kernel_rfl) (by kernel_rfl) (fun _ _ _ h => h) (Or.inl ⟨by rfl, ?yr9⟩) (by assumption) ?_
              case yr9 => intro w hSw; (try dsimp only at hSw); go_simp; (try with_reducible rfl)
              simp only [Act.put, List.setIfInBounds_toArray, List.set_cons_zero, List.set_cons_succ]
              refine wpAnyH_ready (rs := [7, 10]) (by kernel_rfl) (by simp) ?_
              refine (AllReadyH.cons rfl (fun K9 hK9 => ?rA) (AllReadyH.cons rfl (fun K9 hK9 => ?rB) AllReadyH.nil))
              case rA =>
                go_simp
                refine hK9.out _ _ ?krl (fun hHeld => ?_)
                case krl => exact ⟨e0, e1⟩
                clear hK9
                refine wpAnyH_ready (rs := [10]) (by kernel_rfl) (by simp) ?_
                refine (AllReadyH.cons rfl (fun K9 hK9 => ?rb) AllReadyH.nil)
                case rb =>
                  go_simp
                  refine hK9.out _ _ ?krm (fun hHeld => ?_)
                  case krm => exact ⟨cell_keep hd e0, cell_keep hd e1⟩
                  clear hK9
                  refine wpAnyH_ready (rs := [11]) (by kernel_rfl) (by simp) ?_
                  refine (AllReadyH.cons rfl (fun K9 hK9 => ?rpa) AllReadyH.nil)
                  case rpa =>
                    refine step_append_lies _ (by rfl) (.tmp 36) (.tmp 39) 33 (by rfl) base 3 i9 (.int .i64 0) 1 8 Tryz.underlying33 hj9 hi9 hi91 hi92 rfl (by decide) vv K (ints (nbl L v)) (by simp [Act.eval]) (hown0 _).out ⟨W2.heap.size, 0, none⟩ 1 1 [.int .i64 (u : Int)] (by simp [Act.eval]) rfl (by exact cell_one_new _ _ _) (by simp [Value.oneCell']) (by decide) (by unfold maxLen; omega) (by omega) hbase _ rfl ?_
                    intro g2 cap2 w6 hown2 hgrow hat hlt4
                    have fz6 := frozen_past (a := ⟨base, v, none⟩) hd hgrow ltn far2 (z0 _)
                    have cz6 := (hgrow.cell_far ⟨base, v, none⟩ (by simp; omega) far2).trans (cell_keep hd f0)
                    refine hK9.out _ _ ?krpa (fun hHeld => ?_)
                    case krpa => exact ⟨(hgrow.cell_far ⟨eb, 0, none⟩ (by simp; omega) far3).trans (cell_keep hd e0), (hgrow.cell_far ⟨eb, 1, none⟩ (by simp; omega) far3).trans (cell_keep hd e1)⟩
                    clear hK9
                    simp only [Act.put, List.setIfInBounds_toArray]
                    refine wpAnyH_take (i := 12) (v := ?vrpx) rfl (by kernel_rfl) (by kernel_rfl) (by kernel_rfl) (fun _ _ _ h => h) (Or.inl ⟨by rfl, ?yrpx⟩) (by assumption) ?_
                    case yrpx => intro w hSw; (try dsimp only at hSw); go_simp; (try with_reducible rfl)
                    simp only [Act.put]
                    refine wpAnyH_ready (rs := [13]) (by kernel_rfl) (by simp) ?_
                    refine (AllReadyH.cons rfl (fun K9 hK9 => ?rps) AllReadyH.nil)
                    case rps =>
                      go_simp
                      refine hK9.out _ _ ?krps (fun hHeld => ?_)
                      case krps => exact ⟨(World.cell?_setCell_far _ _ _ _ ene.symm).trans hHeld.1, (World.cell?_setCell_far _ _ _ _ ene.symm).trans hHeld.2⟩
                      clear hK9
                      refine wpAnyH_done (by kernel_rfl) ?_ _
                      refine NoPanic.normal ?_
                      have hB3 := (HB2.out.1.below hd).push (u := v) (K := K) (g1 := g2) (cap := cap2) (x := u) (by omega) (by rw [HB2.out.2.1]; exact HK.out) (by rw [HB2.out.2.1]; exact hown2) (by rw [HB2.out.2.2, HVv.out]; exact hgrow) (by rw [HB2.out.2.2, HVv.out]; exact hat)
                      have hgk : ∀ k, vv.ownBlock = some k → base ≤ k := fun k e => (own_bound (HB2.out.1.own v (by omega)) (by rw [HB2.out.2.2, HVv.out]; exact e)).1
                      have hb3 : Below base w (w6.setCell ⟨base, v, none⟩ (.slice (some ⟨g2, 0, none⟩) (K + 1) cap2)) := ((Hb2.out.trans (hd.mono hbs)).grown hgrow hbase hgk).setCell (Nat.le_refl _) _
                      have hnb : upd (upd (nbl L) u (nbl L u ++ [v])) v (upd (nbl L) u (nbl L u ++ [v]) v ++ [u]) = nbl ((edges f m).take (j + 1)) := by
                        rw [HL.out, HB2.out.2.1]
                        funext i
                        exact (nbl_snoc L u v (by omega) i).symm
                      rw [hnb] at hB3
                      clear hgrow hat hown2 hlt4 fz6 cz6 hHeld e0 e1 f0 z0 hown0 hbs hd hbase lte ltn far2 far3 hnb hgk
                      generalize w6.setCell ⟨base, v, none⟩ (.slice (some ⟨g2, 0, none⟩) (K + 1) cap2) = W3 at hB3 hb3 ⊢
                      have HB3 : Hid (LAt base W3 base n (upd V2 v (.slice (some ⟨g2, 0, none⟩) (K + 1) cap2)) (nbl ((edges f m).take (j + 1))) ∧ Below base w W3) := ⟨hB3, hb3⟩
                      clear hB3 hb3
                      go_wp2_with fail
                      go_roundw
                      case rel => exact ⟨j + 1, by omega, by go_num, _, HB3.out.1, HB3.out.2⟩
                      case measure => simp [intOf]; omega
              case rB =>
                go_simp
                refine hK9.out _ _ ?krn (fun hHeld => ?_)
                case krn => exact ⟨cell_keep hd e0, cell_keep hd e1⟩
                clear hK9
                refine wpAnyH_ready (rs := [7]) (by kernel_rfl) (by simp) ?_
                refine (AllReadyH.cons rfl (fun K9 hK9 => ?rd) AllReadyH.nil)
                case rd =>
                  go_simp
                  refine hK9.out _ _ ?kro (fun hHeld => ?_)
                  case kro => exact ⟨cell_keep hd e0, cell_keep hd e1⟩
                  clear hK9
                  refine wpAnyH_ready (rs := [11]) (by kernel_rfl) (by simp) ?_
                  refine (AllReadyH.cons rfl (fun K9 hK9 => ?rqa) AllReadyH.nil)
                  case rqa =>
                    refine step_append_lies _ (by rfl) (.tmp 36) (.tmp 39) 33 (by rfl) base 3 i9 (.int .i64 0) 1 8 Tryz.underlying33 hj9 hi9 hi91 hi92 rfl (by decide) vv K (ints (nbl L v)) (by simp [Act.eval]) (hown0 _).out ⟨W2.heap.size, 0, none⟩ 1 1 [.int .i64 (u : Int)] (by simp [Act.eval]) rfl (by exact cell_one_new _ _ _) (by simp [Value.oneCell']) (by decide) (by unfold maxLen; omega) (by omega) hbase _ rfl ?_
                    intro g2 cap2 w6 hown2 hgrow hat hlt4
                    have fz6 := frozen_past (a := ⟨base, v, none⟩) hd hgrow ltn far2 (z0 _)
                    have cz6 := (hgrow.cell_far ⟨base, v, none⟩ (by simp; omega) far2).trans (cell_keep hd f0)
                    refine hK9.out _ _ ?krqa (fun hHeld => ?_)
                    case krqa => exact ⟨(hgrow.cell_far ⟨eb, 0, none⟩ (by simp; omega) far3).trans (cell_keep hd e0), (hgrow.cell_far ⟨eb, 1, none⟩ (by simp; omega) far3).trans (cell_keep hd e1)⟩
                    clear hK9
                    simp only [Act.put, List.setIfInBounds_toArray]
                    refine wpAnyH_take (i := 12) (v := ?vrqx) rfl (by kernel_rfl) (by kernel_rfl) (by kernel_rfl) (fun _ _ _ h => h) (Or.inl ⟨by rfl, ?yrqx⟩) (by assumption) ?_
                    case yrqx => intro w hSw; (try dsimp only at hSw); go_simp; (try with_reducible rfl)
                    simp only [Act.put]
                    refine wpAnyH_ready (rs := [13]) (by kernel_rfl) (by simp) ?_
                    refine (AllReadyH.cons rfl (fun K9 hK9 => ?rqs) AllReadyH.nil)
                    case rqs =>
                      go_simp
                      refine hK9.out _ _ ?krqs (fun hHeld => ?_)
                      case krqs => exact ⟨(World.cell?_setCell_far _ _ _ _ ene.symm).trans hHeld.1, (World.cell?_setCell_far _ _ _ _ ene.symm).trans hHeld.2⟩
                      clear hK9
                      refine wpAnyH_done (by kernel_rfl) ?_ _
                      refine NoPanic.normal ?_
                      have hB3 := (HB2.out.1.below hd).push (u := v) (K := K) (g1 := g2) (cap := cap2) (x := u) (by omega) (by rw [HB2.out.2.1]; exact HK.out) (by rw [HB2.out.2.1]; exact hown2) (by rw [HB2.out.2.2, HVv.out]; exact hgrow) (by rw [HB2.out.2.2, HVv.out]; exact hat)
                      have hgk : ∀ k, vv.ownBlock = some k → base ≤ k := fun k e => (own_bound (HB2.out.1.own v (by omega)) (by rw [HB2.out.2.2, HVv.out]; exact e)).1
                      have hb3 : Below base w (w6.setCell ⟨base, v, none⟩ (.slice (some ⟨g2, 0, none⟩) (K + 1) cap2)) := ((Hb2.out.trans (hd.mono hbs)).grown hgrow hbase hgk).setCell (Nat.le_refl _) _
                      have hnb : upd (upd (nbl L) u (nbl L u ++ [v])) v (upd (nbl L) u (nbl L u ++ [v]) v ++ [u]) = nbl ((edges f m).take (j + 1)) := by
                        rw [HL.out, HB2.out.2.1]
                        funext i
                        exact (nbl_snoc L u v (by omega) i).symm
                      rw [hnb] at hB3
                      clear hgrow hat hown2 hlt4 fz6 cz6 hHeld e0 e1 f0 z0 hown0 hbs hd hbase lte ltn far2 far3 hnb hgk
                      generalize w6.setCell ⟨base, v, none⟩ (.slice (some ⟨g2, 0, none⟩) (K + 1) cap2) = W3 at hB3 hb3 ⊢
                      have HB3 : Hid (LAt base W3 base n (upd V2 v (.slice (some ⟨g2, 0, none⟩) (K + 1) cap2)) (nbl ((edges f m).take (j + 1))) ∧ Below base w W3) := ⟨hB3, hb3⟩
                      clear hB3 hb3
                      go_wp2_with fail
                      go_roundw
                      case rel => exact ⟨j + 1, by omega, by go_num, _, HB3.out.1, HB3.out.2⟩
                      case measure => simp [intOf]; omega
    · obtain rfl : j = m := by omega
      rw [List.take_of_length_le (by rw [edges_len]; exact Nat.le_refl _)] at hBr
      have HX : Hid (NearAt wr base n V (nbl (edges f j)) ∧ Below base w wr) := ⟨hBr.near, hbr⟩
      clear hBr hbr
      go_wp2_with fail
      go_ret
      exact ⟨base, V, rfl, HX.out.1, HX.out.2⟩

end Go.Proofs.YtcfemppdeidjmacGreat.Pt
