/-
  Bt Bu Bv
-/
import Derived.Test.YtcfemppdeidjmacGreatW20
namespace Go.Proofs.YtcfemppdeidjmacGreat.Br
set_option linter.unusedSimpArgs false
open Go.RowKit Go.Deep
open Go.RowKit (Below)
set_option linter.unusedVariables false

variable {w w' : World} {f : Nat → Int × Int}

theorem Tryz.infoBNode : (Tryz.prog.info? 101).map (fun i => (i.zero, i.size, i.bytes)) = some (some (.agg #[.slice none 0 0, .int .i64 0, .int .i64 0, .int .i64 0, .int .i64 0, .int .i64 0]), 6, 64) := by kernel_rfl

def zero6 : Array Value := #[.slice none 0 0, .int .i64 0, .int .i64 0, .int .i64 0, .int .i64 0, .int .i64 0]

theorem make_nodes (n : Nat) (hn : n ≤ 60) (W : World) : (Instr.makeSlice 97 (.int .i64 (n : Int)) (.int .i64 (n : Int))).run Tryz.prog W = .ok (.slice (some ⟨W.heap.size, 0, none⟩) n n) (W.alloc (.cells (madeCells zero6 (n * 6)) 101)) := by
  obtain ⟨i, hi, hz⟩ := Option.map_eq_some_iff.1 Tryz.infoBNode
  simp only [Prod.mk.injEq] at hz
  obtain ⟨hz, hs, hb⟩ := hz
  have := run_make (P := Tryz.prog) W 97 101 i _ Tryz.underlying97 hi hz .i64 .i64 n n (by omega) (Int.le_refl _) (by rw [hb]; omega) (by omega)
  rw [hs, show (Value.agg #[.slice none 0 0, .int .i64 0, .int .i64 0, .int .i64 0, .int .i64 0, .int .i64 0]).cells = zero6 by rfl] at this
  simpa using this

theorem made_walker (W : World) (n : Nat) : BAt W.heap.size ((W.alloc (.cells (madeCells zero6 (n * 6)) 101)).alloc (.cells #[.slice (some ⟨W.heap.size, 0, none⟩) n n, .int .i64 0] 162)) (W.heap.size + 1) W.heap.size n (fun _ => .slice none 0 0) (nbl []) := by
  have hc : ∀ i, i < (madeCells zero6 (n * 6)).size → (madeCells zero6 (n * 6))[i]? = some (zero6[i % 6]!) := fun i hi => by
    rw [size_madeCells] at hi
    simp [madeCells, hi, zero6]
  have h1 := World.rowIs_alloc W (madeCells zero6 (n * 6)) 101 (fun i => zero6[i % 6]!) hc
  rw [size_madeCells] at h1
  have h2 := World.rowIs_alloc (W.alloc (.cells (madeCells zero6 (n * 6)) 101)) #[.slice (some ⟨W.heap.size, 0, none⟩) n n, .int .i64 0] 162 (cells2 W.heap.size n 0) (fun i hi => by
    have : i = 0 ∨ i = 1 := by simp at hi; omega
    rcases this with rfl | rfl <;> rfl)
  refine ⟨by simpa using h2, ⟨_, h1.alloc _, fun i hi => ?_⟩, by omega, by omega, Nat.le_refl _, fun i hi => World.ownsRow_nil .., fun i hi k hk => (by cases hk), fun i j hi hj hij k hk => (by cases hk)⟩
  refine ⟨?_, ?_, ?_, ?_, ?_, ?_⟩
  · show zero6[(i * 6) % 6]! = _; rw [show (i * 6) % 6 = 0 by omega]; rfl
  · show zero6[(i * 6 + 1) % 6]! = _; rw [show (i * 6 + 1) % 6 = 1 by omega]; rfl
  · show zero6[(i * 6 + 2) % 6]! = _; rw [show (i * 6 + 2) % 6 = 2 by omega]; rfl
  · show zero6[(i * 6 + 3) % 6]! = _; rw [show (i * 6 + 3) % 6 = 3 by omega]; rfl
  · show zero6[(i * 6 + 4) % 6]! = _; rw [show (i * 6 + 4) % 6 = 4 by omega]; rfl
  · show zero6[(i * 6 + 5) % 6]! = _; rw [show (i * 6 + 5) % 6 = 5 by omega]; rfl

theorem frozen_far {W w1 w2 : World} {r : Option Nat} {a : Addr} (hd : Below W.heap.size W w1) (hg : w1.grownBy w2 r) (hlt : a.block < W.heap.size) (hr : some a.block = r → False) (h : W.frozen? a = false) : w2.frozen? a = false := by
  rw [World.frozen?_of_block (w := w1) (hg.block a.block (Nat.lt_of_lt_of_le hlt hd.size) hr), World.frozen?_of_block (w := W) (hd.block a.block hlt)]
  exact h

set_option maxRecDepth 100000 in
set_option maxHeartbeats 2000000 in
theorem walked_ok {a : Option Addr} {m c n : Nat} {p : Nat → Nat} (h : EgAt w a m f) (hv : Valid (n : Nat) m f) (hp : Rest (edges f m) p) :
    Calls Tryz.prog 52 #[.int .i64 (n : Nat), .slice a m c] w fun e w' => ∃ kw kn V nb s, e = .returned (.tuple #[.slice (some ⟨kn, 0, none⟩) n n, .nilIface]) ∧ WAt w' kw kn n V nb s ∧ Roots (edges f m) n p s n ∧ Below w.heap.size w w' := by
  have hch := check_any (c := c) h (n : Nat)
  have hn0 : 0 < n := by have := hv.1; omega
  have hn60 : n ≤ 60 := by have := hv.1; omega
  have hm200 : m ≤ 200 := hv.2.1
  have hmay : ∀ j, j < m → May n f j := by simpa using hv.2.2
  have HH : Hid (EgAt w a m f) := h
  have HV : Hid (EFault (n : Nat) m f 0 0) := hv.fault
  have HM : Hid (∀ j, j < m → May n f j) := hmay
  have HP : Hid (Rest (edges f m) p) := hp
  have hmk := make_nodes n hn60
  clear h hv hp hmay
  go_enter Tryz.func52, Tryz.ntmps52
  go_wp2_with fail
  refine hch.mono ?_
  rintro e w1 ⟨k1, x1, rfl, hF1, hb1⟩
  obtain ⟨rfl, rfl⟩ := hF1.one HV.out
  have he : errV 0 = .nilIface := if_pos rfl
  rw [he]
  have HB1 : Hid (Below w.heap.size w w1) := hb1
  clear hch hF1 he hb1
  go_wp2_with fail
  have hW0 := made_walker w1 n
  have hB0 : Below w.heap.size w ((w1.alloc (.cells (madeCells zero6 (n * 6)) 101)).alloc (.cells #[.slice (some ⟨w1.heap.size, 0, none⟩) n n, .int .i64 0] 162)) := below_step HB1.out (((Below.refl _ _).alloc (Nat.le_refl _) _).alloc (by simp) _)
  have hbs : w.heap.size ≤ w1.heap.size := HB1.out.size
  generalize (w1.alloc (.cells (madeCells zero6 (n * 6)) 101)).alloc (.cells #[.slice (some ⟨w1.heap.size, 0, none⟩) n n, .int .i64 0] 162) = W0 at hW0 hB0 ⊢
  generalize w1.heap.size + 1 = kw at hW0 ⊢
  obtain ⟨base, hbase⟩ : ∃ b, w1.heap.size = b := ⟨_, rfl⟩
  rw [hbase] at hW0 hbs ⊢
  have HW0 : Hid (BAt base W0 kw base n (fun _ => .slice none 0 0) (nbl [])) := hW0
  have HB0 : Hid (Below w.heap.size w W0) := hB0
  have HBs : Hid (w.heap.size ≤ base) := hbs
  have hkn : base ≤ kw := hW0.bw
  obtain ⟨i9, hj9, hi9, hi91, hi92⟩ := info_parts Tryz.infoInt
  clear hW0 hB0 hbs HB1 hmk hbase
  go_loopw [10, 27] (fun _ i wr => ∃ j : Nat, j ≤ m ∧ i = .int .i64 (j : Nat) ∧ ∃ V, BAt base wr kw base n V (nbl ((edges f m).take j)) ∧ Below w.heap.size w wr) (fun _ i _ => m - (intOf i).toNat)
  case atStart => exact ⟨0, Nat.zero_le _, rfl, _, HW0.out, HB0.out⟩
  case round =>
    obtain ⟨j, hj, rfl, V, hBr, hbr⟩ := hrel
    by_cases hlt : j < m
    · obtain ⟨b, o, rfl, c1, c2⟩ := HH.out.below hbr j hlt
      have hs := (HM.out j hlt).1
      obtain ⟨u, hu⟩ : ∃ u : Nat, (f j).1 = u := ⟨(f j).1.toNat, by unfold Sane at hs; omega⟩
      obtain ⟨v, hv⟩ : ∃ v : Nat, (f j).2 = v := ⟨(f j).2.toNat, by unfold Sane at hs; omega⟩
      have hsuv : u < v ∧ v < n := by unfold Sane at hs; omega
      have hE : (edges f m)[j]? = some (u, v) := by rw [edges_get hlt, hu, hv]; rfl
      rw [hu] at c1
      rw [hv] at c2
      obtain ⟨L, hL⟩ : ∃ L, (edges f m).take j = L := ⟨_, rfl⟩
      have hLl : L.length ≤ 200 := by rw [← hL, List.length_take, edges_len]; omega
      have HL : Hid ((edges f m).take (j + 1) = L ++ [(u, v)]) := show _ = _ by rw [List.take_add_one, hE, hL]; rfl
      rw [hL] at hBr
      have i0 : (0 : Int) ≤ (j : Int) := by omega
      have i1 : (j : Int) < (m : Int) := by omega
      have i2 : (0 : Int) ≤ (u : Int) := by omega
      have i3 : (u : Int) < (n : Int) := by omega
      have i4 : (0 : Int) ≤ (v : Int) := by omega
      have i5 : (v : Int) < (n : Int) := by omega
      have HBr : Hid (Below w.heap.size w wr) := hbr
      have hB1 := hBr.below (below_box wr (.cells #[.int .i64 (u : Int), .int .i64 (v : Int)] 44))
      have hb1 : Below w.heap.size w (wr.alloc (.cells #[.int .i64 (u : Int), .int .i64 (v : Int)] 44)) := below_step hbr (below_box _ _)
      obtain ⟨K, hK⟩ : ∃ K, (nbl L u).length = K := ⟨_, rfl⟩
      have hK2 : K ≤ 200 := by rw [← hK]; exact Nat.le_trans (nbl_len L u) hLl
      have hfar : ∀ k, (V u).ownBlock = some k → k < wr.heap.size := fun k hk => (own_bound (hBr.own u (by omega)) hk).2
      have hfarv : ∀ k, (V v).ownBlock = some k → k < wr.heap.size := fun k hk => (own_bound (hBr.own v (by omega)) hk).2
      have HEbr : Hid (wr.heap.size ≠ base) := show _ ≠ _ by
        obtain ⟨g, hg, -⟩ := hBr.nd
        have := hg.lt
        omega
      clear hs hu hv hE hbr hBr
      go_wp2_with fail
      have e0 : (wr.alloc (.cells #[.int .i64 (u : Int), .int .i64 (v : Int)] 44)).cell? ⟨wr.heap.size, 0, none⟩ = some (.int .i64 (u : Nat)) := by simp
      have e1 : (wr.alloc (.cells #[.int .i64 (u : Int), .int .i64 (v : Int)] 44)).cell? ⟨wr.heap.size, 1, none⟩ = some (.int .i64 (v : Nat)) := by simp
      generalize wr.alloc (.cells #[.int .i64 (u : Int), .int .i64 (v : Int)] 44) = W1 at e0 e1 hB1 hb1 ⊢
      have HEb : Hid (wr.heap.size ≠ base) := HEbr.out
      have HFv : Hid (∀ k, (V v).ownBlock = some k → k < wr.heap.size) := hfarv
      clear hfarv
      generalize wr.heap.size = eb at e0 e1 hfar HEb HFv ⊢
      have k0 := hB1.w0
      have f0 := hB1.f0 (u := u) (by omega)
      have z0 := hB1.fz
      have hown := hB1.own u (by omega)
      rw [hK] at hown
      have hown0 : ∀ o : Obj, Hid ((W1.drew.alloc o).ownsRow base 3 1 (V u) K (ints (nbl L u))) := fun o => hown.alloc o
      have hbs : base ≤ W1.heap.size := by have := hB1.st.lt; omega
      have hd : Below W1.heap.size W1 (W1.drew.alloc (.cells #[.int .i64 (v : Int)] 3)) := ((Below.refl _ _).drew).alloc (by simp) _
      have hbase : base ≤ (W1.drew.alloc (.cells #[.int .i64 (v : Int)] 3)).heap.size := Nat.le_trans hbs (by simp)
      have ltk : kw < W1.heap.size := World.block_lt_of_cell? _ _ k0
      have lte : eb < W1.heap.size := World.block_lt_of_cell? _ _ e0
      have ltn : base < W1.heap.size := World.block_lt_of_cell? _ _ f0
      have far1 : some kw = (V u).ownBlock → False := fun e => (hB1.off u (by omega) kw e.symm).1 rfl
      have far2 : some base = (V u).ownBlock → False := fun e => (hB1.off u (by omega) base e.symm).2 rfl
      have far3 : some eb = (V u).ownBlock → False := fun e => by have := hfar _ e.symm; omega
      have HB1 : Hid (BAt base W1 kw base n V (nbl L)) := hB1
      have Hb1 : Hid (Below w.heap.size w W1) := hb1
      have HK : Hid ((nbl L u).length = K) := hK
      clear hB1 hb1 hown hK
      obtain ⟨vu, hvu⟩ : ∃ x, V u = x := ⟨_, rfl⟩
      rw [hvu] at f0 hown0 far1 far2 far3 hfar
      have HVu : Hid (V u = vu) := hvu
      clear hvu hfar
      have kne : kw ≠ base := HB1.out.ne
      have ene : eb ≠ base := HEb.out
      refine wp_region_noPanic ?_
      refine wp_region_held_drew (S := fun W => W.cell? ⟨kw, 0, none⟩ = some (.slice (some ⟨base, 0, none⟩) n n) ∧ W.cell? ⟨eb, 0, none⟩ = some (.int .i64 (u : Nat)) ∧ W.cell? ⟨eb, 1, none⟩ = some (.int .i64 (v : Nat))) (by kernel_rfl) ?hsg (fun hHeld => ?_)
      case hsg => exact ⟨k0, e0, e1⟩
      refine wpAnyH_take (i := 0) (v := ?vg0) rfl (by kernel_rfl) (by kernel_rfl) (by kernel_rfl) (fun _ _ _ h => h) (Or.inl ⟨by rfl, ?yg0⟩) (by assumption) ?_
      case yg0 => intro w hSw; (try dsimp only at hSw); go_simp; (try with_reducible rfl)
      simp only [Act.put, List.setIfInBounds_toArray, List.set_cons_zero, List.set_cons_succ]
      refine wpAnyH_take (i := 1) (v := ?vg1) rfl (by kernel_rfl) (by kernel_rfl) (by kernel_rfl) (fun _ _ _ h => h) (Or.inl ⟨by rfl, ?yg1⟩) (by assumption) ?_
      case yg1 => intro w hSw; (try dsimp only at hSw); go_simp; (try with_reducible rfl)
      simp only [Act.put, List.setIfInBounds_toArray, List.set_cons_zero, List.set_cons_succ]
      refine wpAnyH_take (i := 2) (v := ?vg2) rfl (by kernel_rfl) (by kernel_rfl) (by kernel_rfl) (fun _ _ _ h => h) (Or.inl ⟨by rfl, ?yg2⟩) (by assumption) ?_
      case yg2 => intro w hSw; (try dsimp only at hSw); go_simp; (try with_reducible rfl)
      simp only [Act.put, List.setIfInBounds_toArray, List.set_cons_zero, List.set_cons_succ]
      refine wpAnyH_take (i := 3) (v := ?vg3) rfl (by kernel_rfl) (by kernel_rfl) (by kernel_rfl) (fun _ _ _ h => h) (Or.inl ⟨by rfl, ?yg3⟩) (by assumption) ?_
      case yg3 => intro w hSw; (try dsimp only at hSw); go_simp; (try with_reducible rfl)
      simp only [Act.put, List.setIfInBounds_toArray, List.set_cons_zero, List.set_cons_succ]
      refine wpAnyH_take (i := 4) (v := ?vg4) rfl (by kernel_rfl) (by kernel_rfl) (by kernel_rfl) (fun _ _ _ h => h) (Or.inl ⟨by rfl, ?yg4⟩) (by assumption) ?_
      case yg4 => intro w hSw; (try dsimp only at hSw); go_simp; (try with_reducible rfl)
      simp only [Act.put, List.setIfInBounds_toArray, List.set_cons_zero, List.set_cons_succ]
      refine wpAnyH_take (i := 5) (v := ?vg5) rfl (by kernel_rfl) (by kernel_rfl) (by kernel_rfl) (fun _ _ _ h => h) (Or.inl ⟨by rfl, ?yg5⟩) (by assumption) ?_
      case yg5 => intro w hSw; (try dsimp only at hSw); go_simp; (try with_reducible rfl)
      simp only [Act.put, List.setIfInBounds_toArray, List.set_cons_zero, List.set_cons_succ]
      refine wpAnyH_take (i := 6) (v := ?vg6) rfl (by kernel_rfl) (by kernel_rfl) (by kernel_rfl) (fun _ _ _ h => h) (Or.inl ⟨by rfl, ?yg6⟩) (by assumption) ?_
      case yg6 => intro w hSw; (try dsimp only at hSw); go_simp; (try with_reducible rfl)
      simp only [Act.put, List.setIfInBounds_toArray, List.set_cons_zero, List.set_cons_succ]
      refine wpAnyH_take (i := 7) (v := ?vg7) rfl (by kernel_rfl) (by kernel_rfl) (by kernel_rfl) (fun _ _ _ h => h) (Or.inl ⟨by rfl, ?yg7⟩) (by assumption) ?_
      case yg7 => intro w hSw; (try dsimp only at hSw); go_simp; (try with_reducible rfl)
      simp only [Act.put, List.setIfInBounds_toArray, List.set_cons_zero, List.set_cons_succ]
      refine wpAnyH_take (i := 8) (v := ?vg8) rfl (by kernel_rfl) (by kernel_rfl) (by kernel_rfl) (fun _ _ _ h => h) (Or.inl ⟨by rfl, ?yg8⟩) (by assumption) ?_
      case yg8 => intro w hSw; (try dsimp only at hSw); go_simp; (try with_reducible rfl)
      simp only [Act.put, List.setIfInBounds_toArray, List.set_cons_zero, List.set_cons_succ]
      refine wpAnyH_take (i := 9) (v := ?vg9) rfl (by kernel_rfl) (by kernel_rfl) (by kernel_rfl) (fun _ _ _ h => h) (Or.inl ⟨by rfl, ?yg9⟩) (by assumption) ?_
      case yg9 => intro w hSw; (try dsimp only at hSw); go_simp; (try with_reducible rfl)
      simp only [Act.put, List.setIfInBounds_toArray, List.set_cons_zero, List.set_cons_succ]
      refine wpAnyH_take (i := 10) (v := ?vg10) rfl (by kernel_rfl) (by kernel_rfl) (by kernel_rfl) (fun _ _ _ h => h) (Or.inl ⟨by rfl, ?yg10⟩) (by assumption) ?_
      case yg10 => intro w hSw; (try dsimp only at hSw); go_simp; (try with_reducible rfl)
      simp only [Act.put, List.setIfInBounds_toArray, List.set_cons_zero, List.set_cons_succ]
      refine wpAnyH_take (i := 11) (v := ?vg11) rfl (by kernel_rfl) (by kernel_rfl) (by kernel_rfl) (fun _ _ _ h => h) (Or.inl ⟨by rfl, ?yg11⟩) (by assumption) ?_
      case yg11 => intro w hSw; (try dsimp only at hSw); go_simp; (try with_reducible rfl)
      simp only [Act.put, List.setIfInBounds_toArray, List.set_cons_zero, List.set_cons_succ]
      refine wpAnyH_take (i := 12) (v := ?vg12) rfl (by kernel_rfl) (by kernel_rfl) (by kernel_rfl) (fun _ _ _ h => h) (Or.inl ⟨by rfl, ?yg12⟩) (by assumption) ?_
      case yg12 => intro w hSw; (try dsimp only at hSw); go_simp; (try with_reducible rfl)
      simp only [Act.put, List.setIfInBounds_toArray, List.set_cons_zero, List.set_cons_succ]
      refine wpAnyH_take (i := 13) (v := ?vg13) rfl (by kernel_rfl) (by kernel_rfl) (by kernel_rfl) (fun _ _ _ h => h) (Or.inl ⟨by rfl, ?yg13⟩) (by assumption) ?_
      case yg13 => intro w hSw; (try dsimp only at hSw); go_simp; (try with_reducible rfl)
      simp only [Act.put, List.setIfInBounds_toArray, List.set_cons_zero, List.set_cons_succ]
      refine wpAnyH_take (i := 15) (v := ?vg15) rfl (by kernel_rfl) (by kernel_rfl) (by kernel_rfl) (fun _ _ _ h => h) (Or.inl ⟨by rfl, ?yg15⟩) (by assumption) ?_
      case yg15 => intro w hSw; (try dsimp only at hSw); go_simp; (try with_reducible rfl)
      simp only [Act.put, List.setIfInBounds_toArray, List.set_cons_zero, List.set_cons_succ]
      refine wpAnyH_take (i := 16) (v := ?vg16) rfl (by kernel_rfl) (by kernel_rfl) (by kernel_rfl) (fun _ _ _ h => h) (Or.inl ⟨by rfl, ?yg16⟩) (by assumption) ?_
      case yg16 => intro w hSw; (try dsimp only at hSw); go_simp; (try with_reducible rfl)
      simp only [Act.put, List.setIfInBounds_toArray, List.set_cons_zero, List.set_cons_succ]
      refine wpAnyH_ready (rs := [14, 17]) (by kernel_rfl) (by simp) ?_
      refine (AllReadyH.cons rfl (fun K9 hK9 => ?gA) (AllReadyH.cons rfl (fun K9 hK9 => ?gB) AllReadyH.nil))
      case gA =>
        go_simp
        refine hK9.out _ _ ?kgl (fun hHeld => ?_)
        case kgl => exact ⟨k0, e0, e1⟩
        clear hK9
        refine wpAnyH_ready (rs := [17]) (by kernel_rfl) (by simp) ?_
        refine (AllReadyH.cons rfl (fun K9 hK9 => ?gb) AllReadyH.nil)
        case gb =>
          go_simp
          refine hK9.out _ _ ?kgm (fun hHeld => ?_)
          case kgm => exact ⟨cell_keep hd k0, cell_keep hd e0, cell_keep hd e1⟩
          clear hK9
          refine wpAnyH_ready (rs := [18]) (by kernel_rfl) (by simp) ?_
          refine (AllReadyH.cons rfl (fun K9 hK9 => ?gpa) AllReadyH.nil)
          case gpa =>
            refine step_append_lies _ (by rfl) (.tmp 45) (.tmp 48) 33 (by rfl) base 3 i9 (.int .i64 0) 1 8 Tryz.underlying33 hj9 hi9 hi91 hi92 rfl (by decide) vu K (ints (nbl L u)) (by simp [Act.eval]) (hown0 _).out ⟨W1.heap.size, 0, none⟩ 1 1 [.int .i64 (v : Int)] (by simp [Act.eval]) rfl (by exact cell_one_new _ _ _) (by simp [Value.oneCell']) (by decide) (by unfold maxLen; omega) (by omega) hbase _ rfl ?_
            intro g2 cap2 w6 hown2 hgrow hat hlt4
            have fz6 := frozen_far (a := ⟨base, u * 6, none⟩) hd hgrow ltn far2 (z0 _)
            have cz6 := (hgrow.cell_far ⟨base, u * 6, none⟩ (by simp; omega) far2).trans (cell_keep hd f0)
            refine hK9.out _ _ ?kgpa (fun hHeld => ?_)
            case kgpa => exact ⟨(hgrow.cell_far ⟨kw, 0, none⟩ (by simp; omega) far1).trans (cell_keep hd k0), (hgrow.cell_far ⟨eb, 0, none⟩ (by simp; omega) far3).trans (cell_keep hd e0), (hgrow.cell_far ⟨eb, 1, none⟩ (by simp; omega) far3).trans (cell_keep hd e1)⟩
            clear hK9
            simp only [Act.put, List.setIfInBounds_toArray]
            refine wpAnyH_take (i := 19) (v := ?vgpx) rfl (by kernel_rfl) (by kernel_rfl) (by kernel_rfl) (fun _ _ _ h => h) (Or.inl ⟨by rfl, ?ygpx⟩) (by assumption) ?_
            case ygpx => intro w hSw; (try dsimp only at hSw); go_simp; (try with_reducible rfl)
            simp only [Act.put]
            refine wpAnyH_take (i := 20) (v := ?vgpy) rfl (by kernel_rfl) (by kernel_rfl) (by kernel_rfl) (fun _ _ _ h => h) (Or.inl ⟨by rfl, ?ygpy⟩) (by assumption) ?_
            case ygpy => intro w hSw; (try dsimp only at hSw); go_simp; (try with_reducible rfl)
            simp only [Act.put]
            refine wpAnyH_ready (rs := [21]) (by kernel_rfl) (by simp) ?_
            refine (AllReadyH.cons rfl (fun K9 hK9 => ?gps) AllReadyH.nil)
            case gps =>
              go_simp
              refine hK9.out _ _ ?kgps (fun hHeld => ?_)
              case kgps => exact ⟨(World.cell?_setCell_far _ _ _ _ kne.symm).trans hHeld.1, (World.cell?_setCell_far _ _ _ _ ene.symm).trans hHeld.2.1, (World.cell?_setCell_far _ _ _ _ ene.symm).trans hHeld.2.2⟩
              clear hK9
              refine wpAnyH_done (by kernel_rfl) ?_ _
              refine NoPanic.normal ?_
              have hP := (HB1.out.below hd).push (u := u) (K := K) (g1 := g2) (cap := cap2) (x := v) (by omega) HK.out hown2 (by rw [HVu.out]; exact hgrow) (by rw [HVu.out]; exact hat)
              have hB2 := hP.2
              have hb2 : Below w.heap.size w (w6.setCell ⟨base, u * 6, none⟩ (.slice (some ⟨g2, 0, none⟩) (K + 1) cap2)) := ((below_step Hb1.out hd).grown hgrow (Nat.le_trans HBs.out hbase) (fun k e => by
                have := (own_bound (HB1.out.own u (by omega)) (by rw [HVu.out]; exact e)).1
                have := HBs.out
                omega)).setCell HBs.out _
              have k0' := hHeld.1
              have e0' := hHeld.2.1
              have e1' := hHeld.2.2
              clear hP hgrow hat hown2 hlt4 fz6 cz6 hHeld k0 e0 e1 f0 z0 hown0 hbs hd hbase ltk lte ltn far1 far2 far3 HB1 Hb1 HK hK2
              have hV2 : upd V u (.slice (some ⟨g2, 0, none⟩) (K + 1) cap2) v = V v := upd_ne _ _ (by omega)
              have hN2 : upd (nbl L) u (nbl L u ++ [v]) v = nbl L v := upd_ne _ _ (by omega)
              generalize w6.setCell ⟨base, u * 6, none⟩ (.slice (some ⟨g2, 0, none⟩) (K + 1) cap2) = W2 at hB2 hb2 k0' e0' e1' ⊢
              generalize upd V u (.slice (some ⟨g2, 0, none⟩) (K + 1) cap2) = V2 at hB2 hV2
              generalize (Value.slice (some ⟨g2, 0, none⟩) (K + 1) cap2) = v2
              clear HVu
              have k0 := k0'
              have e0 := e0'
              have e1 := e1'
              clear k0' e0' e1'
              obtain ⟨K, hK⟩ : ∃ K, (nbl L v).length = K := ⟨_, rfl⟩
              have hK2 : K ≤ 200 := by rw [← hK]; exact Nat.le_trans (nbl_len L v) hLl
              have f0 := hB2.f0 (u := v) (by omega)
              rw [hV2] at f0
              have z0 := hB2.fz
              have hown := hB2.own v (by omega)
              rw [hV2, hN2, hK] at hown
              have hown0 : ∀ o : Obj, Hid ((W2.drew.alloc o).ownsRow base 3 1 (V v) K (ints (nbl L v))) := fun o => hown.alloc o
              have hbs : base ≤ W2.heap.size := by have := hB2.st.lt; omega
              have hd : Below W2.heap.size W2 (W2.drew.alloc (.cells #[.int .i64 (u : Int)] 3)) := ((Below.refl _ _).drew).alloc (by simp) _
              have hbase : base ≤ (W2.drew.alloc (.cells #[.int .i64 (u : Int)] 3)).heap.size := Nat.le_trans hbs (by simp)
              have ltk : kw < W2.heap.size := World.block_lt_of_cell? _ _ k0
              have lte : eb < W2.heap.size := World.block_lt_of_cell? _ _ e0
              have ltn : base < W2.heap.size := World.block_lt_of_cell? _ _ f0
              have far1 : some kw = (V v).ownBlock → False := fun e => (hB2.off v (by omega) kw (by rw [hV2]; exact e.symm)).1 rfl
              have far2 : some base = (V v).ownBlock → False := fun e => (hB2.off v (by omega) base (by rw [hV2]; exact e.symm)).2 rfl
              have far3 : some eb = (V v).ownBlock → False := fun e => by have := HFv.out _ e.symm; omega
              have HB2 : Hid (BAt base W2 kw base n V2 (upd (nbl L) u (nbl L u ++ [v])) ∧ upd (nbl L) u (nbl L u ++ [v]) v = nbl L v ∧ V2 v = V v) := ⟨hB2, hN2, hV2⟩
              have Hb2 : Hid (Below w.heap.size w W2) := hb2
              have HK : Hid ((nbl L v).length = K) := hK
              clear hB2 hb2 hown hK hN2 hV2
              obtain ⟨vv, hvv⟩ : ∃ x, V v = x := ⟨_, rfl⟩
              rw [hvv] at f0 hown0 far1 far2 far3
              have HVv : Hid (V v = vv) := hvv
              clear hvv
              go_wp2_with fail
              refine wp_region_noPanic ?_
              refine wp_region_held_drew (S := fun W => W.cell? ⟨kw, 0, none⟩ = some (.slice (some ⟨base, 0, none⟩) n n) ∧ W.cell? ⟨eb, 0, none⟩ = some (.int .i64 (u : Nat)) ∧ W.cell? ⟨eb, 1, none⟩ = some (.int .i64 (v : Nat))) (by kernel_rfl) ?hsr (fun hHeld => ?_)
              case hsr => exact ⟨k0, e0, e1⟩
              refine wpAnyH_take (i := 0) (v := ?vr0) rfl (by kernel_rfl) (by kernel_rfl) (by kernel_rfl) (fun _ _ _ h => h) (Or.inl ⟨by rfl, ?yr0⟩) (by assumption) ?_
              case yr0 => intro w hSw; (try dsimp only at hSw); go_simp; (try with_reducible rfl)
              simp only [Act.put, List.setIfInBounds_toArray, List.set_cons_zero, List.set_cons_succ]
              refine wpAnyH_take (i := 1) (v := ?vr1) rfl (by kernel_rfl) (by kernel_rfl) (by kernel_rfl) (fun _ _ _ h => h) (Or.inl ⟨by rfl, ?yr1⟩) (by assumption) ?_
              case yr1 => intro w hSw; (try dsimp only at hSw); go_simp; (try with_reducible rfl)
              simp only [Act.put, List.setIfInBounds_toArray, List.set_cons_zero, List.set_cons_succ]
              refine wpAnyH_take (i := 2) (v := ?vr2) rfl (by kernel_rfl) (by kernel_rfl) (by kernel_rfl) (fun _ _ _ h => h) (Or.inl ⟨by rfl, ?yr2⟩) (by assumption) ?_
              case yr2 => intro w hSw; (try dsimp only at hSw); go_simp; (try with_reducible rfl)
              simp only [Act.put, List.setIfInBounds_toArray, List.set_cons_zero, List.set_cons_succ]
              refine wpAnyH_take (i := 3) (v := ?vr3) rfl (by kernel_rfl) (by kernel_rfl) (by kernel_rfl) (fun _ _ _ h => h) (Or.inl ⟨by rfl, ?yr3⟩) (by assumption) ?_
              case yr3 => intro w hSw; (try dsimp only at hSw); go_simp; (try with_reducible rfl)
              simp only [Act.put, List.setIfInBounds_toArray, List.set_cons_zero, List.set_cons_succ]
              refine wpAnyH_take (i := 4) (v := ?vr4) rfl (by kernel_rfl) (by kernel_rfl) (by kernel_rfl) (fun _ _ _ h => h) (Or.inl ⟨by rfl, ?yr4⟩) (by assumption) ?_
              case yr4 => intro w hSw; (try dsimp only at hSw); go_simp; (try with_reducible rfl)
              simp only [Act.put, List.setIfInBounds_toArray, List.set_cons_zero, List.set_cons_succ]
              refine wpAnyH_take (i := 5) (v := ?vr5) rfl (by kernel_rfl) (by kernel_rfl) (by kernel_rfl) (fun _ _ _ h => h) (Or.inl ⟨by rfl, ?yr5⟩) (by assumption) ?_
              case yr5 => intro w hSw; (try dsimp only at hSw); go_simp; (try with_reducible rfl)
              simp only [Act.put, List.setIfInBounds_toArray, List.set_cons_zero, List.set_cons_succ]
              refine wpAnyH_take (i := 6) (v := ?vr6) rfl (by kernel_rfl) (by kernel_rfl) (by kernel_rfl) (fun _ _ _ h => h) (Or.inl ⟨by rfl, ?yr6⟩) (by assumption) ?_
              case yr6 => intro w hSw; (try dsimp only at hSw); go_simp; (try with_reducible rfl)
              simp only [Act.put, List.setIfInBounds_toArray, List.set_cons_zero, List.set_cons_succ]
              refine wpAnyH_take (i := 7) (v := ?vr7) rfl (by kernel_rfl) (by kernel_rfl) (by kernel_rfl) (fun _ _ _ h => h) (Or.inl ⟨by rfl, ?yr7⟩) (by assumption) ?_
              case yr7 => intro w hSw; (try dsimp only at hSw); go_simp; (try with_reducible rfl)
              simp only [Act.put, List.setIfInBounds_toArray, List.set_cons_zero, List.set_cons_succ]
              refine wpAnyH_take (i := 8) (v := ?vr8) rfl (by kernel_rfl) (by kernel_rfl) (by kernel_rfl) (fun _ _ _ h => h) (Or.inl ⟨by rfl, ?yr8⟩) (by assumption) ?_
              case yr8 => intro w hSw; (try dsimp only at hSw); go_simp; (try with_reducible rfl)
              simp only [Act.put, List.setIfInBounds_toArray, List.set_cons_zero, List.set_cons_succ]
              refine wpAnyH_take (i := 9) (v := ?vr9) rfl (by kernel_rfl) (by kernel_rfl) (by kernel_rfl) (fun _ _ _ h => h) (Or.inl ⟨by rfl, ?yr9⟩) (by assumption) ?_
              case yr9 => intro w hSw; (try dsimp only at hSw); go_simp; (try with_reducible rfl)
              simp only [Act.put, List.setIfInBounds_toArray, List.set_cons_zero, List.set_cons_succ]
              refine wpAnyH_take (i := 10) (v := ?vr10) rfl (by kernel_rfl) (by kernel_rfl) (by kernel_rfl) (fun _ _ _ h => h) (Or.inl ⟨by rfl, ?yr10⟩) (by assumption) ?_
              case yr10 => intro w hSw; (try dsimp only at hSw); go_simp; (try with_reducible rfl)
              simp only [Act.put, List.setIfInBounds_toArray, List.set_cons_zero, List.set_cons_succ]
              refine wpAnyH_take (i := 11) (v := ?vr11) rfl (by kernel_rfl) (by kernel_rfl) (by kernel_rfl) (fun _ _ _ h => h) (Or.inl ⟨by rfl, ?yr11⟩) (by assumption) ?_
              case yr11 => intro w hSw; (try dsimp only at hSw); go_simp; (try with_reducible rfl)
              simp only [Act.put, List.setIfInBounds_toArray, List.set_cons_zero, List.set_cons_succ]
              refine wpAnyH_take (i := 12) (v := ?vr12) rfl (by kernel_rfl) (by kernel_rfl) (by kernel_rfl) (fun _ _ _ h => h) (Or.inl ⟨by rfl, ?yr12⟩) (by assumption) ?_
              case yr12 => intro w hSw; (try dsimp only at hSw); go_simp; (try with_reducible rfl)
              simp only [Act.put, List.setIfInBounds_toArray, List.set_cons_zero, List.set_cons_succ]
              refine wpAnyH_take (i := 13) (v := ?vr13) rfl (by kernel_rfl) (by kernel_rfl) (by kernel_rfl) (fun _ _ _ h => h) (Or.inl ⟨by rfl, ?yr13⟩) (by assumption) ?_
              case yr13 => intro w hSw; (try dsimp only at hSw); go_simp; (try with_reducible rfl)
              simp only [Act.put, List.setIfInBounds_toArray, List.set_cons_zero, List.set_cons_succ]
              refine wpAnyH_take (i := 15) (v := ?vr15) rfl (by kernel_rfl) (by kernel_rfl) (by kernel_rfl) (fun _ _ _ h => h) (Or.inl ⟨by rfl, ?yr15⟩) (by assumption) ?_
              case yr15 => intro w hSw; (try dsimp only at hSw); go_simp; (try with_reducible rfl)
              simp only [Act.put, List.setIfInBounds_toArray, List.set_cons_zero, List.set_cons_succ]
              refine wpAnyH_take (i := 16) (v := ?vr16) rfl (by kernel_rfl) (by kernel_rfl) (by kernel_rfl) (fun _ _ _ h => h) (Or.inl ⟨by rfl, ?yr16⟩) (by assumption) ?_
              case yr16 => intro w hSw; (try dsimp only at hSw); go_simp; (try with_reducible rfl)
              simp only [Act.put, List.setIfInBounds_toArray, List.set_cons_zero, List.set_cons_succ]
              refine wpAnyH_ready (rs := [14, 17]) (by kernel_rfl) (by simp) ?_
              refine (AllReadyH.cons rfl (fun K9 hK9 => ?rA) (AllReadyH.cons rfl (fun K9 hK9 => ?rB) AllReadyH.nil))
              case rA =>
                go_simp
                refine hK9.out _ _ ?krl (fun hHeld => ?_)
                case krl => exact ⟨k0, e0, e1⟩
                clear hK9
                refine wpAnyH_ready (rs := [17]) (by kernel_rfl) (by simp) ?_
                refine (AllReadyH.cons rfl (fun K9 hK9 => ?rb) AllReadyH.nil)
                case rb =>
                  go_simp
                  refine hK9.out _ _ ?krm (fun hHeld => ?_)
                  case krm => exact ⟨cell_keep hd k0, cell_keep hd e0, cell_keep hd e1⟩
                  clear hK9
                  refine wpAnyH_ready (rs := [18]) (by kernel_rfl) (by simp) ?_
                  refine (AllReadyH.cons rfl (fun K9 hK9 => ?rpa) AllReadyH.nil)
                  case rpa =>
                    refine step_append_lies _ (by rfl) (.tmp 66) (.tmp 69) 33 (by rfl) base 3 i9 (.int .i64 0) 1 8 Tryz.underlying33 hj9 hi9 hi91 hi92 rfl (by decide) vv K (ints (nbl L v)) (by simp [Act.eval]) (hown0 _).out ⟨W2.heap.size, 0, none⟩ 1 1 [.int .i64 (u : Int)] (by simp [Act.eval]) rfl (by exact cell_one_new _ _ _) (by simp [Value.oneCell']) (by decide) (by unfold maxLen; omega) (by omega) hbase _ rfl ?_
                    intro g2 cap2 w6 hown2 hgrow hat hlt4
                    have fz6 := frozen_far (a := ⟨base, v * 6, none⟩) hd hgrow ltn far2 (z0 _)
                    have cz6 := (hgrow.cell_far ⟨base, v * 6, none⟩ (by simp; omega) far2).trans (cell_keep hd f0)
                    refine hK9.out _ _ ?krpa (fun hHeld => ?_)
                    case krpa => exact ⟨(hgrow.cell_far ⟨kw, 0, none⟩ (by simp; omega) far1).trans (cell_keep hd k0), (hgrow.cell_far ⟨eb, 0, none⟩ (by simp; omega) far3).trans (cell_keep hd e0), (hgrow.cell_far ⟨eb, 1, none⟩ (by simp; omega) far3).trans (cell_keep hd e1)⟩
                    clear hK9
                    simp only [Act.put, List.setIfInBounds_toArray]
                    refine wpAnyH_take (i := 19) (v := ?vrpx) rfl (by kernel_rfl) (by kernel_rfl) (by kernel_rfl) (fun _ _ _ h => h) (Or.inl ⟨by rfl, ?yrpx⟩) (by assumption) ?_
                    case yrpx => intro w hSw; (try dsimp only at hSw); go_simp; (try with_reducible rfl)
                    simp only [Act.put]
                    refine wpAnyH_take (i := 20) (v := ?vrpy) rfl (by kernel_rfl) (by kernel_rfl) (by kernel_rfl) (fun _ _ _ h => h) (Or.inl ⟨by rfl, ?yrpy⟩) (by assumption) ?_
                    case yrpy => intro w hSw; (try dsimp only at hSw); go_simp; (try with_reducible rfl)
                    simp only [Act.put]
                    refine wpAnyH_ready (rs := [21]) (by kernel_rfl) (by simp) ?_
                    refine (AllReadyH.cons rfl (fun K9 hK9 => ?rps) AllReadyH.nil)
                    case rps =>
                      go_simp
                      refine hK9.out _ _ ?krps (fun hHeld => ?_)
                      case krps => exact ⟨(World.cell?_setCell_far _ _ _ _ kne.symm).trans hHeld.1, (World.cell?_setCell_far _ _ _ _ ene.symm).trans hHeld.2.1, (World.cell?_setCell_far _ _ _ _ ene.symm).trans hHeld.2.2⟩
                      clear hK9
                      refine wpAnyH_done (by kernel_rfl) ?_ _
                      refine NoPanic.normal ?_
                      have hP := (HB2.out.1.below hd).push (u := v) (K := K) (g1 := g2) (cap := cap2) (x := u) (by omega) (by rw [HB2.out.2.1]; exact HK.out) (by rw [HB2.out.2.1]; exact hown2) (by rw [HB2.out.2.2, HVv.out]; exact hgrow) (by rw [HB2.out.2.2, HVv.out]; exact hat)
                      have hB3 := hP.2
                      have hb3 : Below w.heap.size w (w6.setCell ⟨base, v * 6, none⟩ (.slice (some ⟨g2, 0, none⟩) (K + 1) cap2)) := ((below_step Hb2.out hd).grown hgrow (Nat.le_trans HBs.out hbase) (fun k e => by
                        have := (own_bound (HB2.out.1.own v (by omega)) (by rw [HB2.out.2.2, HVv.out]; exact e)).1
                        have := HBs.out
                        omega)).setCell HBs.out _
                      have hnb : upd (upd (nbl L) u (nbl L u ++ [v])) v (upd (nbl L) u (nbl L u ++ [v]) v ++ [u]) = nbl ((edges f m).take (j + 1)) := by
                        rw [HL.out, HB2.out.2.1]
                        funext i
                        exact (nbl_snoc L u v (by omega) i).symm
                      rw [hnb] at hB3
                      clear hP hgrow hat hown2 hlt4 fz6 cz6 hHeld k0 e0 e1 f0 z0 hown0 hbs hd hbase ltk lte ltn far1 far2 far3 hnb
                      generalize w6.setCell ⟨base, v * 6, none⟩ (.slice (some ⟨g2, 0, none⟩) (K + 1) cap2) = W3 at hB3 hb3 ⊢
                      have HB3 : Hid (BAt base W3 kw base n (upd V2 v (.slice (some ⟨g2, 0, none⟩) (K + 1) cap2)) (nbl ((edges f m).take (j + 1))) ∧ Below w.heap.size w W3) := ⟨hB3, hb3⟩
                      clear hB3 hb3
                      go_wp2_with fail
                      go_roundw
                      case rel => exact ⟨j + 1, by omega, by go_num, _, HB3.out.1, HB3.out.2⟩
                      case measure => simp [intOf]; omega
              case rB =>
                go_simp
                refine hK9.out _ _ ?krn (fun hHeld => ?_)
                case krn => exact ⟨cell_keep hd k0, cell_keep hd e0, cell_keep hd e1⟩
                clear hK9
                refine wpAnyH_ready (rs := [14]) (by kernel_rfl) (by simp) ?_
                refine (AllReadyH.cons rfl (fun K9 hK9 => ?rd) AllReadyH.nil)
                case rd =>
                  go_simp
                  refine hK9.out _ _ ?kro (fun hHeld => ?_)
                  case kro => exact ⟨cell_keep hd k0, cell_keep hd e0, cell_keep hd e1⟩
                  clear hK9
                  refine wpAnyH_ready (rs := [18]) (by kernel_rfl) (by simp) ?_
                  refine (AllReadyH.cons rfl (fun K9 hK9 => ?rqa) AllReadyH.nil)
                  case rqa =>
                    refine step_append_lies _ (by rfl) (.tmp 66) (.tmp 69) 33 (by rfl) base 3 i9 (.int .i64 0) 1 8 Tryz.underlying33 hj9 hi9 hi91 hi92 rfl (by decide) vv K (ints (nbl L v)) (by simp [Act.eval]) (hown0 _).out ⟨W2.heap.size, 0, none⟩ 1 1 [.int .i64 (u : Int)] (by simp [Act.eval]) rfl (by exact cell_one_new _ _ _) (by simp [Value.oneCell']) (by decide) (by unfold maxLen; omega) (by omega) hbase _ rfl ?_
                    intro g2 cap2 w6 hown2 hgrow hat hlt4
                    have fz6 := frozen_far (a := ⟨base, v * 6, none⟩) hd hgrow ltn far2 (z0 _)
                    have cz6 := (hgrow.cell_far ⟨base, v * 6, none⟩ (by simp; omega) far2).trans (cell_keep hd f0)
                    refine hK9.out _ _ ?krqa (fun hHeld => ?_)
                    case krqa => exact ⟨(hgrow.cell_far ⟨kw, 0, none⟩ (by simp; omega) far1).trans (cell_keep hd k0), (hgrow.cell_far ⟨eb, 0, none⟩ (by simp; omega) far3).trans (cell_keep hd e0), (hgrow.cell_far ⟨eb, 1, none⟩ (by simp; omega) far3).trans (cell_keep hd e1)⟩
                    clear hK9
                    simp only [Act.put, List.setIfInBounds_toArray]
                    refine wpAnyH_take (i := 19) (v := ?vrqx) rfl (by kernel_rfl) (by kernel_rfl) (by kernel_rfl) (fun _ _ _ h => h) (Or.inl ⟨by rfl, ?yrqx⟩) (by assumption) ?_
                    case yrqx => intro w hSw; (try dsimp only at hSw); go_simp; (try with_reducible rfl)
                    simp only [Act.put]
                    refine wpAnyH_take (i := 20) (v := ?vrqy) rfl (by kernel_rfl) (by kernel_rfl) (by kernel_rfl) (fun _ _ _ h => h) (Or.inl ⟨by rfl, ?yrqy⟩) (by assumption) ?_
                    case yrqy => intro w hSw; (try dsimp only at hSw); go_simp; (try with_reducible rfl)
                    simp only [Act.put]
                    refine wpAnyH_ready (rs := [21]) (by kernel_rfl) (by simp) ?_
                    refine (AllReadyH.cons rfl (fun K9 hK9 => ?rqs) AllReadyH.nil)
                    case rqs =>
                      go_simp
                      refine hK9.out _ _ ?krqs (fun hHeld => ?_)
                      case krqs => exact ⟨(World.cell?_setCell_far _ _ _ _ kne.symm).trans hHeld.1, (World.cell?_setCell_far _ _ _ _ ene.symm).trans hHeld.2.1, (World.cell?_setCell_far _ _ _ _ ene.symm).trans hHeld.2.2⟩
                      clear hK9
                      refine wpAnyH_done (by kernel_rfl) ?_ _
                      refine NoPanic.normal ?_
                      have hP := (HB2.out.1.below hd).push (u := v) (K := K) (g1 := g2) (cap := cap2) (x := u) (by omega) (by rw [HB2.out.2.1]; exact HK.out) (by rw [HB2.out.2.1]; exact hown2) (by rw [HB2.out.2.2, HVv.out]; exact hgrow) (by rw [HB2.out.2.2, HVv.out]; exact hat)
                      have hB3 := hP.2
                      have hb3 : Below w.heap.size w (w6.setCell ⟨base, v * 6, none⟩ (.slice (some ⟨g2, 0, none⟩) (K + 1) cap2)) := ((below_step Hb2.out hd).grown hgrow (Nat.le_trans HBs.out hbase) (fun k e => by
                        have := (own_bound (HB2.out.1.own v (by omega)) (by rw [HB2.out.2.2, HVv.out]; exact e)).1
                        have := HBs.out
                        omega)).setCell HBs.out _
                      have hnb : upd (upd (nbl L) u (nbl L u ++ [v])) v (upd (nbl L) u (nbl L u ++ [v]) v ++ [u]) = nbl ((edges f m).take (j + 1)) := by
                        rw [HL.out, HB2.out.2.1]
                        funext i
                        exact (nbl_snoc L u v (by omega) i).symm
                      rw [hnb] at hB3
                      clear hP hgrow hat hown2 hlt4 fz6 cz6 hHeld k0 e0 e1 f0 z0 hown0 hbs hd hbase ltk lte ltn far1 far2 far3 hnb
                      generalize w6.setCell ⟨base, v * 6, none⟩ (.slice (some ⟨g2, 0, none⟩) (K + 1) cap2) = W3 at hB3 hb3 ⊢
                      have HB3 : Hid (BAt base W3 kw base n (upd V2 v (.slice (some ⟨g2, 0, none⟩) (K + 1) cap2)) (nbl ((edges f m).take (j + 1))) ∧ Below w.heap.size w W3) := ⟨hB3, hb3⟩
                      clear hB3 hb3
                      go_wp2_with fail
                      go_roundw
                      case rel => exact ⟨j + 1, by omega, by go_num, _, HB3.out.1, HB3.out.2⟩
                      case measure => simp [intOf]; omega
      case gB =>
        go_simp
        refine hK9.out _ _ ?kgn (fun hHeld => ?_)
        case kgn => exact ⟨cell_keep hd k0, cell_keep hd e0, cell_keep hd e1⟩
        clear hK9
        refine wpAnyH_ready (rs := [14]) (by kernel_rfl) (by simp) ?_
        refine (AllReadyH.cons rfl (fun K9 hK9 => ?gd) AllReadyH.nil)
        case gd =>
          go_simp
          refine hK9.out _ _ ?kgo (fun hHeld => ?_)
          case kgo => exact ⟨cell_keep hd k0, cell_keep hd e0, cell_keep hd e1⟩
          clear hK9
          refine wpAnyH_ready (rs := [18]) (by kernel_rfl) (by simp) ?_
          refine (AllReadyH.cons rfl (fun K9 hK9 => ?gqa) AllReadyH.nil)
          case gqa =>
            refine step_append_lies _ (by rfl) (.tmp 45) (.tmp 48) 33 (by rfl) base 3 i9 (.int .i64 0) 1 8 Tryz.underlying33 hj9 hi9 hi91 hi92 rfl (by decide) vu K (ints (nbl L u)) (by simp [Act.eval]) (hown0 _).out ⟨W1.heap.size, 0, none⟩ 1 1 [.int .i64 (v : Int)] (by simp [Act.eval]) rfl (by exact cell_one_new _ _ _) (by simp [Value.oneCell']) (by decide) (by unfold maxLen; omega) (by omega) hbase _ rfl ?_
            intro g2 cap2 w6 hown2 hgrow hat hlt4
            have fz6 := frozen_far (a := ⟨base, u * 6, none⟩) hd hgrow ltn far2 (z0 _)
            have cz6 := (hgrow.cell_far ⟨base, u * 6, none⟩ (by simp; omega) far2).trans (cell_keep hd f0)
            refine hK9.out _ _ ?kgqa (fun hHeld => ?_)
            case kgqa => exact ⟨(hgrow.cell_far ⟨kw, 0, none⟩ (by simp; omega) far1).trans (cell_keep hd k0), (hgrow.cell_far ⟨eb, 0, none⟩ (by simp; omega) far3).trans (cell_keep hd e0), (hgrow.cell_far ⟨eb, 1, none⟩ (by simp; omega) far3).trans (cell_keep hd e1)⟩
            clear hK9
            simp only [Act.put, List.setIfInBounds_toArray]
            refine wpAnyH_take (i := 19) (v := ?vgqx) rfl (by kernel_rfl) (by kernel_rfl) (by kernel_rfl) (fun _ _ _ h => h) (Or.inl ⟨by rfl, ?ygqx⟩) (by assumption) ?_
            case ygqx => intro w hSw; (try dsimp only at hSw); go_simp; (try with_reducible rfl)
            simp only [Act.put]
            refine wpAnyH_take (i := 20) (v := ?vgqy) rfl (by kernel_rfl) (by kernel_rfl) (by kernel_rfl) (fun _ _ _ h => h) (Or.inl ⟨by rfl, ?ygqy⟩) (by assumption) ?_
            case ygqy => intro w hSw; (try dsimp only at hSw); go_simp; (try with_reducible rfl)
            simp only [Act.put]
            refine wpAnyH_ready (rs := [21]) (by kernel_rfl) (by simp) ?_
            refine (AllReadyH.cons rfl (fun K9 hK9 => ?gqs) AllReadyH.nil)
            case gqs =>
              go_simp
              refine hK9.out _ _ ?kgqs (fun hHeld => ?_)
              case kgqs => exact ⟨(World.cell?_setCell_far _ _ _ _ kne.symm).trans hHeld.1, (World.cell?_setCell_far _ _ _ _ ene.symm).trans hHeld.2.1, (World.cell?_setCell_far _ _ _ _ ene.symm).trans hHeld.2.2⟩
              clear hK9
              refine wpAnyH_done (by kernel_rfl) ?_ _
              refine NoPanic.normal ?_
              have hP := (HB1.out.below hd).push (u := u) (K := K) (g1 := g2) (cap := cap2) (x := v) (by omega) HK.out hown2 (by rw [HVu.out]; exact hgrow) (by rw [HVu.out]; exact hat)
              have hB2 := hP.2
              have hb2 : Below w.heap.size w (w6.setCell ⟨base, u * 6, none⟩ (.slice (some ⟨g2, 0, none⟩) (K + 1) cap2)) := ((below_step Hb1.out hd).grown hgrow (Nat.le_trans HBs.out hbase) (fun k e => by
                have := (own_bound (HB1.out.own u (by omega)) (by rw [HVu.out]; exact e)).1
                have := HBs.out
                omega)).setCell HBs.out _
              have k0' := hHeld.1
              have e0' := hHeld.2.1
              have e1' := hHeld.2.2
              clear hP hgrow hat hown2 hlt4 fz6 cz6 hHeld k0 e0 e1 f0 z0 hown0 hbs hd hbase ltk lte ltn far1 far2 far3 HB1 Hb1 HK hK2
              have hV2 : upd V u (.slice (some ⟨g2, 0, none⟩) (K + 1) cap2) v = V v := upd_ne _ _ (by omega)
              have hN2 : upd (nbl L) u (nbl L u ++ [v]) v = nbl L v := upd_ne _ _ (by omega)
              generalize w6.setCell ⟨base, u * 6, none⟩ (.slice (some ⟨g2, 0, none⟩) (K + 1) cap2) = W2 at hB2 hb2 k0' e0' e1' ⊢
              generalize upd V u (.slice (some ⟨g2, 0, none⟩) (K + 1) cap2) = V2 at hB2 hV2
              generalize (Value.slice (some ⟨g2, 0, none⟩) (K + 1) cap2) = v2
              clear HVu
              have k0 := k0'
              have e0 := e0'
              have e1 := e1'
              clear k0' e0' e1'
              obtain ⟨K, hK⟩ : ∃ K, (nbl L v).length = K := ⟨_, rfl⟩
              have hK2 : K ≤ 200 := by rw [← hK]; exact Nat.le_trans (nbl_len L v) hLl
              have f0 := hB2.f0 (u := v) (by omega)
              rw [hV2] at f0
              have z0 := hB2.fz
              have hown := hB2.own v (by omega)
              rw [hV2, hN2, hK] at hown
              have hown0 : ∀ o : Obj, Hid ((W2.drew.alloc o).ownsRow base 3 1 (V v) K (ints (nbl L v))) := fun o => hown.alloc o
              have hbs : base ≤ W2.heap.size := by have := hB2.st.lt; omega
              have hd : Below W2.heap.size W2 (W2.drew.alloc (.cells #[.int .i64 (u : Int)] 3)) := ((Below.refl _ _).drew).alloc (by simp) _
              have hbase : base ≤ (W2.drew.alloc (.cells #[.int .i64 (u : Int)] 3)).heap.size := Nat.le_trans hbs (by simp)
              have ltk : kw < W2.heap.size := World.block_lt_of_cell? _ _ k0
              have lte : eb < W2.heap.size := World.block_lt_of_cell? _ _ e0
              have ltn : base < W2.heap.size := World.block_lt_of_cell? _ _ f0
              have far1 : some kw = (V v).ownBlock → False := fun e => (hB2.off v (by omega) kw (by rw [hV2]; exact e.symm)).1 rfl
              have far2 : some base = (V v).ownBlock → False := fun e => (hB2.off v (by omega) base (by rw [hV2]; exact e.symm)).2 rfl
              have far3 : some eb = (V v).ownBlock → False := fun e => by have := HFv.out _ e.symm; omega
              have HB2 : Hid (BAt base W2 kw base n V2 (upd (nbl L) u (nbl L u ++ [v])) ∧ upd (nbl L) u (nbl L u ++ [v]) v = nbl L v ∧ V2 v = V v) := ⟨hB2, hN2, hV2⟩
              have Hb2 : Hid (Below w.heap.size w W2) := hb2
              have HK : Hid ((nbl L v).length = K) := hK
              clear hB2 hb2 hown hK hN2 hV2
              obtain ⟨vv, hvv⟩ : ∃ x, V v = x := ⟨_, rfl⟩
              rw [hvv] at f0 hown0 far1 far2 far3
              have HVv : Hid (V v = vv) := hvv
              clear hvv
              go_wp2_with fail
              refine wp_region_noPanic ?_
              refine wp_region_held_drew (S := fun W => W.cell? ⟨kw, 0, none⟩ = some (.slice (some ⟨base, 0, none⟩) n n) ∧ W.cell? ⟨eb, 0, none⟩ = some (.int .i64 (u : Nat)) ∧ W.cell? ⟨eb, 1, none⟩ = some (.int .i64 (v : Nat))) (by kernel_rfl) ?hsr (fun hHeld => ?_)
              case hsr => exact ⟨k0, e0, e1⟩
              refine wpAnyH_take (i := 0) (v := ?vr0) rfl (by kernel_rfl) (by kernel_rfl) (by kernel_rfl) (fun _ _ _ h => h) (Or.inl ⟨by rfl, ?yr0⟩) (by assumption) ?_
              case yr0 => intro w hSw; (try dsimp only at hSw); go_simp; (try with_reducible rfl)
              simp only [Act.put, List.setIfInBounds_toArray, List.set_cons_zero, List.set_cons_succ]
              refine wpAnyH_take (i := 1) (v := ?vr1) rfl (by kernel_rfl) (by kernel_rfl) (by kernel_rfl) (fun _ _ _ h => h) (Or.inl ⟨by rfl, ?yr1⟩) (by assumption) ?_
              case yr1 => intro w hSw; (try dsimp only at hSw); go_simp; (try with_reducible rfl)
              simp only [Act.put, List.setIfInBounds_toArray, List.set_cons_zero, List.set_cons_succ]
              refine wpAnyH_take (i := 2) (v := ?vr2) rfl (by kernel_rfl) (by kernel_rfl) (by kernel_rfl) (fun _ _ _ h => h) (Or.inl ⟨by rfl, ?yr2⟩) (by assumption) ?_
              case yr2 => intro w hSw; (try dsimp only at hSw); go_simp; (try with_reducible rfl)
              simp only [Act.put, List.setIfInBounds_toArray, List.set_cons_zero, List.set_cons_succ]
              refine wpAnyH_take (i := 3) (v := ?vr3) rfl (by kernel_rfl) (by kernel_rfl) (by kernel_rfl) (fun _ _ _ h => h) (Or.inl ⟨by rfl, ?yr3⟩) (by assumption) ?_
              case yr3 => intro w hSw; (try dsimp only at hSw); go_simp; (try with_reducible rfl)
              simp only [Act.put, List.setIfInBounds_toArray, List.set_cons_zero, List.set_cons_succ]
              refine wpAnyH_take (i := 4) (v := ?vr4) rfl (by kernel_rfl) (by kernel_rfl) (by kernel_rfl) (fun _ _ _ h => h) (Or.inl ⟨by rfl, ?yr4⟩) (by assumption) ?_
              case yr4 => intro w hSw; (try dsimp only at hSw); go_simp; (try with_reducible rfl)
              simp only [Act.put, List.setIfInBounds_toArray, List.set_cons_zero, List.set_cons_succ]
              refine wpAnyH_take (i := 5) (v := ?vr5) rfl (by kernel_rfl) (by kernel_rfl) (by kernel_rfl) (fun _ _ _ h => h) (Or.inl ⟨by rfl, ?yr5⟩) (by assumption) ?_
              case yr5 => intro w hSw; (try dsimp only at hSw); go_simp; (try with_reducible rfl)
              simp only [Act.put, List.setIfInBounds_toArray, List.set_cons_zero, List.set_cons_succ]
              refine wpAnyH_take (i := 6) (v := ?vr6) rfl (by kernel_rfl) (by kernel_rfl) (by kernel_rfl) (fun _ _ _ h => h) (Or.inl ⟨by rfl, ?yr6⟩) (by assumption) ?_
              case yr6 => intro w hSw; (try dsimp only at hSw); go_simp; (try with_reducible rfl)
              simp only [Act.put, List.setIfInBounds_toArray, List.set_cons_zero, List.set_cons_succ]
              refine wpAnyH_take (i := 7) (v := ?vr7) rfl (by kernel_rfl) (by kernel_rfl) (by kernel_rfl) (fun _ _ _ h => h) (Or.inl ⟨by rfl, ?yr7⟩) (by assumption) ?_
              case yr7 => intro w hSw; (try dsimp only at hSw); go_simp; (try with_reducible rfl)
              simp only [Act.put, List.setIfInBounds_toArray, List.set_cons_zero, List.set_cons_succ]
              refine wpAnyH_take (i := 8) (v := ?vr8) rfl (by kernel_rfl) (by kernel_rfl) (by kernel_rfl) (fun _ _ _ h => h) (Or.inl ⟨by rfl, ?yr8⟩) (by assumption) ?_
              case yr8 => intro w hSw; (try dsimp only at hSw); go_simp; (try with_reducible rfl)
              simp only [Act.put, List.setIfInBounds_toArray, List.set_cons_zero, List.set_cons_succ]
              refine wpAnyH_take (i := 9) (v := ?vr9) rfl (by kernel_rfl) (by kernel_rfl) (by kernel_rfl) (fun _ _ _ h => h) (Or.inl ⟨by rfl, ?yr9⟩) (by assumption) ?_
              case yr9 => intro w hSw; (try dsimp only at hSw); go_simp; (try with_reducible rfl)
              simp only [Act.put, List.setIfInBounds_toArray, List.set_cons_zero, List.set_cons_succ]
              refine wpAnyH_take (i := 10) (v := ?vr10) rfl (by kernel_rfl) (by kernel_rfl) (by kernel_rfl) (fun _ _ _ h => h) (Or.inl ⟨by rfl, ?yr10⟩) (by assumption) ?_
              case yr10 => intro w hSw; (try dsimp only at hSw); go_simp; (try with_reducible rfl)
              simp only [Act.put, List.setIfInBounds_toArray, List.set_cons_zero, List.set_cons_succ]
              refine wpAnyH_take (i := 11) (v := ?vr11) rfl (by kernel_rfl) (by kernel_rfl) (by kernel_rfl) (fun _ _ _ h => h) (Or.inl ⟨by rfl, ?yr11⟩) (by assumption) ?_
              case yr11 => intro w hSw; (try dsimp only at hSw); go_simp; (try with_reducible rfl)
              simp only [Act.put, List.setIfInBounds_toArray, List.set_cons_zero, List.set_cons_succ]
              refine wpAnyH_take (i := 12) (v := ?vr12) rfl (by kernel_rfl) (by kernel_rfl) (by kernel_rfl) (fun _ _ _ h => h) (Or.inl ⟨by rfl, ?yr12⟩) (by assumption) ?_
              case yr12 => intro w hSw; (try dsimp only at hSw); go_simp; (try with_reducible rfl)
              simp only [Act.put, List.setIfInBounds_toArray, List.set_cons_zero, List.set_cons_succ]
              refine wpAnyH_take (i := 13) (v := ?vr13) rfl (by kernel_rfl) (by kernel_rfl) (by kernel_rfl) (fun _ _ _ h => h) (Or.inl ⟨by rfl, ?yr13⟩) (by assumption) ?_
              case yr13 => intro w hSw; (try dsimp only at hSw); go_simp; (try with_reducible rfl)
              simp only [Act.put, List.setIfInBounds_toArray, List.set_cons_zero, List.set_cons_succ]
              refine wpAnyH_take (i := 15) (v := ?vr15) rfl (by kernel_rfl) (by kernel_rfl) (by kernel_rfl) (fun _ _ _ h => h) (Or.inl ⟨by rfl, ?yr15⟩) (by assumption) ?_
              case yr15 => intro w hSw; (try dsimp only at hSw); go_simp; (try with_reducible rfl)
              simp only [Act.put, List.setIfInBounds_toArray, List.set_cons_zero, List.set_cons_succ]
              refine wpAnyH_take (i := 16) (v := ?vr16) rfl (by kernel_rfl) (by kernel_rfl) (by kernel_rfl) (fun _ _ _ h => h) (Or.inl ⟨by rfl, ?yr16⟩) (by assumption) ?_
              case yr16 => intro w hSw; (try dsimp only at hSw); go_simp; (try with_reducible rfl)
              simp only [Act.put, List.setIfInBounds_toArray, List.set_cons_zero, List.set_cons_succ]
              refine wpAnyH_ready (rs := [14, 17]) (by kernel_rfl) (by simp) ?_
              refine (AllReadyH.cons rfl (fun K9 hK9 => ?rA) (AllReadyH.cons rfl (fun K9 hK9 => ?rB) AllReadyH.nil))
              case rA =>
                go_simp
                refine hK9.out _ _ ?krl (fun hHeld => ?_)
                case krl => exact ⟨k0, e0, e1⟩
                clear hK9
                refine wpAnyH_ready (rs := [17]) (by kernel_rfl) (by simp) ?_
                refine (AllReadyH.cons rfl (fun K9 hK9 => ?rb) AllReadyH.nil)
                case rb =>
                  go_simp
                  refine hK9.out _ _ ?krm (fun hHeld => ?_)
                  case krm => exact ⟨cell_keep hd k0, cell_keep hd e0, cell_keep hd e1⟩
                  clear hK9
                  refine wpAnyH_ready (rs := [18]) (by kernel_rfl) (by simp) ?_
                  refine (AllReadyH.cons rfl (fun K9 hK9 => ?rpa) AllReadyH.nil)
                  case rpa =>
                    refine step_append_lies _ (by rfl) (.tmp 66) (.tmp 69) 33 (by rfl) base 3 i9 (.int .i64 0) 1 8 Tryz.underlying33 hj9 hi9 hi91 hi92 rfl (by decide) vv K (ints (nbl L v)) (by simp [Act.eval]) (hown0 _).out ⟨W2.heap.size, 0, none⟩ 1 1 [.int .i64 (u : Int)] (by simp [Act.eval]) rfl (by exact cell_one_new _ _ _) (by simp [Value.oneCell']) (by decide) (by unfold maxLen; omega) (by omega) hbase _ rfl ?_
                    intro g2 cap2 w6 hown2 hgrow hat hlt4
                    have fz6 := frozen_far (a := ⟨base, v * 6, none⟩) hd hgrow ltn far2 (z0 _)
                    have cz6 := (hgrow.cell_far ⟨base, v * 6, none⟩ (by simp; omega) far2).trans (cell_keep hd f0)
                    refine hK9.out _ _ ?krpa (fun hHeld => ?_)
                    case krpa => exact ⟨(hgrow.cell_far ⟨kw, 0, none⟩ (by simp; omega) far1).trans (cell_keep hd k0), (hgrow.cell_far ⟨eb, 0, none⟩ (by simp; omega) far3).trans (cell_keep hd e0), (hgrow.cell_far ⟨eb, 1, none⟩ (by simp; omega) far3).trans (cell_keep hd e1)⟩
                    clear hK9
                    simp only [Act.put, List.setIfInBounds_toArray]
                    refine wpAnyH_take (i := 19) (v := ?vrpx) rfl (by kernel_rfl) (by kernel_rfl) (by kernel_rfl) (fun _ _ _ h => h) (Or.inl ⟨by rfl, ?yrpx⟩) (by assumption) ?_
                    case yrpx => intro w hSw; (try dsimp only at hSw); go_simp; (try with_reducible rfl)
                    simp only [Act.put]
                    refine wpAnyH_take (i := 20) (v := ?vrpy) rfl (by kernel_rfl) (by kernel_rfl) (by kernel_rfl) (fun _ _ _ h => h) (Or.inl ⟨by rfl, ?yrpy⟩) (by assumption) ?_
                    case yrpy => intro w hSw; (try dsimp only at hSw); go_simp; (try with_reducible rfl)
                    simp only [Act.put]
                    refine wpAnyH_ready (rs := [21]) (by kernel_rfl) (by simp) ?_
                    refine (AllReadyH.cons rfl (fun K9 hK9 => ?rps) AllReadyH.nil)
                    case rps =>
                      go_simp
                      refine hK9.out _ _ ?krps (fun hHeld => ?_)
                      case krps => exact ⟨(World.cell?_setCell_far _ _ _ _ kne.symm).trans hHeld.1, (World.cell?_setCell_far _ _ _ _ ene.symm).trans hHeld.2.1, (World.cell?_setCell_far _ _ _ _ ene.symm).trans hHeld.2.2⟩
                      clear hK9
                      refine wpAnyH_done (by kernel_rfl) ?_ _
                      refine NoPanic.normal ?_
                      have hP := (HB2.out.1.below hd).push (u := v) (K := K) (g1 := g2) (cap := cap2) (x := u) (by omega) (by rw [HB2.out.2.1]; exact HK.out) (by rw [HB2.out.2.1]; exact hown2) (by rw [HB2.out.2.2, HVv.out]; exact hgrow) (by rw [HB2.out.2.2, HVv.out]; exact hat)
                      have hB3 := hP.2
                      have hb3 : Below w.heap.size w (w6.setCell ⟨base, v * 6, none⟩ (.slice (some ⟨g2, 0, none⟩) (K + 1) cap2)) := ((below_step Hb2.out hd).grown hgrow (Nat.le_trans HBs.out hbase) (fun k e => by
                        have := (own_bound (HB2.out.1.own v (by omega)) (by rw [HB2.out.2.2, HVv.out]; exact e)).1
                        have := HBs.out
                        omega)).setCell HBs.out _
                      have hnb : upd (upd (nbl L) u (nbl L u ++ [v])) v (upd (nbl L) u (nbl L u ++ [v]) v ++ [u]) = nbl ((edges f m).take (j + 1)) := by
                        rw [HL.out, HB2.out.2.1]
                        funext i
                        exact (nbl_snoc L u v (by omega) i).symm
                      rw [hnb] at hB3
                      clear hP hgrow hat hown2 hlt4 fz6 cz6 hHeld k0 e0 e1 f0 z0 hown0 hbs hd hbase ltk lte ltn far1 far2 far3 hnb
                      generalize w6.setCell ⟨base, v * 6, none⟩ (.slice (some ⟨g2, 0, none⟩) (K + 1) cap2) = W3 at hB3 hb3 ⊢
                      have HB3 : Hid (BAt base W3 kw base n (upd V2 v (.slice (some ⟨g2, 0, none⟩) (K + 1) cap2)) (nbl ((edges f m).take (j + 1))) ∧ Below w.heap.size w W3) := ⟨hB3, hb3⟩
                      clear hB3 hb3
                      go_wp2_with fail
                      go_roundw
                      case rel => exact ⟨j + 1, by omega, by go_num, _, HB3.out.1, HB3.out.2⟩
                      case measure => simp [intOf]; omega
              case rB =>
                go_simp
                refine hK9.out _ _ ?krn (fun hHeld => ?_)
                case krn => exact ⟨cell_keep hd k0, cell_keep hd e0, cell_keep hd e1⟩
                clear hK9
                refine wpAnyH_ready (rs := [14]) (by kernel_rfl) (by simp) ?_
                refine (AllReadyH.cons rfl (fun K9 hK9 => ?rd) AllReadyH.nil)
                case rd =>
                  go_simp
                  refine hK9.out _ _ ?kro (fun hHeld => ?_)
                  case kro => exact ⟨cell_keep hd k0, cell_keep hd e0, cell_keep hd e1⟩
                  clear hK9
                  refine wpAnyH_ready (rs := [18]) (by kernel_rfl) (by simp) ?_
                  refine (AllReadyH.cons rfl (fun K9 hK9 => ?rqa) AllReadyH.nil)
                  case rqa =>
                    refine step_append_lies _ (by rfl) (.tmp 66) (.tmp 69) 33 (by rfl) base 3 i9 (.int .i64 0) 1 8 Tryz.underlying33 hj9 hi9 hi91 hi92 rfl (by decide) vv K (ints (nbl L v)) (by simp [Act.eval]) (hown0 _).out ⟨W2.heap.size, 0, none⟩ 1 1 [.int .i64 (u : Int)] (by simp [Act.eval]) rfl (by exact cell_one_new _ _ _) (by simp [Value.oneCell']) (by decide) (by unfold maxLen; omega) (by omega) hbase _ rfl ?_
                    intro g2 cap2 w6 hown2 hgrow hat hlt4
                    have fz6 := frozen_far (a := ⟨base, v * 6, none⟩) hd hgrow ltn far2 (z0 _)
                    have cz6 := (hgrow.cell_far ⟨base, v * 6, none⟩ (by simp; omega) far2).trans (cell_keep hd f0)
                    refine hK9.out _ _ ?krqa (fun hHeld => ?_)
                    case krqa => exact ⟨(hgrow.cell_far ⟨kw, 0, none⟩ (by simp; omega) far1).trans (cell_keep hd k0), (hgrow.cell_far ⟨eb, 0, none⟩ (by simp; omega) far3).trans (cell_keep hd e0), (hgrow.cell_far ⟨eb, 1, none⟩ (by simp; omega) far3).trans (cell_keep hd e1)⟩
                    clear hK9
                    simp only [Act.put, List.setIfInBounds_toArray]
                    refine wpAnyH_take (i := 19) (v := ?vrqx) rfl (by kernel_rfl) (by kernel_rfl) (by kernel_rfl) (fun _ _ _ h => h) (Or.inl ⟨by rfl, ?yrqx⟩) (by assumption) ?_
                    case yrqx => intro w hSw; (try dsimp only at hSw); go_simp; (try with_reducible rfl)
                    simp only [Act.put]
                    refine wpAnyH_take (i := 20) (v := ?vrqy) rfl (by kernel_rfl) (by kernel_rfl) (by kernel_rfl) (fun _ _ _ h => h) (Or.inl ⟨by rfl, ?yrqy⟩) (by assumption) ?_
                    case yrqy => intro w hSw; (try dsimp only at hSw); go_simp; (try with_reducible rfl)
                    simp only [Act.put]
                    refine wpAnyH_ready (rs := [21]) (by kernel_rfl) (by simp) ?_
                    refine (AllReadyH.cons rfl (fun K9 hK9 => ?rqs) AllReadyH.nil)
                    case rqs =>
                      go_simp
                      refine hK9.out _ _ ?krqs (fun hHeld => ?_)
                      case krqs => exact ⟨(World.cell?_setCell_far _ _ _ _ kne.symm).trans hHeld.1, (World.cell?_setCell_far _ _ _ _ ene.symm).trans hHeld.2.1, (World.cell?_setCell_far _ _ _ _ ene.symm).trans hHeld.2.2⟩
                      clear hK9
                      refine wpAnyH_done (by kernel_rfl) ?_ _
                      refine NoPanic.normal ?_
                      have hP := (HB2.out.1.below hd).push (u := v) (K := K) (g1 := g2) (cap := cap2) (x := u) (by omega) (by rw [HB2.out.2.1]; exact HK.out) (by rw [HB2.out.2.1]; exact hown2) (by rw [HB2.out.2.2, HVv.out]; exact hgrow) (by rw [HB2.out.2.2, HVv.out]; exact hat)
                      have hB3 := hP.2
                      have hb3 : Below w.heap.size w (w6.setCell ⟨base, v * 6, none⟩ (.slice (some ⟨g2, 0, none⟩) (K + 1) cap2)) := ((below_step Hb2.out hd).grown hgrow (Nat.le_trans HBs.out hbase) (fun k e => by
                        have := (own_bound (HB2.out.1.own v (by omega)) (by rw [HB2.out.2.2, HVv.out]; exact e)).1
                        have := HBs.out
                        omega)).setCell HBs.out _
                      have hnb : upd (upd (nbl L) u (nbl L u ++ [v])) v (upd (nbl L) u (nbl L u ++ [v]) v ++ [u]) = nbl ((edges f m).take (j + 1)) := by
                        rw [HL.out, HB2.out.2.1]
                        funext i
                        exact (nbl_snoc L u v (by omega) i).symm
                      rw [hnb] at hB3
                      clear hP hgrow hat hown2 hlt4 fz6 cz6 hHeld k0 e0 e1 f0 z0 hown0 hbs hd hbase ltk lte ltn far1 far2 far3 hnb
                      generalize w6.setCell ⟨base, v * 6, none⟩ (.slice (some ⟨g2, 0, none⟩) (K + 1) cap2) = W3 at hB3 hb3 ⊢
                      have HB3 : Hid (BAt base W3 kw base n (upd V2 v (.slice (some ⟨g2, 0, none⟩) (K + 1) cap2)) (nbl ((edges f m).take (j + 1))) ∧ Below w.heap.size w W3) := ⟨hB3, hb3⟩
                      clear hB3 hb3
                      go_wp2_with fail
                      go_roundw
                      case rel => exact ⟨j + 1, by omega, by go_num, _, HB3.out.1, HB3.out.2⟩
                      case measure => simp [intOf]; omega
    · obtain rfl : j = m := by omega
      have hmay : ∀ i, i < j → May n f i := HM.out
      have hall : ∀ e ∈ edges f j, e.1 < e.2 ∧ e.2 < n := fun e he => by
        obtain ⟨i, hi, rfl⟩ := List.mem_map.1 he
        have h2 := (hmay i (List.mem_range.1 hi)).1
        unfold Sane at h2
        show (f i).1.toNat < (f i).2.toNat ∧ (f i).2.toNat < n
        omega
      have hN : Near (edges f j) n (nbl (edges f j)) := nbl_near hall (by rw [edges_len]; exact hm200)
      rw [List.take_of_length_le (by rw [edges_len]; exact Nat.le_refl _)] at hBr
      have hW := hBr.walker
      have c0 := hW.w0
      have HW : Hid (WAt wr kw base n V (nbl (edges f j)) blank) := hW
      have HBr : Hid (Below w.heap.size w wr) := hbr
      have HNr : Hid (Near (edges f j) n (nbl (edges f j)) ∧ base ≤ kw) := ⟨hN, hkn⟩
      have HR0 : Hid (Roots (edges f j) n p blank 0) := roots_blank _ _ _
      clear hBr hbr hW hN hall hmay HM HH HV
      go_wp2_with fail
      clear c0
      go_loopw [11, 79] (fun _ i wx => ∃ q : Nat, q ≤ n ∧ i = .int .i64 (q : Nat) ∧ ∃ s, WAt wx kw base n V (nbl (edges f j)) s ∧ Roots (edges f j) n p s q ∧ Below w.heap.size w wx) (fun _ i _ => n - (intOf i).toNat)
      case atStart => exact ⟨0, Nat.zero_le _, rfl, _, HW.out, HR0.out, HBr.out⟩
      case round =>
        obtain ⟨q, hq, rfl, s, hWx, hRx, hbx⟩ := hrel
        by_cases hqn : q < n
        · have c0 := hWx.w0
          have c3 := hWx.f3 hqn
          have q0 : (0 : Int) ≤ (q : Int) := by omega
          have q1 : (q : Int) < (n : Int) := by omega
          by_cases hz : s.turn q = 0
          · have hwk := walk_any HNr.out.1 hn60 HNr.out.2 (Nat.le_refl base) (n - s.T) (a := q) (L := q) (A := []) (Nat.le_refl _) hWx hRx.inv hqn hz (Or.inl ⟨rfl, rfl⟩)
            replace hwk : Calls Tryz.prog 95 #[.pointer (some ⟨kw, 0, none⟩), .int .i64 (q : Nat), .int .i64 (-1)] wr fun e w' => e = .returned (.tuple #[]) ∧ ∃ s', WAt w' kw base n V (nbl (edges f j)) s' ∧ Walked (edges f j) n s s' q [] q ∧ Below base wr w' := hwk
            rw [hz] at c3
            have HRx : Hid (Roots (edges f j) n p s q ∧ Below w.heap.size w wr) := ⟨hRx, hbx⟩
            clear hWx hRx hbx
            go_wp2_with fail
            refine hwk.mono ?_
            rintro e w2 ⟨rfl, s2, hW2, hWk, hb2⟩
            have HX : Hid (WAt w2 kw base n V (nbl (edges f j)) s2 ∧ Roots (edges f j) n p s2 (q + 1) ∧ Below w.heap.size w w2) := ⟨hW2, HRx.out.1.walk HP.out hWk, HRx.out.2.trans (hb2.mono HBs.out)⟩
            clear hwk hW2 hWk hb2
            go_wp2_with fail
            go_roundw
            case rel => exact ⟨q + 1, by omega, by go_num, s2, HX.out.1, HX.out.2.1, HX.out.2.2⟩
            case measure => simp [intOf]; omega
          · have t1 : (((s.turn q : Nat) : Int) == 0) = false := by rw [beq_eq_false_iff_ne]; omega
            have t2 : ((s.turn q : Nat) == 0) = false := by rw [beq_eq_false_iff_ne]; exact hz
            have HX : Hid (WAt wr kw base n V (nbl (edges f j)) s ∧ Roots (edges f j) n p s (q + 1) ∧ Below w.heap.size w wr) := ⟨hWx, hRx.pass (by omega), hbx⟩
            clear hWx hRx hbx
            go_wp2_with fail
            go_roundw
            case rel => exact ⟨q + 1, by omega, by go_num, s, HX.out.1, HX.out.2.1, HX.out.2.2⟩
            case measure => simp [intOf]; omega
        · obtain rfl : q = n := by omega
          have c0 := hWx.w0
          have HX : Hid (WAt wr kw base q V (nbl (edges f j)) s ∧ Roots (edges f j) q p s q ∧ Below w.heap.size w wr) := ⟨hWx, hRx, hbx⟩
          clear hWx hRx hbx
          go_wp2_with fail
          go_ret2
          exact ⟨kw, base, V, _, s, rfl, HX.out.1, HX.out.2.1, HX.out.2.2⟩

end Go.Proofs.YtcfemppdeidjmacGreat.Br

namespace Go.Proofs.YtcfemppdeidjmacGreat.Br
open Go.RowKit Go.Deep
open Go.RowKit (Below)
set_option linter.unusedVariables false

variable {w w' : World} {f : Nat → Int × Int} {kw kn n : Nat} {V : Nat → Value} {nb : Nat → List Nat} {s : St}

theorem WAt.below (h : WAt w kw kn n V nb s) (hb : Below w.heap.size w w') : WAt w' kw kn n V nb s := by
  obtain ⟨g, h1, h2⟩ := h.nd
  refine ⟨h.st.of_block (hb.block _ h.st.lt), ⟨g, h1.of_block (hb.block _ h1.lt), h2⟩, h.ne, fun i hi => ?_⟩
  obtain ⟨b, c, e1, e2, e3⟩ := h.near i hi
  exact ⟨b, c, e1, e2.below hb, e3⟩

end Go.Proofs.YtcfemppdeidjmacGreat.Br

namespace Go.Proofs.YtcfemppdeidjmacGreat.Br
open Go.RowKit Go.Deep
open Go.RowKit (Below)
set_option linter.unusedVariables false

variable {w w' : World} {f : Nat → Int × Int}

set_option maxRecDepth 100000 in
set_option maxHeartbeats 2000000 in
theorem parts_ok {a : Option Addr} {m c n : Nat} {p : Nat → Nat} (h : EgAt w a m f) (hv : Valid (n : Nat) m f) (hp : Rest (edges f m) p) :
    Calls Tryz.prog 14 #[.int .i64 (n : Nat), .slice a m c] w fun e w' => ∃ k c', e = .returned (.tuple #[.slice (some ⟨k, 0, none⟩) n c', .nilIface]) ∧ IntsAt w' (some ⟨k, 0, none⟩) n (parts n p) ∧ Below w.heap.size w w' := by
  have hw := walked_ok (c := c) h hv hp
  have hn60 : n ≤ 60 := by have := hv.1; omega
  have hmk := run_make_row' (P := Tryz.prog) 33 3 (.int .i64 0) 8 Tryz.underlying33 Tryz.infoInt rfl .i64 .i64 n (by omega) (by omega)
  clear h hv hp
  go_enter Tryz.func14, Tryz.ntmps14
  go_wp2_with fail
  refine hw.mono ?_
  rintro e w1 ⟨kw, kn, V, nb, s, rfl, hW, hR, hb1⟩
  have HW : Hid (WAt w1 kw kn n V nb s) := hW
  have HR : Hid (∀ i, i < n → s.least i = p i) := fun i hi => hR.least i (hR.seen i hi)
  have HB1 : Hid (Below w.heap.size w w1) := hb1
  clear hw hW hR hb1
  go_wp2_with fail
  have HM : Hid ((w1.alloc (.cells (madeCells #[.int .i64 0] n) 3)).rowIs w1.heap.size 3 n (fun i => if i < 0 then .int .i64 (p i : Nat) else .int .i64 0)) := (World.rowIs_made w1 (.int .i64 0) n 3).congr fun i _ => by simp
  have HMb : Hid (Below w1.heap.size w1 (w1.alloc (.cells (madeCells #[.int .i64 0] n) 3))) := below_box _ _
  clear hmk
  go_loopw [9, 23] (fun _ i wr => ∃ j : Nat, j ≤ n ∧ i = .int .i64 (j : Nat) ∧ Below w1.heap.size w1 wr ∧ wr.rowIs w1.heap.size 3 n (fun i => if i < j then .int .i64 (p i : Nat) else .int .i64 0)) (fun _ i _ => n - (intOf i).toNat)
  case atStart => exact ⟨0, Nat.zero_le _, rfl, HMb.out, HM.out⟩
  case round =>
    obtain ⟨j, hj, rfl, hb, hrow⟩ := hrel
    by_cases hlt : j < n
    · have c2 := (HW.out.below hb).f2 hlt
      rw [HR.out j hlt] at c2
      have d0 : wr.cell? ⟨w1.heap.size, j, none⟩ = some (.int .i64 0) := by rw [hrow.cell hlt]; simp
      have z0 := hrow.frozen j
      have HX : Hid (Below w1.heap.size w1 (wr.setCell ⟨w1.heap.size, j, none⟩ (.int .i64 (p j : Nat))) ∧ (wr.setCell ⟨w1.heap.size, j, none⟩ (.int .i64 (p j : Nat))).rowIs w1.heap.size 3 n (fun i => if i < j + 1 then .int .i64 (p i : Nat) else .int .i64 0)) := ⟨hb.setCell (Nat.le_refl _) _, (hrow.set j _).congr fun i hi => by
        by_cases e : i = j
        · subst e; simp
        · by_cases q : i < j
          · simp [e, q, show i < j + 1 by omega]
          · simp [e, q, show ¬ i < j + 1 by omega]⟩
      have i0 : (0 : Int) ≤ (j : Int) := by omega
      have i1 : (j : Int) < (n : Int) := by omega
      clear hb hrow
      generalize w1.heap.size = B at *
      go_wp2_with fail
      exact ⟨⟨j + 1, by omega, by go_num, HX.out⟩, by simp [intOf]; omega⟩
    · obtain rfl : j = n := by omega
      have HX : Hid (IntsAt wr (some ⟨w1.heap.size, 0, none⟩) j (parts j p) ∧ Below w.heap.size w wr) := ⟨parts_at fun i hi => by rw [hrow.cell hi]; simp [hi], below_step HB1.out hb⟩
      clear hb hrow
      go_wp2_with fail
      go_ret2
      exact ⟨_, _, rfl, HX.out⟩

end Go.Proofs.YtcfemppdeidjmacGreat.Br
