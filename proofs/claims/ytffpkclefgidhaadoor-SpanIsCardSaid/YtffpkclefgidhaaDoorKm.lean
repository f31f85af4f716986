/-
  The statements' own answer: the span of edges, each that no lighter ones join already.
-/
import Derived.Test.YtffpkclefgidhaaDoorKl
namespace Go.Proofs.YtffpkclefgidhaaDoor.Sp
open Go.RowKit Go.Deep
open Go.Proofs.YtffpkclefgidhaaDoor.Un
open Go.RowKit (Below)
set_option linter.unusedVariables false

variable {m n : Nat} {ed : Nat → Nat × Nat} {wt : Nat → Nat} {t : Nat → Bool} {w : World}

theorem own_heapS {base s : Nat} {e : TypeId} {v : Value} {n : Nat} {xs : List Value} (h : w.ownsRow base e s v n xs) {k : Nat} (hk : v.ownBlock = some k) : base ≤ k ∧ k < w.heap.size := by
  rcases h.2 with ⟨h0, _⟩ | ⟨g', cap, cur, hv, h1, h2, h3⟩
  · rw [h0] at hk; cases hk
  · rw [hv] at hk
    cases hk
    exact ⟨h1, (Array.getElem?_eq_some_iff.1 h2).1⟩

theorem ownsRow_keepS {w' : World} {base s : Nat} {e : TypeId} {v : Value} {n : Nat} {xs : List Value} (h : w.ownsRow base e s v n xs) (hb : ∀ g, v.ownBlock = some g → w'.heap[g]? = w.heap[g]?) : w'.ownsRow base e s v n xs := by
  refine ⟨h.1, ?_⟩
  rcases h.2 with h0 | ⟨g, cap, cur, hv, h1, h2, h3⟩
  · exact Or.inl h0
  · refine Or.inr ⟨g, cap, cur, hv, h1, ?_, h3⟩
    rw [hb g (by rw [hv]; rfl)]; exact h2

theorem picked_succ (q : Nat) (ed : Nat → Nat × Nat) (d : Nat → Bool) : picked (q + 1) ed d = picked q ed d ++ if d q = true then [ed q] else [] := by
  unfold picked
  rw [List.range_succ, List.filter_append, List.map_append]
  by_cases h : d q = true
  · rw [if_pos h, List.filter_cons_of_pos h]; rfl
  · rw [if_neg h, List.filter_cons_of_neg h]; rfl

theorem picked_len (q : Nat) (ed : Nat → Nat × Nat) (d : Nat → Bool) : (picked q ed d).length ≤ q := by
  unfold picked
  rw [List.length_map]
  have := List.length_filter_le d (List.range q)
  simpa using this

theorem filter_succ (j : Nat) (t : Nat → Bool) : (List.range (j + 1)).filter t = (List.range j).filter t ++ if t j = true then [j] else [] := by
  rw [List.range_succ, List.filter_append]
  by_cases h : t j = true
  · rw [if_pos h, List.filter_cons_of_pos h]; rfl
  · rw [if_neg h, List.filter_cons_of_neg h]; rfl

theorem own_places {base : Nat} {v : Value} {l : List Nat} (h : w.ownsRow base 3 1 v l.length (ints l)) : PlacesAt w v l := by
  rcases h.2 with ⟨hv, h0⟩ | ⟨g', cap', cur, hv, hb, hg, h1, h2, h3, h4⟩
  · exact ⟨none, 0, by rw [h0]; exact hv, by omega, fun j hj => by omega⟩
  · refine ⟨_, _, hv, h1, fun j hj => ⟨g', rfl, ?_⟩⟩
    have e1 : (cur.toList.take (l.length * 1))[j]? = some (Value.int .i64 ((l[j] : Nat) : Int)) := by rw [h4]; simp [ints, hj]
    rw [List.getElem?_take, if_pos (by omega)] at e1
    simp only [World.cell?, hg]
    rw [List.getD_eq_getElem?_getD, List.getElem?_eq_getElem hj]
    simpa using e1

set_option maxRecDepth 100000 in
set_option maxHeartbeats 4000000 in
theorem spanOf_any {a : Option Addr} {c : Nat} (h : HvAt w a m ed wt) (hE : Edgs n m ed wt) (ht : Tells m ed wt t) :
    Calls Tryd.prog 18 #[.int .i64 (n : Nat), .slice a m c] w fun e w' => ∃ v, e = .returned v ∧ Below w.heap.size w w' ∧ PlacesAt w' v ((List.range m).filter t) := by
  obtain ⟨z0, hi0, hz0, hz1, hz2⟩ := info_parts Tryd.infoEdge
  obtain ⟨y0, hj0, hy0, hy1, hy2⟩ := info_parts Un.Tryd.infoInt
  have HV : Hid (HvAt w a m ed wt) := h
  have hm2 := hE.m200
  clear h
  go_enter Tryd.func18, Tryd.ntmps18
  go_wp2_with fail
  go_loopw [5, 6, 7, 8, 9] (fun out i _ _ _ wr => ∃ j : Nat, j ≤ m ∧ i = .int .i64 (j : Nat) ∧ wr.ownsRow w.heap.size 3 1 out ((List.range j).filter t).length (ints ((List.range j).filter t)) ∧ Below w.heap.size w wr) (fun _ i _ _ _ _ => m - (intOf i).toNat)
  case atStart => exact ⟨0, Nat.zero_le _, rfl, World.ownsRow_nil .., Below.refl _ _⟩
  case round =>
    obtain ⟨j, hj, rfl, hown, hb⟩ := hrel
    obtain ⟨W, rfl⟩ : ∃ W : World, W = wr := ⟨_, rfl⟩
    have HOut : Hid (W.ownsRow w.heap.size 3 1 u5 ((List.range j).filter t).length (ints ((List.range j).filter t))) := hown
    have HB0 : Hid (Below w.heap.size w W) := hb
    clear hown hb
    by_cases hlt : j < m
    · have HVW : Hid (HvAt W a m ed wt) := HV.out.below HB0.out
      obtain ⟨D, hD⟩ : ∃ D : Nat → Bool, D = fun k => ahead wt k j := ⟨_, rfl⟩
      have HD : Hid (D = fun k => ahead wt k j) := hD
      clear hD
      have i0 : (0 : Int) ≤ (j : Int) := by omega
      have i1 : (j : Int) < (m : Int) := by omega
      go_wp2_with fail
      go_loopw [7, 8] (fun lg k wi => ∃ q : Nat, q ≤ m ∧ k = .int .i64 (q : Nat) ∧ wi.ownsRow W.heap.size 52 2 lg (picked q ed D).length (twos (picked q ed D)) ∧ Below W.heap.size W wi) (fun _ k _ => m - (intOf k).toNat)
      case atStart => exact ⟨0, Nat.zero_le _, rfl, World.ownsRow_nil .., Below.refl _ _⟩
      case round =>
        obtain ⟨q, hq, rfl, hown, hb⟩ := hrel
        have HO : Hid (wr.ownsRow W.heap.size 52 2 u7 (picked q ed D).length (twos (picked q ed D))) := hown
        have HB : Hid (Below W.heap.size W wr) := hb
        clear hown hb
        by_cases hqm : q < m
        · obtain ⟨b, oo, ea, q1, q2, q3⟩ := (HVW.out.below HB.out) q hqm
          obtain ⟨b', oo', ea', -, -, q4⟩ := (HVW.out.below HB.out) j hlt
          rw [ea] at ea'
          simp only [Option.some.injEq, Addr.mk.injEq, and_true] at ea'
          obtain ⟨rfl, rfl⟩ := ea'
          have HLt : Hid (b < W.heap.size ∧ b < wr.heap.size) := ⟨HVW.out.lt ea (by omega), World.block_lt_of_cell? _ _ q1⟩
          obtain ⟨x1, hx1⟩ : ∃ x1, (ed q).1 = x1 := ⟨_, rfl⟩
          obtain ⟨x2, hx2⟩ : ∃ x2, (ed q).2 = x2 := ⟨_, rfl⟩
          have HX : Hid (ed q = (x1, x2)) := Prod.ext hx1 hx2
          rw [hx1] at q1
          rw [hx2] at q2
          obtain ⟨wq, hwq⟩ : ∃ wq, wt q = wq := ⟨_, rfl⟩
          obtain ⟨wj, hwj⟩ : ∃ wj, wt j = wj := ⟨_, rfl⟩
          rw [hwq] at q3
          rw [hwj] at q4
          have HA : Hid (D q = true ↔ wq < wj ∨ wq = wj ∧ q < j) := by show D q = true ↔ _; rw [HD.out, ahead_iff, hwq, hwj]
          clear hx1 hx2 hwq hwj
          have i2 : (0 : Int) ≤ (q : Int) := by omega
          have i3 : (q : Int) < (m : Int) := by omega
          rw [ea]
          clear ea
          by_cases c1 : wq < wj
          · have c1i : (wq : Int) < (wj : Int) := by omega
            have HY : Hid (D q = true) := HA.out.2 (Or.inl c1)
            go_wp2_with fail
            go_quiet (fail)
            obtain ⟨V, hV⟩ : ∃ V : World, wr.drewN nq = V := ⟨_, rfl⟩
            have HO1 : Hid (V.ownsRow W.heap.size 52 2 u7 (picked q ed D).length (twos (picked q ed D))) := by
              show V.ownsRow W.heap.size 52 2 u7 (picked q ed D).length (twos (picked q ed D))
              rw [← hV]
              exact ownsRow_keepS HO.out (fun k hk => (Un.below_drewN (n := nq) rfl).block k (own_heapS HO.out hk).2)
            have HB1 : Hid (Below W.heap.size W V) := by show Below W.heap.size W V; rw [← hV]; exact HB.out.trans ((Un.below_drewN (n := nq) rfl).mono HB.out.size)
            replace q1 : V.cell? ⟨b, oo + q * 3, none⟩ = some (.int .i64 (x1 : Nat)) := by rw [← hV]; exact Un.cell_keep (Un.below_drewN (n := nq) rfl) q1
            replace q2 : V.cell? ⟨b, oo + q * 3 + 1, none⟩ = some (.int .i64 (x2 : Nat)) := by rw [← hV]; exact Un.cell_keep (Un.below_drewN (n := nq) rfl) q2
            have HLt1 : Hid (b < W.heap.size ∧ b < V.heap.size) := ⟨HLt.out.1, World.block_lt_of_cell? _ _ q1⟩
            clear q3 q4
            rw [hV]
            clear hV HO HB HLt
            go_wp2_with fail
            have hlen := picked_len q ed D
            have hown0 : ∀ o : Obj, Hid ((V.alloc o).drew.ownsRow W.heap.size 52 2 u7 (picked q ed D).length (twos (picked q ed D))) := fun o => HO1.out.alloc o
            have hbase : W.heap.size ≤ (V.alloc (.cells #[.int .i64 (x1 : Nat), .int .i64 (x2 : Nat)] 52)).drew.heap.size := Nat.le_trans HB1.out.size (by simp)
            have hfar : ∀ k, u7.ownBlock = some k → b ≠ k := fun k hk e => by have := (own_heapS HO1.out hk).1; have := HLt1.out.1; omega
            have hlt2 := HLt1.out.2
            go_region_held3 (fun V => V.cell? ⟨b, oo + q * 3, none⟩ = some (.int .i64 (x1 : Nat)) ∧ V.cell? ⟨b, oo + q * 3 + 1, none⟩ = some (.int .i64 (x2 : Nat)))
              (first
                | (go_keep; done)
                | exact ⟨(hgrow.cell_far ⟨b, oo + q * 3, none⟩ (by simp; omega) (fun e => hfar b e.symm rfl)).trans (Un.cell_keep (((Below.refl _ _).alloc (Nat.le_refl _) _).drew) q1), (hgrow.cell_far ⟨b, oo + q * 3 + 1, none⟩ (by simp; omega) (fun e => hfar b e.symm rfl)).trans (Un.cell_keep (((Below.refl _ _).alloc (Nat.le_refl _) _).drew) q2)⟩)
              ((refine step_append_lies _ (by rfl) (.tmp 51) (.tmp 65) 77 (by rfl) W.heap.size 52 z0 (.agg #[.int .i64 0, .int .i64 0]) 2 16 Tryd.underlying77 hi0 hz0 hz1 hz2 rfl (by decide) u7 (picked q ed D).length (twos (picked q ed D)) (by simp [Act.eval]) (hown0 _).out ⟨V.heap.size, 0, none⟩ 1 1 (two (x1, x2)) (by simp [Act.eval]) rfl (by exact two_new _ _ _) (by simp [two, Value.oneCell']) (by decide) (by unfold maxLen; omega) (by omega) hbase _ rfl ?_; intro g2 cap2 w4 hown2 hgrow hat hlt4))
            have hb4 : Below W.heap.size W w4 := ((HB1.out.alloc HB1.out.size _).drew).grown hgrow (by simp; have := HB1.out.size; omega) (fun k e => (own_heapS HO1.out e).1)
            have HO2 : Hid (w4.ownsRow W.heap.size 52 2 (.slice (some ⟨g2, 0, none⟩) ((picked q ed D).length + 1) cap2) (picked (q + 1) ed D).length (twos (picked (q + 1) ed D))) := by
              show w4.ownsRow W.heap.size 52 2 (.slice (some ⟨g2, 0, none⟩) ((picked q ed D).length + 1) cap2) (picked (q + 1) ed D).length (twos (picked (q + 1) ed D))
              rw [picked_succ, if_pos HY.out, HX.out, twos_snoc, List.length_append]
              exact hown2
            clear hown2 hgrow hat hlt4 hown0 hfar
            go_wp2_with fail
            go_roundw
            case rel => exact ⟨q + 1, by omega, by go_num, HO2.out, hb4⟩
            case measure => simp [intOf]; omega
          · have c1i : ¬ (wq : Int) < (wj : Int) := by omega
            have c1d : decide (wq < wj) = false := by rw [decide_eq_false_iff_not]; exact c1
            by_cases c2 : wq = wj
            · have c2i : ((wq : Int) == (wj : Int)) = true := by rw [c2]; simp
              by_cases c3 : q < j
              · have c3i : (q : Int) < (j : Int) := by omega
                have HY : Hid (D q = true) := HA.out.2 (Or.inr ⟨c2, c3⟩)
                clear c2
                go_wp2_with fail
                go_quiet (fail)
                obtain ⟨V, hV⟩ : ∃ V : World, wr.drewN nq = V := ⟨_, rfl⟩
                have HO1 : Hid (V.ownsRow W.heap.size 52 2 u7 (picked q ed D).length (twos (picked q ed D))) := by
                  show V.ownsRow W.heap.size 52 2 u7 (picked q ed D).length (twos (picked q ed D))
                  rw [← hV]
                  exact ownsRow_keepS HO.out (fun k hk => (Un.below_drewN (n := nq) rfl).block k (own_heapS HO.out hk).2)
                have HB1 : Hid (Below W.heap.size W V) := by show Below W.heap.size W V; rw [← hV]; exact HB.out.trans ((Un.below_drewN (n := nq) rfl).mono HB.out.size)
                replace q1 : V.cell? ⟨b, oo + q * 3, none⟩ = some (.int .i64 (x1 : Nat)) := by rw [← hV]; exact Un.cell_keep (Un.below_drewN (n := nq) rfl) q1
                replace q2 : V.cell? ⟨b, oo + q * 3 + 1, none⟩ = some (.int .i64 (x2 : Nat)) := by rw [← hV]; exact Un.cell_keep (Un.below_drewN (n := nq) rfl) q2
                have HLt1 : Hid (b < W.heap.size ∧ b < V.heap.size) := ⟨HLt.out.1, World.block_lt_of_cell? _ _ q1⟩
                clear q3 q4
                rw [hV]
                clear hV HO HB HLt
                go_wp2_with fail
                have hlen := picked_len q ed D
                have hown0 : ∀ o : Obj, Hid ((V.alloc o).drew.ownsRow W.heap.size 52 2 u7 (picked q ed D).length (twos (picked q ed D))) := fun o => HO1.out.alloc o
                have hbase : W.heap.size ≤ (V.alloc (.cells #[.int .i64 (x1 : Nat), .int .i64 (x2 : Nat)] 52)).drew.heap.size := Nat.le_trans HB1.out.size (by simp)
                have hfar : ∀ k, u7.ownBlock = some k → b ≠ k := fun k hk e => by have := (own_heapS HO1.out hk).1; have := HLt1.out.1; omega
                have hlt2 := HLt1.out.2
                go_region_held3 (fun V => V.cell? ⟨b, oo + q * 3, none⟩ = some (.int .i64 (x1 : Nat)) ∧ V.cell? ⟨b, oo + q * 3 + 1, none⟩ = some (.int .i64 (x2 : Nat)))
                  (first
                    | (go_keep; done)
                    | exact ⟨(hgrow.cell_far ⟨b, oo + q * 3, none⟩ (by simp; omega) (fun e => hfar b e.symm rfl)).trans (Un.cell_keep (((Below.refl _ _).alloc (Nat.le_refl _) _).drew) q1), (hgrow.cell_far ⟨b, oo + q * 3 + 1, none⟩ (by simp; omega) (fun e => hfar b e.symm rfl)).trans (Un.cell_keep (((Below.refl _ _).alloc (Nat.le_refl _) _).drew) q2)⟩)
                  ((refine step_append_lies _ (by rfl) (.tmp 51) (.tmp 65) 77 (by rfl) W.heap.size 52 z0 (.agg #[.int .i64 0, .int .i64 0]) 2 16 Tryd.underlying77 hi0 hz0 hz1 hz2 rfl (by decide) u7 (picked q ed D).length (twos (picked q ed D)) (by simp [Act.eval]) (hown0 _).out ⟨V.heap.size, 0, none⟩ 1 1 (two (x1, x2)) (by simp [Act.eval]) rfl (by exact two_new _ _ _) (by simp [two, Value.oneCell']) (by decide) (by unfold maxLen; omega) (by omega) hbase _ rfl ?_; intro g2 cap2 w4 hown2 hgrow hat hlt4))
                have hb4 : Below W.heap.size W w4 := ((HB1.out.alloc HB1.out.size _).drew).grown hgrow (by simp; have := HB1.out.size; omega) (fun k e => (own_heapS HO1.out e).1)
                have HO2 : Hid (w4.ownsRow W.heap.size 52 2 (.slice (some ⟨g2, 0, none⟩) ((picked q ed D).length + 1) cap2) (picked (q + 1) ed D).length (twos (picked (q + 1) ed D))) := by
                  show w4.ownsRow W.heap.size 52 2 (.slice (some ⟨g2, 0, none⟩) ((picked q ed D).length + 1) cap2) (picked (q + 1) ed D).length (twos (picked (q + 1) ed D))
                  rw [picked_succ, if_pos HY.out, HX.out, twos_snoc, List.length_append]
                  exact hown2
                clear hown2 hgrow hat hlt4 hown0 hfar
                go_wp2_with fail
                go_roundw
                case rel => exact ⟨q + 1, by omega, by go_num, HO2.out, hb4⟩
                case measure => simp [intOf]; omega
              · have c3i : ¬ (q : Int) < (j : Int) := by omega
                have c3d : decide (q < j) = false := by rw [decide_eq_false_iff_not]; exact c3
                have HY : Hid (¬ D q = true) := fun h => by rcases HA.out.1 h with h | h <;> omega
                clear c2
                go_wp2_with fail
                go_quiet (fail)
                go_wp2_with fail
                have HO2 : Hid ((wr.drewN nq).ownsRow W.heap.size 52 2 u7 (picked (q + 1) ed D).length (twos (picked (q + 1) ed D))) := by
                  show (wr.drewN nq).ownsRow W.heap.size 52 2 u7 (picked (q + 1) ed D).length (twos (picked (q + 1) ed D))
                  rw [picked_succ, if_neg HY.out, List.append_nil]
                  exact ownsRow_keepS HO.out (fun k hk => (Un.below_drewN (n := nq) rfl).block k (own_heapS HO.out hk).2)
                have hb4 : Below W.heap.size W (wr.drewN nq) := HB.out.trans ((Un.below_drewN (n := nq) rfl).mono HB.out.size)
                go_roundw
                case rel => exact ⟨q + 1, by omega, by go_num, HO2.out, hb4⟩
                case measure => simp [intOf]; omega
            · have c2i : ((wq : Int) == (wj : Int)) = false := by rw [beq_eq_false_iff_ne]; omega
              have HY : Hid (¬ D q = true) := fun h => by rcases HA.out.1 h with h | h <;> omega
              clear c2
              go_wp2_with fail
              go_quiet (fail)
              go_wp2_with fail
              have HO2 : Hid ((wr.drewN nq).ownsRow W.heap.size 52 2 u7 (picked (q + 1) ed D).length (twos (picked (q + 1) ed D))) := by
                show (wr.drewN nq).ownsRow W.heap.size 52 2 u7 (picked (q + 1) ed D).length (twos (picked (q + 1) ed D))
                rw [picked_succ, if_neg HY.out, List.append_nil]
                exact ownsRow_keepS HO.out (fun k hk => (Un.below_drewN (n := nq) rfl).block k (own_heapS HO.out hk).2)
              have hb4 : Below W.heap.size W (wr.drewN nq) := HB.out.trans ((Un.below_drewN (n := nq) rfl).mono HB.out.size)
              go_roundw
              case rel => exact ⟨q + 1, by omega, by go_num, HO2.out, hb4⟩
              case measure => simp [intOf]; omega
        · obtain rfl : q = m := by omega
          obtain ⟨al, cl, rfl, hEd⟩ := own_edges HO.out rfl
          obtain ⟨p, hp⟩ := rest_of (picked q ed D)
          have ham : Among n (picked q ed D) := fun e he => by
            obtain ⟨k, h1, _, rfl⟩ := mem_picked.1 he
            exact hE.among k h1
          have hpo := parts_of (c := cl) (p := p) hEd rfl (by have := picked_len q ed D; omega) n hE.n1 hE.n60 ham hp
          have HT : Hid (p (ed j).1 ≠ p (ed j).2 ↔ t j = true) := by
            show p (ed j).1 ≠ p (ed j).2 ↔ t j = true
            rw [ne_eq, hp.same, HD.out]
            exact (ht j).symm
          clear hEd ham hp
          go_wp2_with fail
          refine hpo.mono ?_
          rintro e w5 ⟨kk, cap, rfl, hb5, hk5, hc5⟩
          clear hpo
          have HB5 : Hid (Below W.heap.size W w5) := HB.out.trans (hb5.mono HB.out.size)
          obtain ⟨b, oo, ea, q1, q2, -⟩ := (HVW.out.below HB5.out) j hlt
          obtain ⟨hx1n, hx2n⟩ := hE.among j hlt
          have d1 := hc5 _ hx1n
          have d2 := hc5 _ hx2n
          obtain ⟨x1, hx1⟩ : ∃ x1, (ed j).1 = x1 := ⟨_, rfl⟩
          obtain ⟨x2, hx2⟩ : ∃ x2, (ed j).2 = x2 := ⟨_, rfl⟩
          rw [hx1] at q1 d1 hx1n
          rw [hx2] at q2 d2 hx2n
          have HT2 : Hid (p x1 ≠ p x2 ↔ t j = true) := by have := HT.out; rw [hx1, hx2] at this; exact this
          clear hx1 hx2 hc5
          subst ea
          generalize p x1 = p1 at *
          generalize p x2 = p2 at *
          have i4 : (0 : Int) ≤ (x1 : Int) := by omega
          have i5 : (x1 : Int) < (n : Int) := by omega
          have i6 : (0 : Int) ≤ (x2 : Int) := by omega
          have i7 : (x2 : Int) < (n : Int) := by omega
          by_cases htj : p1 = p2
          · have hne : (((p1 : Nat) : Int) != ((p2 : Nat) : Int)) = false := by rw [htj]; simp
            have HY : Hid (¬ t j = true) := fun h => HT2.out.2 h htj
            clear htj
            go_wp2_with fail
            go_quiet (fail)
            go_wp2_with fail
            have hbd : Below W.heap.size W (w5.drewN nq) := HB5.out.trans ((Un.below_drewN (n := nq) rfl).mono HB5.out.size)
            have HO2 : Hid ((w5.drewN nq).ownsRow w.heap.size 3 1 u5 ((List.range (j + 1)).filter t).length (ints ((List.range (j + 1)).filter t))) := by
              show (w5.drewN nq).ownsRow w.heap.size 3 1 u5 ((List.range (j + 1)).filter t).length (ints ((List.range (j + 1)).filter t))
              rw [filter_succ, if_neg HY.out, List.append_nil]
              exact Un.ownsRow_keep HOut.out (fun k hk => hbd.block k (Un.own_heap HOut.out hk).2)
            go_roundw
            case rel => exact ⟨j + 1, by omega, by go_num, HO2.out, HB0.out.trans (hbd.mono HB0.out.size)⟩
            case measure => simp [intOf]; omega
          · have hne : (((p1 : Nat) : Int) != ((p2 : Nat) : Int)) = true := by rw [bne_iff_ne]; omega
            have HY : Hid (t j = true) := HT2.out.1 htj
            clear htj
            go_wp2_with fail
            go_quiet (fail)
            have hbd : Below W.heap.size W (w5.drewN nq) := HB5.out.trans ((Un.below_drewN (n := nq) rfl).mono HB5.out.size)
            have HO1 : Hid ((w5.drewN nq).ownsRow w.heap.size 3 1 u5 ((List.range j).filter t).length (ints ((List.range j).filter t))) := Un.ownsRow_keep HOut.out (fun k hk => hbd.block k (Un.own_heap HOut.out hk).2)
            generalize w5.drewN nq = V at *
            have hsz : w.heap.size ≤ V.heap.size := Nat.le_trans HB0.out.size hbd.size
            have hlen : ((List.range j).filter t).length ≤ j := by have := List.length_filter_le t (List.range j); simpa using this
            clear q1 q2 d1 d2
            go_wp2_with (first
              | (at_builtin; refine wpList_append_lies _ rfl (.tmp 89) (.tmp 91) 25 rfl w.heap.size 3 y0 (.int .i64 0) 1 8 Tryd.underlying25 hj0 hy0 hy1 hy2 rfl (by decide) u5 ((List.range j).filter t).length (ints ((List.range j).filter t)) rfl (HO1.out.alloc _) ⟨V.heap.size, 0, none⟩ 1 1 [.int .i64 (j : Int)] rfl rfl ?c1 ?c2 (by decide) ?c3 ?c4 ?c5 _ rfl ?_))
            case c1 => exact cell_one_new _ _ _
            case c2 => intro u hu; simp at hu; subst hu; rfl
            case c3 => unfold maxLen; omega
            case c4 => omega
            case c5 => simp; omega
            intro g1 cap1 w6 hown6 hgrow6 hat6 hlt6
            have HO2 : Hid (w6.ownsRow w.heap.size 3 1 (.slice (some ⟨g1, 0, none⟩) (((List.range j).filter t).length + 1) cap1) ((List.range (j + 1)).filter t).length (ints ((List.range (j + 1)).filter t))) := by
              show w6.ownsRow w.heap.size 3 1 (.slice (some ⟨g1, 0, none⟩) (((List.range j).filter t).length + 1) cap1) ((List.range (j + 1)).filter t).length (ints ((List.range (j + 1)).filter t))
              rw [filter_succ, if_pos HY.out, List.length_append, show ints ((List.range j).filter t ++ [j]) = ints ((List.range j).filter t) ++ [.int .i64 (j : Int)] by simp [ints]]
              exact hown6
            have hb6 : Below w.heap.size w w6 := ((HB0.out.trans (hbd.mono HB0.out.size)).alloc hsz _).grown hgrow6 (by simp; omega) (fun k e => (Un.own_heap HO1.out e).1)
            clear hown6 hgrow6 hat6 hlt6
            go_wp2_with fail
            go_roundw
            case rel => exact ⟨j + 1, by omega, by go_num, HO2.out, hb6⟩
            case measure => simp [intOf]; omega
    · obtain rfl : j = m := by omega
      have HP : Hid (PlacesAt W u5 ((List.range j).filter t)) := own_places HOut.out
      go_wp2_with fail
      go_ret
      exact ⟨u5, rfl, HB0.out, HP.out⟩

end Go.Proofs.YtffpkclefgidhaaDoor.Sp
