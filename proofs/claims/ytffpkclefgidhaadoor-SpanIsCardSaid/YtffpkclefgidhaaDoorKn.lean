/-
  The statements' own answer: the neck of all ways between two nodes.
-/
import Derived.Test.YtffpkclefgidhaaDoorKm
namespace Go.Proofs.YtffpkclefgidhaaDoor.Sp
open Go.RowKit Go.Deep
open Go.Proofs.YtffpkclefgidhaaDoor.Un
open Go.RowKit (Below)
set_option linter.unusedVariables false

variable {m n : Nat} {ed : Nat → Nat × Nat} {wt : Nat → Nat} {w : World}

/-- The least weight so far up to which there is a way. -/
def Best (m : Nat) (ed : Nat → Nat × Nat) (wt : Nat → Nat) (x y j : Nat) (z : Int) : Prop :=
  (z = -1 ∧ ∀ i, i < j → ¬ Conn (upto m ed wt (wt i)) x y) ∨ ∃ V : Nat, z = V ∧ Conn (upto m ed wt V) x y ∧ ∀ i, i < j → Conn (upto m ed wt (wt i)) x y → V ≤ wt i

theorem Best.low {x y j : Nat} {z : Int} (h : Best m ed wt x y j z) : -1 ≤ z := by
  rcases h with ⟨h, _⟩ | ⟨V, h, _⟩ <;> omega

/-- An edge that is no lighter than the best is passed by. -/
theorem Best.pass {x y j : Nat} {z : Int} (h : Best m ed wt x y j z) (h0 : 0 ≤ z) (hw : z ≤ wt j) : Best m ed wt x y (j + 1) z := by
  rcases h with ⟨h, _⟩ | ⟨V, h, hc, hl⟩
  · omega
  · refine Or.inr ⟨V, h, hc, fun i hi hci => ?_⟩
    rcases Nat.lt_or_ge i j with h1 | h1
    · exact hl i h1 hci
    · obtain rfl : i = j := by omega
      omega

theorem Best.no {x y j : Nat} {z : Int} (h : Best m ed wt x y j z) (hn : ¬ Conn (upto m ed wt (wt j)) x y) : Best m ed wt x y (j + 1) z := by
  rcases h with ⟨h, hl⟩ | ⟨V, h, hc, hl⟩
  · refine Or.inl ⟨h, fun i hi => ?_⟩
    rcases Nat.lt_or_ge i j with h1 | h1
    · exact hl i h1
    · obtain rfl : i = j := by omega
      exact hn
  · refine Or.inr ⟨V, h, hc, fun i hi hci => ?_⟩
    rcases Nat.lt_or_ge i j with h1 | h1
    · exact hl i h1 hci
    · obtain rfl : i = j := by omega
      exact absurd hci hn

theorem Best.yes {x y j : Nat} {z : Int} (h : Best m ed wt x y j z) (hz : z < 0 ∨ (wt j : Int) < z) (hc : Conn (upto m ed wt (wt j)) x y) : Best m ed wt x y (j + 1) (wt j : Nat) := by
  refine Or.inr ⟨wt j, rfl, hc, fun i hi hci => ?_⟩
  rcases Nat.lt_or_ge i j with h1 | h1
  · rcases h with ⟨_, hl⟩ | ⟨V, h, _, hl⟩
    · exact absurd hci (hl i h1)
    · have := hl i h1 hci
      omega
  · obtain rfl : i = j := by omega
    exact Nat.le_refl _

/-- What NeckOf answers. -/
def NeckRef (m : Nat) (ed : Nat → Nat × Nat) (wt : Nat → Nat) (x y : Nat) (z : Int) (ok : Bool) : Prop :=
  (x = y ∧ z = 0 ∧ ok = true) ∨ (x ≠ y ∧ Best m ed wt x y m z ∧ ok = decide (0 ≤ z))

def NeckOfPost (m : Nat) (ed : Nat → Nat × Nat) (wt : Nat → Nat) (x y : Nat) (w : World) (e : Ending) (w' : World) : Prop :=
  ∃ (z : Int) (ok : Bool), e = .returned (.tuple #[.int .i64 z, .bool ok]) ∧ Below w.heap.size w w' ∧ NeckRef m ed wt x y z ok

set_option maxRecDepth 100000 in
set_option maxHeartbeats 4000000 in
theorem neckOf_any {a : Option Addr} {c : Nat} (h : HvAt w a m ed wt) (hE : Edgs n m ed wt) (x y : Nat) (hx : x < n) (hy : y < n) :
    Calls Tryd.prog 22 #[.int .i64 (n : Nat), .slice a m c, .int .i64 (x : Nat), .int .i64 (y : Nat)] w (NeckOfPost m ed wt x y w) := by
  obtain ⟨z0, hi0, hz0, hz1, hz2⟩ := info_parts Tryd.infoEdge
  have HV : Hid (HvAt w a m ed wt) := h
  have hm2 := hE.m200
  clear h
  by_cases hxy : x = y
  · subst hxy
    go_enter Tryd.func22, Tryd.ntmps22
    go_wp2_with fail
    go_ret2
    exact ⟨0, true, rfl, Below.refl _ _, Or.inl ⟨rfl, rfl, rfl⟩⟩
  have hxe : (((x : Nat) : Int) == ((y : Nat) : Int)) = false := by rw [beq_eq_false_iff_ne]; omega
  have HXY : Hid (x ≠ y) := hxy
  have n0 : (0 : Int) ≤ (x : Int) := by omega
  have n1 : (x : Int) < (n : Int) := by omega
  have n2 : (0 : Int) ≤ (y : Int) := by omega
  have n3 : (y : Int) < (n : Int) := by omega
  clear hxy
  go_enter Tryd.func22, Tryd.ntmps22
  go_wp2_with fail
  go_loopw [10, 11, 12, 13, 14] (fun best i _ _ _ wr => ∃ (j : Nat) (z : Int), j ≤ m ∧ i = .int .i64 (j : Nat) ∧ best = .int .i64 z ∧ Best m ed wt x y j z ∧ Below w.heap.size w wr) (fun _ i _ _ _ _ => m - (intOf i).toNat)
  case atStart => exact ⟨0, -1, Nat.zero_le _, rfl, rfl, Or.inl ⟨rfl, fun i hi => absurd hi (Nat.not_lt_zero _)⟩, Below.refl _ _⟩
  case round =>
    obtain ⟨j, z, hj, rfl, rfl, hbest, hb⟩ := hrel
    obtain ⟨W, rfl⟩ : ∃ W : World, W = wr := ⟨_, rfl⟩
    have HBest : Hid (Best m ed wt x y j z) := hbest
    have HB0 : Hid (Below w.heap.size w W) := hb
    clear hbest hb
    by_cases hlt : j < m
    · have HVW : Hid (HvAt W a m ed wt) := HV.out.below HB0.out
      obtain ⟨b0, oo0, ea0, -, -, c0⟩ := HVW.out j hlt
      obtain ⟨wj, hwj⟩ : ∃ wj, wt j = wj := ⟨_, rfl⟩
      rw [hwj] at c0
      have HWJ : Hid (wt j = wj) := hwj
      clear hwj
      have i0 : (0 : Int) ≤ (j : Int) := by omega
      have i1 : (j : Int) < (m : Int) := by omega
      subst ea0
      obtain ⟨D, hD⟩ : ∃ D : Nat → Bool, D = fun k => decide (wt k ≤ wt j) := ⟨_, rfl⟩
      have HD : Hid (D = fun k => decide (wt k ≤ wt j)) := hD
      clear hD
      by_cases hpass : 0 ≤ z ∧ z ≤ (wj : Int)
      · obtain ⟨p1, p2⟩ := hpass
        have HN : Hid (Best m ed wt x y (j + 1) z) := HBest.out.pass p1 (by rw [HWJ.out]; exact p2)
        go_wp2_with fail
        go_roundw
        case rel => exact ⟨j + 1, z, by omega, by go_num, rfl, HN.out, HB0.out⟩
        case measure => simp [intOf]; omega
      · have HZ : Hid (z < 0 ∨ (wt j : Int) < z) := by show z < 0 ∨ (wt j : Int) < z; rw [HWJ.out]; omega
        have hz2' : 0 ≤ z → ¬ z ≤ (wj : Int) := fun h1 h2 => hpass ⟨h1, h2⟩
        clear hpass
        by_cases hz : 0 ≤ z
        · have hz3 := hz2' hz
          have hz4 : decide (z ≤ (wj : Int)) = false := by rw [decide_eq_false_iff_not]; exact hz3
          clear hz2'
          go_wp2_with fail
          go_loopw [12, 13] (fun lg k wi => ∃ q : Nat, q ≤ m ∧ k = .int .i64 (q : Nat) ∧ wi.ownsRow W.heap.size 52 2 lg (picked q ed D).length (twos (picked q ed D)) ∧ Below W.heap.size W wi) (fun _ k _ => m - (intOf k).toNat)
          case atStart => exact ⟨0, Nat.zero_le _, rfl, World.ownsRow_nil .., Below.refl _ _⟩
          case round =>
            obtain ⟨q, hq, rfl, hown, hb⟩ := hrel
            have HO : Hid (wr.ownsRow W.heap.size 52 2 u12 (picked q ed D).length (twos (picked q ed D))) := hown
            have HB : Hid (Below W.heap.size W wr) := hb
            clear hown hb
            by_cases hqm : q < m
            · obtain ⟨b, oo, ea, q1, q2, q3⟩ := (HVW.out.below HB.out) q hqm
              obtain ⟨b', oo', ea', -, -, q4⟩ := (HVW.out.below HB.out) j hlt
              simp only [Option.some.injEq, Addr.mk.injEq, and_true] at ea ea'
              obtain ⟨rfl, rfl⟩ := ea
              obtain ⟨rfl, rfl⟩ := ea'
              have HLt : Hid (b0 < W.heap.size ∧ b0 < wr.heap.size) := ⟨HVW.out.lt rfl (by omega), World.block_lt_of_cell? _ _ q1⟩
              obtain ⟨x1, hx1⟩ : ∃ x1, (ed q).1 = x1 := ⟨_, rfl⟩
              obtain ⟨x2, hx2⟩ : ∃ x2, (ed q).2 = x2 := ⟨_, rfl⟩
              have HX : Hid (ed q = (x1, x2)) := Prod.ext hx1 hx2
              rw [hx1] at q1
              rw [hx2] at q2
              obtain ⟨wq, hwq⟩ : ∃ wq, wt q = wq := ⟨_, rfl⟩
              rw [hwq] at q3
              rw [HWJ.out] at q4
              have HA : Hid (D q = true ↔ wq ≤ wj) := by show D q = true ↔ _; rw [HD.out, decide_eq_true_iff, hwq, HWJ.out]
              clear hx1 hx2 hwq c0
              have i2 : (0 : Int) ≤ (q : Int) := by omega
              have i3 : (q : Int) < (m : Int) := by omega
              by_cases c1 : wq ≤ wj
              · have c1i : (wq : Int) ≤ (wj : Int) := by omega
                have HY : Hid (D q = true) := HA.out.2 c1
                go_wp2_with fail
                go_quiet (fail)
                obtain ⟨V, hV⟩ : ∃ V : World, wr.drewN nq = V := ⟨_, rfl⟩
                have HO1 : Hid (V.ownsRow W.heap.size 52 2 u12 (picked q ed D).length (twos (picked q ed D))) := by
                  show V.ownsRow W.heap.size 52 2 u12 (picked q ed D).length (twos (picked q ed D))
                  rw [← hV]
                  exact ownsRow_keepS HO.out (fun k hk => (Un.below_drewN (n := nq) rfl).block k (own_heapS HO.out hk).2)
                have HB1 : Hid (Below W.heap.size W V) := by show Below W.heap.size W V; rw [← hV]; exact HB.out.trans ((Un.below_drewN (n := nq) rfl).mono HB.out.size)
                replace q1 : V.cell? ⟨b0, oo0 + q * 3, none⟩ = some (.int .i64 (x1 : Nat)) := by rw [← hV]; exact Un.cell_keep (Un.below_drewN (n := nq) rfl) q1
                replace q2 : V.cell? ⟨b0, oo0 + q * 3 + 1, none⟩ = some (.int .i64 (x2 : Nat)) := by rw [← hV]; exact Un.cell_keep (Un.below_drewN (n := nq) rfl) q2
                have HLt1 : Hid (b0 < W.heap.size ∧ b0 < V.heap.size) := ⟨HLt.out.1, World.block_lt_of_cell? _ _ q1⟩
                clear q3 q4
                rw [hV]
                clear hV HO HB HLt
                go_wp2_with fail
                have hlen := picked_len q ed D
                have hown0 : ∀ o : Obj, Hid ((V.alloc o).drew.ownsRow W.heap.size 52 2 u12 (picked q ed D).length (twos (picked q ed D))) := fun o => HO1.out.alloc o
                have hbase : W.heap.size ≤ (V.alloc (.cells #[.int .i64 (x1 : Nat), .int .i64 (x2 : Nat)] 52)).drew.heap.size := Nat.le_trans HB1.out.size (by simp)
                have hfar : ∀ k, u12.ownBlock = some k → b0 ≠ k := fun k hk e => by have := (own_heapS HO1.out hk).1; have := HLt1.out.1; omega
                have hlt2 := HLt1.out.2
                go_region_held3 (fun V => V.cell? ⟨b0, oo0 + q * 3, none⟩ = some (.int .i64 (x1 : Nat)) ∧ V.cell? ⟨b0, oo0 + q * 3 + 1, none⟩ = some (.int .i64 (x2 : Nat)))
                  (first
                    | (go_keep; done)
                    | exact ⟨(hgrow.cell_far ⟨b0, oo0 + q * 3, none⟩ (by simp; omega) (fun e => hfar b0 e.symm rfl)).trans (Un.cell_keep (((Below.refl _ _).alloc (Nat.le_refl _) _).drew) q1), (hgrow.cell_far ⟨b0, oo0 + q * 3 + 1, none⟩ (by simp; omega) (fun e => hfar b0 e.symm rfl)).trans (Un.cell_keep (((Below.refl _ _).alloc (Nat.le_refl _) _).drew) q2)⟩)
                  ((refine step_append_lies _ (by rfl) (.tmp 52) (.tmp 66) 77 (by rfl) W.heap.size 52 z0 (.agg #[.int .i64 0, .int .i64 0]) 2 16 Tryd.underlying77 hi0 hz0 hz1 hz2 rfl (by decide) u12 (picked q ed D).length (twos (picked q ed D)) (by simp [Act.eval]) (hown0 _).out ⟨V.heap.size, 0, none⟩ 1 1 (two (x1, x2)) (by simp [Act.eval]) rfl (by exact two_new _ _ _) (by simp [two, Value.oneCell']) (by decide) (by unfold maxLen; omega) (by omega) hbase _ rfl ?_; intro g2 cap2 w4 hown2 hgrow hat hlt4))
                have hb4 : Below W.heap.size W w4 := ((HB1.out.alloc HB1.out.size _).drew).grown hgrow (by simp; have := HB1.out.size; omega) (fun k e => (own_heapS HO1.out e).1)
                have HO2 : Hid (w4.ownsRow W.heap.size 52 2 (.slice (some ⟨g2, 0, none⟩) ((picked q ed D).length + 1) cap2) (picked (q + 1) ed D).length (twos (picked (q + 1) ed D))) := by
                  show w4.ownsRow W.heap.size 52 2 (.slice (some ⟨g2, 0, none⟩) ((picked q ed D).length + 1) cap2) (picked (q + 1) ed D).length (twos (picked (q + 1) ed D))
                  rw [picked_succ, if_pos HY.out, HX.out, twos_snoc, List.length_append]
                  exact hown2
                clear hown2 hgrow hat hlt4 hown0 hfar
                go_wp2_with fail
                go_roundw
                case rel => exact ⟨q + 1, by omega, by go_num, HO2.out, hb4⟩
                case measure => simp [intOf]; omega
              · have c1i : ¬ (wq : Int) ≤ (wj : Int) := by omega
                have c1d : decide (wq ≤ wj) = false := by rw [decide_eq_false_iff_not]; exact c1
                have HY : Hid (¬ D q = true) := fun h => c1 (HA.out.1 h)
                go_wp2_with fail
                go_quiet (fail)
                go_wp2_with fail
                have HO2 : Hid ((wr.drewN nq).ownsRow W.heap.size 52 2 u12 (picked (q + 1) ed D).length (twos (picked (q + 1) ed D))) := by
                  show (wr.drewN nq).ownsRow W.heap.size 52 2 u12 (picked (q + 1) ed D).length (twos (picked (q + 1) ed D))
                  rw [picked_succ, if_neg HY.out, List.append_nil]
                  exact ownsRow_keepS HO.out (fun k hk => (Un.below_drewN (n := nq) rfl).block k (own_heapS HO.out hk).2)
                have hb4 : Below W.heap.size W (wr.drewN nq) := HB.out.trans ((Un.below_drewN (n := nq) rfl).mono HB.out.size)
                go_roundw
                case rel => exact ⟨q + 1, by omega, by go_num, HO2.out, hb4⟩
                case measure => simp [intOf]; omega
            · obtain rfl : q = m := by omega
              obtain ⟨al, cl, rfl, hEd⟩ := own_edges HO.out rfl
              obtain ⟨p, hp⟩ := rest_of (picked q ed D)
              have ham : Among n (picked q ed D) := fun e he => by
                obtain ⟨k, h1, _, rfl⟩ := mem_picked.1 he
                exact hE.among k h1
              have hpo := parts_of (c := cl) (p := p) hEd rfl (by have := picked_len q ed D; omega) n hE.n1 hE.n60 ham hp
              have HT : Hid (p x = p y ↔ Conn (upto q ed wt (wt j)) x y) := by
                show p x = p y ↔ _
                rw [hp.same, HD.out]
                exact Iff.rfl
              clear hEd ham hp
              go_wp2_with fail
              refine hpo.mono ?_
              rintro e w5 ⟨kk, cap, rfl, hb5, hk5, hc5⟩
              clear hpo
              have HB5 : Hid (Below W.heap.size W w5) := HB.out.trans (hb5.mono HB.out.size)
              have d1 := hc5 _ hx
              have d2 := hc5 _ hy
              have c5 := Un.cell_keep HB5.out c0
              clear hc5
              generalize p x = p1 at *
              generalize p y = p2 at *
              by_cases htj : p1 = p2
              · have hne : (((p1 : Nat) : Int) == ((p2 : Nat) : Int)) = true := by rw [htj]; simp
                have HN : Hid (Best q ed wt x y (j + 1) (wj : Nat)) := by have := HBest.out.yes HZ.out (HT.out.1 htj); rw [HWJ.out] at this; exact this
                clear htj
                go_wp2_with fail
                go_quiet (fail)
                have hbd : Below W.heap.size W (w5.drewN nq) := HB5.out.trans ((Un.below_drewN (n := nq) rfl).mono HB5.out.size)
                replace c5 := Un.cell_keep (Un.below_drewN (n := nq) rfl) c5
                generalize w5.drewN nq = V at *
                clear d1 d2
                go_wp2_with fail
                go_roundw
                case rel => exact ⟨j + 1, (wj : Nat), by omega, by go_num, rfl, HN.out, HB0.out.trans (hbd.mono HB0.out.size)⟩
                case measure => simp [intOf]; omega
              · have hne : (((p1 : Nat) : Int) == ((p2 : Nat) : Int)) = false := by rw [beq_eq_false_iff_ne]; omega
                have HN : Hid (Best q ed wt x y (j + 1) z) := HBest.out.no (fun h => htj (HT.out.2 h))
                clear htj
                go_wp2_with fail
                go_quiet (fail)
                go_wp2_with fail
                have hbd : Below W.heap.size W (w5.drewN nq) := HB5.out.trans ((Un.below_drewN (n := nq) rfl).mono HB5.out.size)
                go_roundw
                case rel => exact ⟨j + 1, z, by omega, by go_num, rfl, HN.out, HB0.out.trans (hbd.mono HB0.out.size)⟩
                case measure => simp [intOf]; omega
        · clear hz2'
          have hz4 : decide (0 ≤ z) = false := by rw [decide_eq_false_iff_not]; exact hz
          go_wp2_with fail
          go_loopw [12, 13] (fun lg k wi => ∃ q : Nat, q ≤ m ∧ k = .int .i64 (q : Nat) ∧ wi.ownsRow W.heap.size 52 2 lg (picked q ed D).length (twos (picked q ed D)) ∧ Below W.heap.size W wi) (fun _ k _ => m - (intOf k).toNat)
          case atStart => exact ⟨0, Nat.zero_le _, rfl, World.ownsRow_nil .., Below.refl _ _⟩
          case round =>
            obtain ⟨q, hq, rfl, hown, hb⟩ := hrel
            have HO : Hid (wr.ownsRow W.heap.size 52 2 u12 (picked q ed D).length (twos (picked q ed D))) := hown
            have HB : Hid (Below W.heap.size W wr) := hb
            clear hown hb
            by_cases hqm : q < m
            · obtain ⟨b, oo, ea, q1, q2, q3⟩ := (HVW.out.below HB.out) q hqm
              obtain ⟨b', oo', ea', -, -, q4⟩ := (HVW.out.below HB.out) j hlt
              simp only [Option.some.injEq, Addr.mk.injEq, and_true] at ea ea'
              obtain ⟨rfl, rfl⟩ := ea
              obtain ⟨rfl, rfl⟩ := ea'
              have HLt : Hid (b0 < W.heap.size ∧ b0 < wr.heap.size) := ⟨HVW.out.lt rfl (by omega), World.block_lt_of_cell? _ _ q1⟩
              obtain ⟨x1, hx1⟩ : ∃ x1, (ed q).1 = x1 := ⟨_, rfl⟩
              obtain ⟨x2, hx2⟩ : ∃ x2, (ed q).2 = x2 := ⟨_, rfl⟩
              have HX : Hid (ed q = (x1, x2)) := Prod.ext hx1 hx2
              rw [hx1] at q1
              rw [hx2] at q2
              obtain ⟨wq, hwq⟩ : ∃ wq, wt q = wq := ⟨_, rfl⟩
              rw [hwq] at q3
              rw [HWJ.out] at q4
              have HA : Hid (D q = true ↔ wq ≤ wj) := by show D q = true ↔ _; rw [HD.out, decide_eq_true_iff, hwq, HWJ.out]
              clear hx1 hx2 hwq c0
              have i2 : (0 : Int) ≤ (q : Int) := by omega
              have i3 : (q : Int) < (m : Int) := by omega
              by_cases c1 : wq ≤ wj
              · have c1i : (wq : Int) ≤ (wj : Int) := by omega
                have HY : Hid (D q = true) := HA.out.2 c1
                go_wp2_with fail
                go_quiet (fail)
                obtain ⟨V, hV⟩ : ∃ V : World, wr.drewN nq = V := ⟨_, rfl⟩
                have HO1 : Hid (V.ownsRow W.heap.size 52 2 u12 (picked q ed D).length (twos (picked q ed D))) := by
                  show V.ownsRow W.heap.size 52 2 u12 (picked q ed D).length (twos (picked q ed D))
                  rw [← hV]
                  exact ownsRow_keepS HO.out (fun k hk => (Un.below_drewN (n := nq) rfl).block k (own_heapS HO.out hk).2)
                have HB1 : Hid (Below W.heap.size W V) := by show Below W.heap.size W V; rw [← hV]; exact HB.out.trans ((Un.below_drewN (n := nq) rfl).mono HB.out.size)
                replace q1 : V.cell? ⟨b0, oo0 + q * 3, none⟩ = some (.int .i64 (x1 : Nat)) := by rw [← hV]; exact Un.cell_keep (Un.below_drewN (n := nq) rfl) q1
                replace q2 : V.cell? ⟨b0, oo0 + q * 3 + 1, none⟩ = some (.int .i64 (x2 : Nat)) := by rw [← hV]; exact Un.cell_keep (Un.below_drewN (n := nq) rfl) q2
                have HLt1 : Hid (b0 < W.heap.size ∧ b0 < V.heap.size) := ⟨HLt.out.1, World.block_lt_of_cell? _ _ q1⟩
                clear q3 q4
                rw [hV]
                clear hV HO HB HLt
                go_wp2_with fail
                have hlen := picked_len q ed D
                have hown0 : ∀ o : Obj, Hid ((V.alloc o).drew.ownsRow W.heap.size 52 2 u12 (picked q ed D).length (twos (picked q ed D))) := fun o => HO1.out.alloc o
                have hbase : W.heap.size ≤ (V.alloc (.cells #[.int .i64 (x1 : Nat), .int .i64 (x2 : Nat)] 52)).drew.heap.size := Nat.le_trans HB1.out.size (by simp)
                have hfar : ∀ k, u12.ownBlock = some k → b0 ≠ k := fun k hk e => by have := (own_heapS HO1.out hk).1; have := HLt1.out.1; omega
                have hlt2 := HLt1.out.2
                go_region_held3 (fun V => V.cell? ⟨b0, oo0 + q * 3, none⟩ = some (.int .i64 (x1 : Nat)) ∧ V.cell? ⟨b0, oo0 + q * 3 + 1, none⟩ = some (.int .i64 (x2 : Nat)))
                  (first
                    | (go_keep; done)
                    | exact ⟨(hgrow.cell_far ⟨b0, oo0 + q * 3, none⟩ (by simp; omega) (fun e => hfar b0 e.symm rfl)).trans (Un.cell_keep (((Below.refl _ _).alloc (Nat.le_refl _) _).drew) q1), (hgrow.cell_far ⟨b0, oo0 + q * 3 + 1, none⟩ (by simp; omega) (fun e => hfar b0 e.symm rfl)).trans (Un.cell_keep (((Below.refl _ _).alloc (Nat.le_refl _) _).drew) q2)⟩)
                  ((refine step_append_lies _ (by rfl) (.tmp 52) (.tmp 66) 77 (by rfl) W.heap.size 52 z0 (.agg #[.int .i64 0, .int .i64 0]) 2 16 Tryd.underlying77 hi0 hz0 hz1 hz2 rfl (by decide) u12 (picked q ed D).length (twos (picked q ed D)) (by simp [Act.eval]) (hown0 _).out ⟨V.heap.size, 0, none⟩ 1 1 (two (x1, x2)) (by simp [Act.eval]) rfl (by exact two_new _ _ _) (by simp [two, Value.oneCell']) (by decide) (by unfold maxLen; omega) (by omega) hbase _ rfl ?_; intro g2 cap2 w4 hown2 hgrow hat hlt4))
                have hb4 : Below W.heap.size W w4 := ((HB1.out.alloc HB1.out.size _).drew).grown hgrow (by simp; have := HB1.out.size; omega) (fun k e => (own_heapS HO1.out e).1)
                have HO2 : Hid (w4.ownsRow W.heap.size 52 2 (.slice (some ⟨g2, 0, none⟩) ((picked q ed D).length + 1) cap2) (picked (q + 1) ed D).length (twos (picked (q + 1) ed D))) := by
                  show w4.ownsRow W.heap.size 52 2 (.slice (some ⟨g2, 0, none⟩) ((picked q ed D).length + 1) cap2) (picked (q + 1) ed D).length (twos (picked (q + 1) ed D))
                  rw [picked_succ, if_pos HY.out, HX.out, twos_snoc, List.length_append]
                  exact hown2
                clear hown2 hgrow hat hlt4 hown0 hfar
                go_wp2_with fail
                go_roundw
                case rel => exact ⟨q + 1, by omega, by go_num, HO2.out, hb4⟩
                case measure => simp [intOf]; omega
              · have c1i : ¬ (wq : Int) ≤ (wj : Int) := by omega
                have c1d : decide (wq ≤ wj) = false := by rw [decide_eq_false_iff_not]; exact c1
                have HY : Hid (¬ D q = true) := fun h => c1 (HA.out.1 h)
                go_wp2_with fail
                go_quiet (fail)
                go_wp2_with fail
                have HO2 : Hid ((wr.drewN nq).ownsRow W.heap.size 52 2 u12 (picked (q + 1) ed D).length (twos (picked (q + 1) ed D))) := by
                  show (wr.drewN nq).ownsRow W.heap.size 52 2 u12 (picked (q + 1) ed D).length (twos (picked (q + 1) ed D))
                  rw [picked_succ, if_neg HY.out, List.append_nil]
                  exact ownsRow_keepS HO.out (fun k hk => (Un.below_drewN (n := nq) rfl).block k (own_heapS HO.out hk).2)
                have hb4 : Below W.heap.size W (wr.drewN nq) := HB.out.trans ((Un.below_drewN (n := nq) rfl).mono HB.out.size)
                go_roundw
                case rel => exact ⟨q + 1, by omega, by go_num, HO2.out, hb4⟩
                case measure => simp [intOf]; omega
            · obtain rfl : q = m := by omega
              obtain ⟨al, cl, rfl, hEd⟩ := own_edges HO.out rfl
              obtain ⟨p, hp⟩ := rest_of (picked q ed D)
              have ham : Among n (picked q ed D) := fun e he => by
                obtain ⟨k, h1, _, rfl⟩ := mem_picked.1 he
                exact hE.among k h1
              have hpo := parts_of (c := cl) (p := p) hEd rfl (by have := picked_len q ed D; omega) n hE.n1 hE.n60 ham hp
              have HT : Hid (p x = p y ↔ Conn (upto q ed wt (wt j)) x y) := by
                show p x = p y ↔ _
                rw [hp.same, HD.out]
                exact Iff.rfl
              clear hEd ham hp
              go_wp2_with fail
              refine hpo.mono ?_
              rintro e w5 ⟨kk, cap, rfl, hb5, hk5, hc5⟩
              clear hpo
              have HB5 : Hid (Below W.heap.size W w5) := HB.out.trans (hb5.mono HB.out.size)
              have d1 := hc5 _ hx
              have d2 := hc5 _ hy
              have c5 := Un.cell_keep HB5.out c0
              clear hc5
              generalize p x = p1 at *
              generalize p y = p2 at *
              by_cases htj : p1 = p2
              · have hne : (((p1 : Nat) : Int) == ((p2 : Nat) : Int)) = true := by rw [htj]; simp
                have HN : Hid (Best q ed wt x y (j + 1) (wj : Nat)) := by have := HBest.out.yes HZ.out (HT.out.1 htj); rw [HWJ.out] at this; exact this
                clear htj
                go_wp2_with fail
                go_quiet (fail)
                have hbd : Below W.heap.size W (w5.drewN nq) := HB5.out.trans ((Un.below_drewN (n := nq) rfl).mono HB5.out.size)
                replace c5 := Un.cell_keep (Un.below_drewN (n := nq) rfl) c5
                generalize w5.drewN nq = V at *
                clear d1 d2
                go_wp2_with fail
                go_roundw
                case rel => exact ⟨j + 1, (wj : Nat), by omega, by go_num, rfl, HN.out, HB0.out.trans (hbd.mono HB0.out.size)⟩
                case measure => simp [intOf]; omega
              · have hne : (((p1 : Nat) : Int) == ((p2 : Nat) : Int)) = false := by rw [beq_eq_false_iff_ne]; omega
                have HN : Hid (Best q ed wt x y (j + 1) z) := HBest.out.no (fun h => htj (HT.out.2 h))
                clear htj
                go_wp2_with fail
                go_quiet (fail)
                go_wp2_with fail
                have hbd : Below W.heap.size W (w5.drewN nq) := HB5.out.trans ((Un.below_drewN (n := nq) rfl).mono HB5.out.size)
                go_roundw
                case rel => exact ⟨j + 1, z, by omega, by go_num, rfl, HN.out, HB0.out.trans (hbd.mono HB0.out.size)⟩
                case measure => simp [intOf]; omega
    · obtain rfl : j = m := by omega
      have HN : Hid (NeckRef j ed wt x y z (decide (0 ≤ z))) := Or.inr ⟨HXY.out, HBest.out, rfl⟩
      by_cases hz : 0 ≤ z
      · have e : decide (0 ≤ z) = true := decide_eq_true hz
        rw [e] at HN
        go_wp2_with fail
        go_ret2
        exact ⟨z, true, rfl, HB0.out, HN.out⟩
      · have e : decide (0 ≤ z) = false := decide_eq_false hz
        rw [e] at HN
        go_wp2_with fail
        go_ret2
        exact ⟨z, false, by first | rfl | (rw [e]; rfl), HB0.out, HN.out⟩

end Go.Proofs.YtffpkclefgidhaaDoor.Sp
