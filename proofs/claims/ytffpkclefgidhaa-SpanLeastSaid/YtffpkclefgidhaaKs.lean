/-
  SpanLeast: none is lighter than the span; whatever number of nodes, whatever edges and whatever places it is called with.
-/
import Derived.Test.YtffpkclefgidhaaKr
namespace Go.Proofs.Ytffpkclefgidhaa.Sp
open Go.RowKit Go.Deep
open Go.RowKit (Below)
set_option linter.unusedVariables false

variable {w : World} {m : Nat} {hv : Nat → Int × Int × Int}

set_option maxRecDepth 100000 in
set_option maxHeartbeats 8000000 in
theorem least_any {ad ap : Option Addr} {cp cq P : Nat} (h : HeavyAt w ad m hv) (hpk : Picks w ap P) (hP : P < 4611686018427387904) (n : Int) :
    Calls Try.prog 8 #[.int .i64 n, .slice ad m cp, .slice ap P cq] w fun e w' => e = .returned (.bool true) ∧ Below w.heap.size w w' := by
  obtain ⟨t3, ht3⟩ := tells_some 3 (edOf hvThree) (wtOf hvThree)
  obtain ⟨t, ht⟩ := tells_some m (edOf hv) (wtOf hv)
  have HH : Hid (HeavyAt w ad m hv ∧ Picks w ap P ∧ Tells m (edOf hv) (wtOf hv) t) := ⟨h, hpk, ht⟩
  have H3 : Hid ((List.range 3).filter t3 = [1, 2]) := span_three ht3
  have hb0 := below_box w (.cells #[.int .i64 0, .int .i64 1, .int .i64 5, .int .i64 0, .int .i64 2, .int .i64 1, .int .i64 1, .int .i64 2, .int .i64 2] 66)
  have hs0 := span_any (c := 3) (heavy_three w) ht3 3
  clear h hpk ht ht3
  go_enter Try.func8, Try.ntmps8
  go_wp2_with fail
  refine hs0.mono ?_
  rintro e w1 ⟨v1, x1, k1, rfl, hb1, hF1, hor1⟩
  clear hs0
  obtain ⟨rfl, rfl⟩ := fault_three.one hF1
  have hp1 : PlacesAt w1 v1 [1, 2] := by
    rcases hor1 with ⟨h, _⟩ | ⟨_, h⟩
    · exact absurd rfl h
    · rw [H3.out] at h; exact h
  clear hF1 hor1
  rw [errV_none]
  replace hb1 := Un.below_step hb0 hb1
  clear hb0
  have hbx := below_box w1 (.cells #[.int .i64 1, .int .i64 2] 3)
  have hin := places_same (hp1.below hbx) (places_two w1) (by decide)
  replace hbx := Un.below_step hb1 hbx
  clear hb1 hp1
  go_wp2_with fail
  refine hin.mono ?_
  rintro e w2 ⟨rfl, hb2⟩
  clear hin
  replace hb2 := Un.below_step hbx hb2
  clear hbx
  have hsp := span_any (c := cp) (HH.out.1.below hb2) HH.out.2.2 n
  go_wp2_with fail
  refine hsp.mono ?_
  rintro e w3 ⟨v3, x3, k3, rfl, hb3, hF3, hor3⟩
  clear hsp
  replace hb3' := Un.below_step hb2 hb3
  have hwe := weight_any (c := cp) (HH.out.1.below hb3') HH.out.2.2 n
  clear hb2 hb3
  go_wp2_with fail
  refine hwe.mono ?_
  rintro e w4 ⟨x4, y4, k4, rfl, hb4, hF4, hor4⟩
  clear hwe
  obtain ⟨rfl, rfl⟩ := hF3.one hF4
  clear hF4
  rcases hor3 with ⟨he, rfl⟩ | ⟨rfl, hpl⟩
  · rw [errV_some he]
    replace hb4 := Un.below_step hb3' hb4
    go_wp2_with fail
    go_ret
    exact ⟨rfl, hb4⟩
  obtain ⟨n', rfl, hE, hpos⟩ := fault_plain hF3
  have HPl4 : Hid (PlacesAt w4 v3 ((List.range m).filter t)) := hpl.below hb4
  have hx4 : x4 = ((((List.range m).filter t).map (wtOf hv)).sum : Nat) := by
    rcases hor4 with ⟨h, _⟩ | ⟨_, h⟩
    · exact absurd rfl h
    · exact h
  clear hor4 hpl
  rw [errV_none]
  replace hb4 := Un.below_step hb3' hb4
  clear hb3'
  have HF : Hid (Fault (n' : Int) m hv 0 0) := hF3.zero
  have HE : Hid (Edgs n' m (edOf hv) (wtOf hv)) := hE
  have HPos : Hid (∀ i, i < m → 0 ≤ (hv i).1 ∧ 0 ≤ (hv i).2.1 ∧ 0 ≤ (hv i).2.2) := hpos
  have hm2 := hE.m200
  have hn2 := hE.n60
  obtain ⟨S, hS⟩ : ∃ S, (List.range m).filter t = S := ⟨_, rfl⟩
  have HS : Hid ((List.range m).filter t = S) := hS
  have HSm : Hid (∀ k ∈ S, k < m ∧ Takes m (edOf hv) (wtOf hv) k) := fun k hk => by
    rw [← hS] at hk
    have := List.mem_filter.1 hk
    exact ⟨List.mem_range.1 this.1, (HH.out.2.2 k).1 this.2⟩
  have hSl : S.length ≤ m := by rw [← hS]; have := List.length_filter_le t (List.range m); simpa using this
  rw [hS] at HPl4 hx4
  obtain ⟨su, hsu⟩ : ∃ su, (S.map (wtOf hv)).sum = su := ⟨_, rfl⟩
  have HSU : Hid ((S.map (wtOf hv)).sum = su) := hsu
  rw [hsu] at hx4
  subst hx4
  obtain ⟨av, cv, rfl, -, hcv⟩ := HPl4.out
  have HC : Hid (∀ j, j < S.length → ∃ b, av = some ⟨b, 0, none⟩ ∧ w4.cell? ⟨b, j, none⟩ = some (.int .i64 (S.getD j 0 : Nat))) := hcv
  clear hcv hS hsu hF3 hE hpos
  go_wp2_with fail
  go_loopw [14, 15, 16, 17] (fun i _ _ _ wr => ∃ j : Nat, j ≤ S.length ∧ i = .int .i64 (j : Nat) ∧ Below w4.heap.size w4 wr) (fun i _ _ _ _ => S.length - (intOf i).toNat)
  case atStart => exact ⟨0, Nat.zero_le _, rfl, Below.refl _ _⟩
  case round =>
    obtain ⟨j, hj, rfl, hbr⟩ := hrel
    by_cases hlt : j < S.length
    · obtain ⟨b, rfl, q1⟩ := HC.out j hlt
      replace q1 := Un.cell_keep hbr q1
      have hmem : S.getD j 0 ∈ S := by rw [List.getD_eq_getElem?_getD, List.getElem?_eq_getElem hlt]; exact List.getElem_mem hlt
      obtain ⟨him, htk⟩ := HSm.out _ hmem
      generalize S.getD j 0 = i at *
      have hbw := Un.below_step hb4 hbr
      obtain ⟨bl, ol, ea, c1, c2, c3⟩ := ((HH.out.1.below hbw).plain HPos.out) i him
      subst ea
      have hnn := HE.out.among i him
      have HNk : Hid (Necks (n' : Int) m hv ((edOf hv i).1 : Nat) ((edOf hv i).2 : Nat) (wtOf hv i : Nat) 0) := .way n' _ _ _ HF.out rfl rfl rfl hnn.1 hnn.2 (neck_span him htk) (Or.inr ⟨i, him, rfl⟩)
      obtain ⟨y1, hy1⟩ : ∃ y1, (edOf hv i).1 = y1 := ⟨_, rfl⟩
      obtain ⟨y2, hy2⟩ : ∃ y2, (edOf hv i).2 = y2 := ⟨_, rfl⟩
      obtain ⟨wi, hwi⟩ : ∃ wi, wtOf hv i = wi := ⟨_, rfl⟩
      rw [hy1] at c1
      rw [hy2] at c2
      rw [hwi] at c3
      rw [hy1, hy2, hwi] at HNk
      have hbx := below_box wr (.cells #[.int .i64 (y1 : Nat), .int .i64 (y2 : Nat), .int .i64 (wi : Nat)] 66)
      have hcx : ∀ o u, (wr.alloc (.cells #[.int .i64 (y1 : Nat), .int .i64 (y2 : Nat), .int .i64 (wi : Nat)] 66)).cell? ⟨wr.heap.size, o, none⟩ = some u → True := fun _ _ _ => trivial
      have hnk := neck_any (c := cp) (HH.out.1.below (Un.below_step hbw hbx)) n' (y1 : Nat) (y2 : Nat)
      have hw3 : (wr.alloc (.cells #[.int .i64 (y1 : Nat), .int .i64 (y2 : Nat), .int .i64 (wi : Nat)] 66)).cell? ⟨wr.heap.size, 2, none⟩ = some (.int .i64 (wi : Nat)) := by simp
      have hww : (((wi : Nat) : Int) != ((wi : Nat) : Int)) = false := by simp
      have i0 : (0 : Int) ≤ (j : Int) := by omega
      have i1 : (j : Int) < (S.length : Int) := by omega
      have i2 : (0 : Int) ≤ (i : Int) := by omega
      have i3 : (i : Int) < (m : Int) := by omega
      clear hy1 hy2 hwi hnn htk hmem hcx
      go_wp2_with fail
      refine hnk.mono ?_
      rintro e w5 ⟨x5, y5, rfl, hN5, hb5⟩
      clear hnk
      obtain ⟨rfl, rfl⟩ := hN5.one HNk.out
      clear hN5
      rw [errV_none]
      have hw5 := Un.cell_keep hb5 hw3
      have hb5' : Below w4.heap.size w4 w5 := (hbr.alloc hbr.size _).trans (hb5.mono (by have := hbr.size; simp; omega))
      clear hw3 hb5 hbx
      go_wp2_with fail
      go_roundw
      case rel => exact ⟨j + 1, by omega, by go_num, hb5'⟩
      case measure => simp [intOf]; omega
    · obtain ⟨W0, rfl⟩ : ∃ W0 : World, W0 = wr := ⟨_, rfl⟩
      have hbw := Un.below_step hb4 hbr
      clear hbr hb4
      go_wp2_with fail
      refine (fnew_any n' HE.out.n1 HE.out.n60).mono ?_
      rintro e w6 ⟨L, rfl, hb6, hf6, hLn, hFt⟩
      have HL0 : Hid (Linked W0 w6 L m (edOf hv) [] (fun i => i) [] 0) := Linked.start hf6 hb6 hFt
      have HLn : Hid (L.n = n') := hLn
      clear hf6 hFt hLn hb6
      go_wp2_with fail
      go_loopw [19, 20, 21, 22] (fun s k i _ wr => ∃ (j : Nat) (E : List (Nat × Nat)) (p : Nat → Nat) (T : List Nat), j ≤ P + m ∧ i = .int .i64 (j : Nat) ∧ k = .int .i64 ((T.length : Nat) : Int) ∧ s = .int .i64 (((T.map (wtOf hv)).sum : Nat) : Int) ∧ Linked W0 wr L m (edOf hv) E p T (j - P)) (fun _ _ i _ _ => P + m - (intOf i).toNat)
      case atStart => exact ⟨0, [], fun i => i, [], Nat.zero_le _, rfl, rfl, rfl, by rw [Nat.zero_sub]; exact HL0.out⟩
      case round =>
        obtain ⟨j, E, p, T, hj, rfl, rfl, rfl, hR⟩ := hrel
        have HR : Hid (Linked W0 wr L m (edOf hv) E p T (j - P)) := hR
        have hT := hR.len HE.out.among
        have HTs : Hid ((T.map (wtOf hv)).sum ≤ 60000000) := by
          have h1 := sum_le (wtOf hv) 1000000 T (fun k hk => HE.out.light k (hR.lt k hk))
          have h3 := Nat.mul_le_mul_right 1000000 (show T.length ≤ 60 by omega)
          exact Nat.le_trans h1 (Nat.le_trans h3 (by decide))
        clear hR
        by_cases hlt : j < P + m
        · obtain ⟨ts, hts⟩ : ∃ ts, (T.map (wtOf hv)).sum = ts := ⟨_, rfl⟩
          rw [hts]
          have HTS : Hid ((T.map (wtOf hv)).sum = ts) := hts
          have s1 : (ts : Int) ≤ 60000000 := by have := HTs.out; omega
          have s0 : (0 : Int) ≤ (ts : Int) := by omega
          clear hts
          obtain ⟨tl, htl⟩ : ∃ tl, T.length = tl := ⟨_, rfl⟩
          rw [htl]
          have HTL : Hid (T.length = tl) := htl
          have l1 : (tl : Int) ≤ 60 := by omega
          have l0 : (0 : Int) ≤ (tl : Int) := by omega
          clear htl hT
          have i0 : (0 : Int) ≤ (j : Int) := by omega
          have i1 : (j : Int) < (P : Int) + (m : Int) := by omega
          have i4 : (P : Int) < 4611686018427387904 := by omega
          by_cases hjP : j < P
          · have j1 : (j : Int) < (P : Int) := by omega
            obtain ⟨bp, op, eap, z, cz⟩ := (HH.out.2.1.below (Un.below_step hbw HR.out.below)) j hjP
            subst eap
            have HQ : Hid (j + 1 - P = 0 ∧ j - P = 0) := show _ ∧ _ by omega
            by_cases hz : 0 ≤ z ∧ z < m
            · obtain ⟨kk, rfl⟩ := Int.eq_ofNat_of_zero_le hz.1
              have him : kk < m := by omega
              have k0 : ¬ ((kk : Nat) : Int) < 0 := by omega
              have k1 : ¬ (m : Int) ≤ ((kk : Nat) : Int) := by omega
              have k2 : ¬ m ≤ kk := by omega
              have k3 : decide (m ≤ kk) = false := by rw [decide_eq_false_iff_not]; exact k2
              have HAdv : Hid (∀ w' E' p' T', Linked W0 w' L m (edOf hv) E' p' T' (j - P) → Conn (T'.map (edOf hv)) (edOf hv kk).1 (edOf hv kk).2 → Linked W0 w' L m (edOf hv) E' p' T' (j + 1 - P)) := fun w' E' p' T' h _ => by rw [HQ.out.1]; rw [HQ.out.2] at h; exact h
              clear hz
              obtain ⟨bl, ol, ea, c1, c2, c3⟩ := ((HH.out.1.below (Un.below_step hbw HR.out.below)).plain HPos.out) kk him
              have HLt : Hid (bl < W0.heap.size) := ((HH.out.1.below hbw).plain HPos.out).lt ea (by omega)
              subst ea
              have hnn := HE.out.among kk him
              have hbd : Below wr.heap.size wr wr.drew := (Below.refl _ _).drew
              have HRd : Hid (Linked W0 wr.drew L m (edOf hv) E p T (j - P)) := HR.out.keep hbd
              obtain ⟨y1, hy1⟩ : ∃ y1, (edOf hv kk).1 = y1 := ⟨_, rfl⟩
              obtain ⟨y2, hy2⟩ : ∃ y2, (edOf hv kk).2 = y2 := ⟨_, rfl⟩
              obtain ⟨wi, hwi⟩ : ∃ wi, wtOf hv kk = wi := ⟨_, rfl⟩
              have b2 := HE.out.light kk him
              have HY : Hid ((edOf hv kk).1 = y1 ∧ (edOf hv kk).2 = y2 ∧ wtOf hv kk = wi) := ⟨hy1, hy2, hwi⟩
              rw [hy1] at c1 hnn
              rw [hy2] at c2 hnn
              rw [hwi] at c3 b2
              clear hy1 hy2 hwi
              have s2 : (0 : Int) ≤ (wi : Int) := by omega
              have s3 : (wi : Int) ≤ 1000000 := by omega
              have i2 : (0 : Int) ≤ (kk : Int) := by omega
              have i3 : (kk : Int) < (m : Int) := by omega
              have ha1 : y1 < L.n := by rw [HLn.out]; exact hnn.1
              have ha2 : y2 < L.n := by rw [HLn.out]; exact hnn.2
              have HCells : Hid (∀ w', Below W0.heap.size W0 w' → w'.cell? ⟨bl, ol + kk * 3, none⟩ = some (.int .i64 (y1 : Nat)) ∧ w'.cell? ⟨bl, ol + kk * 3 + 1, none⟩ = some (.int .i64 (y2 : Nat)) ∧ w'.cell? ⟨bl, ol + kk * 3 + 2, none⟩ = some (.int .i64 (wi : Nat))) := fun w' hb' => by
                have e := (hb'.block bl HLt.out).trans (HR.out.below.block bl HLt.out).symm
                exact ⟨(World.cell?_of_block (w := wr) (a := ⟨bl, _, none⟩) e).trans c1, (World.cell?_of_block (w := wr) (a := ⟨bl, _, none⟩) e).trans c2, (World.cell?_of_block (w := wr) (a := ⟨bl, _, none⟩) e).trans c3⟩
              clear hnn
              by_cases hpp : p y1 = p y2
              · have hcl := link_clash HRd.out.f y1 y2 ha1 ha2 hpp
                have HCn : Hid (Conn (T.map (edOf hv)) (edOf hv kk).1 (edOf hv kk).2) := by show Conn _ _ _; rw [HY.out.1, HY.out.2.1]; exact (HRd.out.same y1 y2).1 hpp
                clear hpp
                go_wp2_with fail
                go_region_held3 (fun V => V.cell? ⟨bl, ol + kk * 3, none⟩ = some (.int .i64 (y1 : Nat)) ∧ V.cell? ⟨bl, ol + kk * 3 + 1, none⟩ = some (.int .i64 (y2 : Nat)))
                  (first
                    | (go_keep; done)
                    | exact ⟨c1, c2⟩
                    | exact ⟨(HCells.out _ (HRd.out.below.trans (hb9.mono HRd.out.below.size))).1, (HCells.out _ (HRd.out.below.trans (hb9.mono HRd.out.below.size))).2.1⟩)
                  (first
                    | (go_at_call 25; refine hcl.mono ?_; rintro e w9 ⟨rfl, hb9⟩))
                have HF9 : Hid (Linked W0 w9 L m (edOf hv) E p T (j + 1 - P)) := HAdv.out _ _ _ _ (HRd.out.keep hb9) HCn.out
                clear hcl hb9
                go_wp2_with fail
                go_roundw
                case rel => exact ⟨j + 1, E, p, T, by omega, by go_num, by rw [HTL.out], by rw [HTS.out], HF9.out⟩
                case measure => simp [intOf]; omega
              · have hli := flink_any HRd.out.f y1 y2 ha1 ha2 hpp
                have HMo : Hid (∀ w' E' p', Turn L wr.drew w' → More E y1 y2 E' → FAt w' L E' p' → Linked W0 w' L m (edOf hv) E' p' (kk :: T) (j + 1 - P)) := fun w' E' p' t9 mo9 f9 => by
                  refine HAdv.out _ _ _ _ (HRd.out.link him t9 ?_ f9) (Linked.joined kk T)
                  rw [HY.out.1, HY.out.2.1]
                  exact mo9
                clear hpp
                go_wp2_with fail
                go_region_held3 (fun V => V.cell? ⟨bl, ol + kk * 3, none⟩ = some (.int .i64 (y1 : Nat)) ∧ V.cell? ⟨bl, ol + kk * 3 + 1, none⟩ = some (.int .i64 (y2 : Nat)))
                  (first
                    | (go_keep; done)
                    | exact ⟨c1, c2⟩
                    | exact ⟨(HCells.out _ (t9.below HRd.out.below HRd.out.below.size HRd.out.new)).1, (HCells.out _ (t9.below HRd.out.below HRd.out.below.size HRd.out.new)).2.1⟩)
                  (first
                    | (go_at_call 25; refine hli.mono ?_; rintro e w9 ⟨rfl, t9, A9, B9, p9, -, mo9, f9⟩))
                have c9 := (HCells.out _ (t9.below HRd.out.below HRd.out.below.size HRd.out.new)).2.2
                have HF9 : Hid (Linked W0 w9 L m (edOf hv) (A9 ++ (min y1 y2, max y1 y2) :: B9) p9 (kk :: T) (j + 1 - P)) := HMo.out _ _ _ t9 mo9 f9
                clear hli t9 mo9 f9
                go_wp2_with fail
                go_roundw
                case rel =>
                  refine ⟨j + 1, _, p9, kk :: T, by omega, by go_num, ?_, ?_, HF9.out⟩
                  · rw [List.length_cons, HTL.out]; go_num
                  · rw [List.map_cons, List.sum_cons, HTS.out, HY.out.2.2, Nat.add_comm]; go_num
                case measure => simp [intOf]; omega
            · have HAdv : Hid (Linked W0 wr L m (edOf hv) E p T (j + 1 - P)) := by show Linked W0 wr L m (edOf hv) E p T (j + 1 - P); rw [HQ.out.1]; have h := HR.out; rw [HQ.out.2] at h; exact h
              by_cases hz0 : z < 0
              · clear hz
                go_wp2_with fail
                go_roundw
                case rel => exact ⟨j + 1, E, p, T, by omega, by go_num, by rw [HTL.out], by rw [HTS.out], HAdv.out⟩
                case measure => simp [intOf]; omega
              · have hz1 : (m : Int) ≤ z := by omega
                clear hz
                go_wp2_with fail
                go_roundw
                case rel => exact ⟨j + 1, E, p, T, by omega, by go_num, by rw [HTL.out], by rw [HTS.out], HAdv.out⟩
                case measure => simp [intOf]; omega
          · have j1 : ¬ (j : Int) < (P : Int) := by omega
            obtain ⟨kk, hkk⟩ : ∃ kk, kk = j - P := ⟨_, rfl⟩
            have him : kk < m := by omega
            have ek : (j : Int) - (P : Int) = ((kk : Nat) : Int) := by omega
            have k0 : ¬ (j : Int) - (P : Int) < 0 := by omega
            have k1 : ¬ (m : Int) ≤ (j : Int) - (P : Int) := by omega
            have HQ : Hid (j + 1 - P = kk + 1 ∧ j - P = kk) := show _ ∧ _ by omega
            have HAdv : Hid (∀ w' E' p' T', Linked W0 w' L m (edOf hv) E' p' T' (j - P) → Conn (T'.map (edOf hv)) (edOf hv kk).1 (edOf hv kk).2 → Linked W0 w' L m (edOf hv) E' p' T' (j + 1 - P)) := fun w' E' p' T' h hc => by rw [HQ.out.1]; rw [HQ.out.2] at h; exact h.more hc
            have HEK : Hid ((j : Int) - (P : Int) = ((kk : Nat) : Int)) := ek
            clear ek hkk
            obtain ⟨bl, ol, ea, c1, c2, c3⟩ := ((HH.out.1.below (Un.below_step hbw HR.out.below)).plain HPos.out) kk him
            have HLt : Hid (bl < W0.heap.size) := ((HH.out.1.below hbw).plain HPos.out).lt ea (by omega)
            subst ea
            have hnn := HE.out.among kk him
            have hbd : Below wr.heap.size wr wr.drew := (Below.refl _ _).drew
            have HRd : Hid (Linked W0 wr.drew L m (edOf hv) E p T (j - P)) := HR.out.keep hbd
            obtain ⟨y1, hy1⟩ : ∃ y1, (edOf hv kk).1 = y1 := ⟨_, rfl⟩
            obtain ⟨y2, hy2⟩ : ∃ y2, (edOf hv kk).2 = y2 := ⟨_, rfl⟩
            obtain ⟨wi, hwi⟩ : ∃ wi, wtOf hv kk = wi := ⟨_, rfl⟩
            have b2 := HE.out.light kk him
            have HY : Hid ((edOf hv kk).1 = y1 ∧ (edOf hv kk).2 = y2 ∧ wtOf hv kk = wi) := ⟨hy1, hy2, hwi⟩
            rw [hy1] at c1 hnn
            rw [hy2] at c2 hnn
            rw [hwi] at c3 b2
            clear hy1 hy2 hwi
            have s2 : (0 : Int) ≤ (wi : Int) := by omega
            have s3 : (wi : Int) ≤ 1000000 := by omega
            have i2 : (0 : Int) ≤ (kk : Int) := by omega
            have i3 : (kk : Int) < (m : Int) := by omega
            have ha1 : y1 < L.n := by rw [HLn.out]; exact hnn.1
            have ha2 : y2 < L.n := by rw [HLn.out]; exact hnn.2
            have HCells : Hid (∀ w', Below W0.heap.size W0 w' → w'.cell? ⟨bl, ol + kk * 3, none⟩ = some (.int .i64 (y1 : Nat)) ∧ w'.cell? ⟨bl, ol + kk * 3 + 1, none⟩ = some (.int .i64 (y2 : Nat)) ∧ w'.cell? ⟨bl, ol + kk * 3 + 2, none⟩ = some (.int .i64 (wi : Nat))) := fun w' hb' => by
              have e := (hb'.block bl HLt.out).trans (HR.out.below.block bl HLt.out).symm
              exact ⟨(World.cell?_of_block (w := wr) (a := ⟨bl, _, none⟩) e).trans c1, (World.cell?_of_block (w := wr) (a := ⟨bl, _, none⟩) e).trans c2, (World.cell?_of_block (w := wr) (a := ⟨bl, _, none⟩) e).trans c3⟩
            clear hnn
            by_cases hpp : p y1 = p y2
            · have hcl := link_clash HRd.out.f y1 y2 ha1 ha2 hpp
              have HCn : Hid (Conn (T.map (edOf hv)) (edOf hv kk).1 (edOf hv kk).2) := by show Conn _ _ _; rw [HY.out.1, HY.out.2.1]; exact (HRd.out.same y1 y2).1 hpp
              clear hpp
              go_wp2_with fail
              rw [HEK.out]
              go_region_held3 (fun V => V.cell? ⟨bl, ol + kk * 3, none⟩ = some (.int .i64 (y1 : Nat)) ∧ V.cell? ⟨bl, ol + kk * 3 + 1, none⟩ = some (.int .i64 (y2 : Nat)))
                (first
                  | (go_keep; done)
                  | exact ⟨c1, c2⟩
                  | exact ⟨(HCells.out _ (HRd.out.below.trans (hb9.mono HRd.out.below.size))).1, (HCells.out _ (HRd.out.below.trans (hb9.mono HRd.out.below.size))).2.1⟩)
                (first
                  | (go_at_call 25; refine hcl.mono ?_; rintro e w9 ⟨rfl, hb9⟩))
              have HF9 : Hid (Linked W0 w9 L m (edOf hv) E p T (j + 1 - P)) := HAdv.out _ _ _ _ (HRd.out.keep hb9) HCn.out
              clear hcl hb9
              go_wp2_with fail
              go_roundw
              case rel => exact ⟨j + 1, E, p, T, by omega, by go_num, by rw [HTL.out], by rw [HTS.out], HF9.out⟩
              case measure => simp [intOf]; omega
            · have hli := flink_any HRd.out.f y1 y2 ha1 ha2 hpp
              have HMo : Hid (∀ w' E' p', Turn L wr.drew w' → More E y1 y2 E' → FAt w' L E' p' → Linked W0 w' L m (edOf hv) E' p' (kk :: T) (j + 1 - P)) := fun w' E' p' t9 mo9 f9 => by
                refine HAdv.out _ _ _ _ (HRd.out.link him t9 ?_ f9) (Linked.joined kk T)
                rw [HY.out.1, HY.out.2.1]
                exact mo9
              clear hpp
              go_wp2_with fail
              rw [HEK.out]
              go_region_held3 (fun V => V.cell? ⟨bl, ol + kk * 3, none⟩ = some (.int .i64 (y1 : Nat)) ∧ V.cell? ⟨bl, ol + kk * 3 + 1, none⟩ = some (.int .i64 (y2 : Nat)))
                (first
                  | (go_keep; done)
                  | exact ⟨c1, c2⟩
                  | exact ⟨(HCells.out _ (t9.below HRd.out.below HRd.out.below.size HRd.out.new)).1, (HCells.out _ (t9.below HRd.out.below HRd.out.below.size HRd.out.new)).2.1⟩)
                (first
                  | (go_at_call 25; refine hli.mono ?_; rintro e w9 ⟨rfl, t9, A9, B9, p9, -, mo9, f9⟩))
              have c9 := (HCells.out _ (t9.below HRd.out.below HRd.out.below.size HRd.out.new)).2.2
              have HF9 : Hid (Linked W0 w9 L m (edOf hv) (A9 ++ (min y1 y2, max y1 y2) :: B9) p9 (kk :: T) (j + 1 - P)) := HMo.out _ _ _ t9 mo9 f9
              clear hli t9 mo9 f9
              go_wp2_with fail
              go_roundw
              case rel =>
                refine ⟨j + 1, _, p9, kk :: T, by omega, by go_num, ?_, ?_, HF9.out⟩
                · rw [List.length_cons, HTL.out]; go_num
                · rw [List.map_cons, List.sum_cons, HTS.out, HY.out.2.2, Nat.add_comm]; go_num
              case measure => simp [intOf]; omega
        · obtain rfl : j = P + m := by omega
          have hT1 : T.length = S.length := by
            rw [← HS.out]
            refine forest_all HH.out.2.2 HE.out.among HR.out.lt HR.out.forest (fun k hk => HR.out.done k (by omega))
          have hT2 : su ≤ (T.map (wtOf hv)).sum := by
            rw [← HSU.out, ← HS.out]
            exact span_least HH.out.2.2 HE.out.among HR.out.lt HR.out.forest (fun k hk => HR.out.done k (by omega)) (M := 1000000) HE.out.light
          obtain ⟨ts, hts⟩ : ∃ ts, (T.map (wtOf hv)).sum = ts := ⟨_, rfl⟩
          rw [hts] at hT2 ⊢
          rw [hT1]
          have e1 : (((S.length : Nat) : Int) == ((S.length : Nat) : Int)) = true := by simp
          have e2 : ((su : Nat) : Int) ≤ ((ts : Nat) : Int) := by omega
          have e3 : decide (((su : Nat) : Int) ≤ ((ts : Nat) : Int)) = true := decide_eq_true e2
          have hend : Below w.heap.size w wr := Un.below_step hbw HR.out.below
          clear hts hT1 hT2 hT
          go_wp2_with fail
          go_ret
          exact ⟨by first | rfl | simp_all, hend⟩

end Go.Proofs.Ytffpkclefgidhaa.Sp
