/-
  The statements' own answer: the joints, each by itself.
-/
import Derived.Test.YtflifofpfodnnabDoorBe
namespace Go.Proofs.YtflifofpfodnnabDoor.Br
open Go.RowKit Go.Deep
open Go.RowKit (Below)
set_option linter.unusedVariables false

variable {w w' : World} {E A B : List (Nat × Nat)} {p q : Nat → Nat}

/-- Two rows of different kinds: the one stays where the other grows. -/
theorem own_grown {base base' n n' s s' : Nat} {ty ty' : TypeId} {v v' : Value} {xs xs' : List Value} (h : w.ownsRow base ty s v n xs) (h' : w.ownsRow base' ty' s' v' n' xs') (hne : ty ≠ ty') (hg : w.grownBy w' v'.ownBlock) : w'.ownsRow base ty s v n xs := by
  refine ⟨h.1, ?_⟩
  rcases h.2 with h0 | ⟨g, cap, cur, hv, h1, h2, h3⟩
  · exact Or.inl h0
  · refine Or.inr ⟨g, cap, cur, hv, h1, ?_, h3⟩
    rw [hg.block g (Array.getElem?_eq_some_iff.1 h2).1 (fun e => ?_)]
    · exact h2
    · rcases h'.2 with ⟨q, _⟩ | ⟨g', cap', cur', hv', q1, q2, _⟩
      · rw [q] at e
        cases e
      · rw [hv'] at e
        cases e
        rw [h2] at q2
        cases q2
        exact hne rfl

theorem without_take {S : List (Nat × Nat)} {j k x y : Nat} (h : S[j]? = some (x, y)) : without (S.take (j + 1)) k = without (S.take j) k ++ if x ≠ k ∧ y ≠ k then [(x, y)] else [] := by
  unfold without
  rw [take_snoc h, List.filter_append]
  congr 1
  by_cases hc : x ≠ k ∧ y ≠ k
  · rw [if_pos hc]; simp [hc]
  · rw [if_neg hc]; simp [hc]

theorem range_snoc (t : Nat → Bool) (k : Nat) : (List.range (k + 1)).filter t = (List.range k).filter t ++ if t k = true then [k] else [] := by
  rw [List.range_succ, List.filter_append]
  congr 1
  by_cases h : t k = true
  · simp [h]
  · simp [h]

set_option maxRecDepth 100000 in
set_option maxHeartbeats 2000000 in
theorem joints_of {a : Option Addr} {m c n : Nat} (hE : EdgesAt w a E) (hm : E.length = m) (hm2 : m ≤ 200) (hn : 0 < n) (hn2 : n ≤ 60) (ha : Among n E) :
    Calls Tryd.prog 17 #[.int .i64 (n : Nat), .slice a m c] w fun e w' => ∃ v L, e = .returned v ∧ Jts n E L ∧ w'.ownsRow w.heap.size 3 1 v L.length (ints L) ∧ Below w.heap.size w w' := by
  obtain ⟨t, ht⟩ := jts_some E
  obtain ⟨p, hp⟩ := rest_of E
  obtain ⟨N, hN⟩ : ∃ N, partsOf n p = N := ⟨_, rfl⟩
  have hNle : N ≤ n := by rw [← hN]; exact cnt_le _ n
  obtain ⟨z0, hi0, hz0, hz1, hz2⟩ := info_parts Tryd.infoEdge
  obtain ⟨y0, hj0, hy0, hy1, hy2⟩ := info_parts Tryd.infoInt
  have HE : Hid (EdgesAt w a E ∧ E.length = m ∧ Among n E) := ⟨hE, hm, ha⟩
  have HT : Hid (∀ e, t e = true ↔ Joint E e) := ht
  have HN : Hid (partsOf n p = N ∧ Rest E p) := ⟨hN, hp⟩
  have hpo := parts_of (c := c) hE hm (by omega) n hn hn2 ha hp
  clear hE hm ha ht hN hp
  go_enter Tryd.func17, Tryd.ntmps17
  go_wp2_with fail
  refine hpo.mono ?_
  rintro e w1 ⟨k1, cap1, rfl, hb1, hk1, hc1⟩
  have hco := count_any (cap := cap1) hc1 hn2 N HN.out.1
  have HB1 : Hid (Below w.heap.size w w1) := hb1
  clear hpo hb1 hc1 hk1
  go_wp2_with fail
  refine hco.mono ?_
  rintro e w2 ⟨rfl, hb2⟩
  have HB2 : Hid (Below w.heap.size w w2) := below_step HB1.out hb2
  clear hco hb2 HB1
  go_wp2_with fail
  go_loopw [6, 7, 8, 9] (fun vo i _ _ wr => ∃ j : Nat, j ≤ n ∧ i = .int .i64 (j : Nat) ∧ Below w.heap.size w wr ∧ wr.ownsRow w.heap.size 3 1 vo ((List.range j).filter t).length (ints ((List.range j).filter t))) (fun _ i _ _ _ => n - (intOf i).toNat)
  case atStart => exact ⟨0, Nat.zero_le _, rfl, HB2.out, by simp [ints]; exact World.ownsRow_nil ..⟩
  case round =>
    obtain ⟨k, hk, rfl, hb, hown⟩ := hrel
    have HB : Hid (Below w.heap.size w wr) := hb
    have HO : Hid (wr.ownsRow w.heap.size 3 1 u6 ((List.range k).filter t).length (ints ((List.range k).filter t))) := hown
    clear hb hown
    by_cases hlt : k < n
    · obtain ⟨q, hq⟩ := rest_of (without E k)
      obtain ⟨M, hM⟩ : ∃ M, partsOf n q = M := ⟨_, rfl⟩
      have hMle : M ≤ n := by rw [← hM]; exact cnt_le _ n
      have HMore : Hid (t k = true ↔ N + 1 < M) := show _ ↔ _ by rw [HT.out, ← hM, ← HN.out.1, joint_count HE.out.2.2 HN.out.2 hq hlt]
      have HR : Hid (Rest (without E k) q ∧ partsOf n q = M) := ⟨hq, hM⟩
      clear hq hM
      obtain ⟨ov, hov⟩ : ∃ ov, ov = u6 := ⟨_, rfl⟩
      go_wp2_with fail
      go_loopw [8, 9] (fun vr i wi => ∃ j : Nat, j ≤ m ∧ i = .int .i64 (j : Nat) ∧ Below w.heap.size w wi ∧ wi.ownsRow w.heap.size 3 1 u6 ((List.range k).filter t).length (ints ((List.range k).filter t)) ∧ wi.ownsRow w.heap.size 62 2 vr (without (E.take j) k).length (twos (without (E.take j) k))) (fun _ i _ => m - (intOf i).toNat)
      case atStart => exact ⟨0, Nat.zero_le _, rfl, HB.out, HO.out, by simp [without, twos]; exact World.ownsRow_nil ..⟩
      case round =>
        obtain ⟨j, hj, rfl, hb, ho1, ho2⟩ := hrel
        have HBi : Hid (Below w.heap.size w wr) := hb
        have HO1 : Hid (wr.ownsRow w.heap.size 3 1 u6 ((List.range k).filter t).length (ints ((List.range k).filter t))) := ho1
        have HO2 : Hid (wr.ownsRow w.heap.size 62 2 u8 (without (E.take j) k).length (twos (without (E.take j) k))) := ho2
        clear hb ho1 ho2
        by_cases hlj : j < m
        · obtain ⟨b, o, rfl, q1, q2⟩ := (HE.out.1.below HBi.out).cell j (by rw [HE.out.2.1]; exact hlj)
          obtain ⟨⟨x, y⟩, hs⟩ : ∃ s, E[j]? = some s := ⟨E[j]'(by rw [HE.out.2.1]; exact hlj), List.getElem?_eq_getElem (by rw [HE.out.2.1]; exact hlj)⟩
          rw [show E.getD j (0, 0) = (x, y) by rw [List.getD_eq_getElem?_getD, hs]; rfl] at q1 q2
          have q1 : wr.cell? ⟨b, o + j * 2, none⟩ = some (.int .i64 (x : Nat)) := q1
          have q2 : wr.cell? ⟨b, o + j * 2 + 1, none⟩ = some (.int .i64 (y : Nat)) := q2
          have HF : Hid (without (E.take (j + 1)) k = without (E.take j) k ++ if x ≠ k ∧ y ≠ k then [(x, y)] else []) := without_take hs
          have i0 : (0 : Int) ≤ (j : Int) := by omega
          have i1 : (j : Int) < (m : Int) := by omega
          clear hs
          by_cases hxk : x = k
          · have HF2 : Hid (without (E.take (j + 1)) k = without (E.take j) k) := show _ = _ by rw [HF.out, if_neg (fun h => h.1 hxk), List.append_nil]
            subst hxk
            go_wp2_with fail
            go_roundw
            case rel => exact ⟨j + 1, by omega, by go_num, HBi.out, HO1.out, by rw [HF2.out]; exact HO2.out⟩
            case measure => simp [intOf]; omega
          · have tx : (x != k) = true := by rw [bne_iff_ne]; exact hxk
            have txi : ((x : Int) != (k : Int)) = true := by rw [bne_iff_ne]; omega
            by_cases hyk : y = k
            · have HF2 : Hid (without (E.take (j + 1)) k = without (E.take j) k) := show _ = _ by rw [HF.out, if_neg (fun h => h.2 hyk), List.append_nil]
              subst hyk
              clear hxk
              go_wp2_with fail
              go_roundw
              case rel => exact ⟨j + 1, by omega, by go_num, HBi.out, HO1.out, by rw [HF2.out]; exact HO2.out⟩
              case measure => simp [intOf]; omega
            · have ty : (y != k) = true := by rw [bne_iff_ne]; exact hyk
              have tyi : ((y : Int) != (k : Int)) = true := by rw [bne_iff_ne]; omega
              have HF2 : Hid (without (E.take (j + 1)) k = without (E.take j) k ++ [(x, y)]) := show _ = _ by rw [HF.out, if_pos ⟨hxk, hyk⟩]
              have hKl : (without (E.take j) k).length ≤ j := Nat.le_trans (List.length_filter_le _ _) (by simp; omega)
              obtain ⟨K, hK⟩ : ∃ K, (without (E.take j) k).length = K := ⟨_, rfl⟩
              have ho2 := HO2.out
              rw [hK] at hKl ho2
              have HO2K : Hid (wr.ownsRow w.heap.size 62 2 u8 K (twos (without (E.take j) k))) := ho2
              have HK : Hid ((without (E.take j) k).length = K) := hK
              have h5s : w.heap.size ≤ wr.heap.size := HBi.out.size
              clear hxk hyk hK ho2
              go_wp2_with (first
                | (at_builtin; refine wpList_append_lies _ rfl (.tmp 41) (.tmp 46) 42 rfl w.heap.size 62 z0 (.agg #[.int .i64 0, .int .i64 0]) 2 16 Tryd.underlying42 hi0 hz0 hz1 hz2 rfl (by decide) u8 K (twos (without (E.take j) k)) rfl (HO2K.out.alloc _) ⟨wr.heap.size, 0, none⟩ 1 1 (two (x, y)) rfl rfl (two_new _ _ _) ?c2 (by decide) ?c3 ?c4 ?c5 _ rfl ?_))
              case c2 => intro z hz; exact two_one [(x, y)] z (by simpa [twos] using hz)
              case c3 => unfold maxLen; omega
              case c4 => omega
              case c5 => first | omega | (simp; omega)
              intro g1 cap1 w6 hown hgrow hat hlt2
              have HB6 : Hid (Below w.heap.size w w6) := (HBi.out.alloc h5s _).grown hgrow (by simp; omega) (fun k e => (HO2K.out.lt k e).1)
              have HO6 : Hid (w6.ownsRow w.heap.size 3 1 u6 ((List.range k).filter t).length (ints ((List.range k).filter t))) := own_grown (HO1.out.alloc _) (HO2K.out.alloc _) (by decide) hgrow
              have HO7 : Hid (w6.ownsRow w.heap.size 62 2 (.slice (some ⟨g1, 0, none⟩) (K + 1) cap1) (without (E.take (j + 1)) k).length (twos (without (E.take (j + 1)) k))) := show World.ownsRow .. by
                rw [HF2.out, twos_snoc, List.length_append, HK.out]; exact hown
              clear hown hgrow hat hlt2
              go_wp2_with fail
              go_roundw
              case rel => exact ⟨j + 1, by omega, by go_num, HB6.out, HO6.out, HO7.out⟩
              case measure => simp [intOf]; omega
        · obtain rfl : j = m := by omega
          have ho2 := HO2.out
          rw [List.take_of_length_le (Nat.le_of_eq HE.out.2.1)] at ho2
          obtain ⟨a3, c3, rfl, hE3, -, -⟩ := own_edges ho2 rfl
          have hwl : (without E k).length ≤ 200 := Nat.le_trans (List.length_filter_le _ _) (by rw [HE.out.2.1]; exact hm2)
          have hpo := parts_of (c := c3) hE3 rfl (by omega) n hn hn2 (fun e he => HE.out.2.2 e (mem_without.1 he).1) HR.out.1
          clear ho2 hE3
          go_wp2_with fail
          refine hpo.mono ?_
          rintro e w4 ⟨k4, cap4, rfl, hb4, hk4, hc4⟩
          have hco := count_any (cap := cap4) hc4 hn2 M HR.out.2
          have HB4 : Hid (Below w.heap.size w w4) := below_step HBi.out hb4
          have HO4 : Hid (w4.ownsRow w.heap.size 3 1 u6 ((List.range k).filter t).length (ints ((List.range k).filter t))) := own_keep HO1.out hb4
          clear hpo hb4 hc4 hk4 HBi HO1 HO2
          go_wp2_with fail
          refine hco.mono ?_
          rintro e w5 ⟨rfl, hb5⟩
          have HB5 : Hid (Below w.heap.size w w5) := below_step HB4.out hb5
          have HO5 : Hid (w5.ownsRow w.heap.size 3 1 u6 ((List.range k).filter t).length (ints ((List.range k).filter t))) := own_keep HO4.out hb5
          clear hco hb5 HB4 HO4
          by_cases hNM : N + 1 < M
          · have hNi : (N : Int) < (M : Int) - 1 := by omega
            have HF : Hid ((List.range (k + 1)).filter t = (List.range k).filter t ++ [k]) := show _ = _ by rw [range_snoc, if_pos (HMore.out.2 hNM)]
            have hKl : ((List.range k).filter t).length ≤ k := Nat.le_trans (List.length_filter_le _ _) (by simp)
            obtain ⟨K, hK⟩ : ∃ K, ((List.range k).filter t).length = K := ⟨_, rfl⟩
            have ho5 := HO5.out
            rw [hK] at hKl ho5
            have HO5K : Hid (w5.ownsRow w.heap.size 3 1 u6 K (ints ((List.range k).filter t))) := ho5
            have HK : Hid (((List.range k).filter t).length = K) := hK
            have h5s : w.heap.size ≤ w5.heap.size := HB5.out.size
            clear hNM hK ho5
            go_wp2_with (first
              | (at_builtin; refine wpList_append_lies _ rfl (.tmp 55) (.tmp 57) 45 rfl w.heap.size 3 y0 (.int .i64 0) 1 8 Tryd.underlying45 hj0 hy0 hy1 hy2 rfl (by decide) u6 K (ints ((List.range k).filter t)) rfl (HO5K.out.alloc _) ⟨w5.heap.size, 0, none⟩ 1 1 [.int .i64 (k : Int)] rfl rfl (cell_one_new _ _ _) ?c2 (by decide) ?c3 ?c4 ?c5 _ rfl ?_))
            case c2 => intro z hz; simp at hz; subst hz; rfl
            case c3 => unfold maxLen; omega
            case c4 => omega
            case c5 => first | omega | (simp; omega)
            intro g1 cap1 w6 hown hgrow hat hlt2
            have HB6 : Hid (Below w.heap.size w w6) := (HB5.out.alloc h5s _).grown hgrow (by simp; omega) (fun k e => (HO5K.out.lt k e).1)
            have HO6 : Hid (w6.ownsRow w.heap.size 3 1 (.slice (some ⟨g1, 0, none⟩) (K + 1) cap1) ((List.range (k + 1)).filter t).length (ints ((List.range (k + 1)).filter t))) := show World.ownsRow .. by
              rw [HF.out, ints_snoc, List.length_append, HK.out]; exact hown
            clear hown hgrow hat hlt2
            go_wp2_with fail
            go_roundw
            case rel => exact ⟨k + 1, by omega, by go_num, HB6.out, HO6.out⟩
            case measure => simp [intOf]; omega
          · have hNi : ¬ (N : Int) < (M : Int) - 1 := by omega
            have HF : Hid ((List.range (k + 1)).filter t = (List.range k).filter t) := show _ = _ by rw [range_snoc, if_neg (fun h => hNM (HMore.out.1 h)), List.append_nil]
            clear hNM
            go_wp2_with fail
            go_roundw
            case rel => exact ⟨k + 1, by omega, by go_num, HB5.out, by rw [HF.out]; exact HO5.out⟩
            case measure => simp [intOf]; omega
    · obtain rfl : k = n := by omega
      have HO6 : Hid (wr.ownsRow w.heap.size 3 1 u6 ((List.range k).filter t).length (ints ((List.range k).filter t))) := HO.out
      go_wp2_with fail
      go_ret
      exact ⟨u6, _, rfl, ⟨t, fun e _ => HT.out e, rfl⟩, HO6.out, HB.out⟩

end Go.Proofs.YtflifofpfodnnabDoor.Br
