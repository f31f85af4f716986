/-
  The statements' own answer: the bridges, each by itself.
-/
import Derived.Test.YtflifofpfodnnabDoorBd
namespace Go.Proofs.YtflifofpfodnnabDoor.Br
open Go.RowKit Go.Deep
open Go.RowKit (Below)
set_option linter.unusedVariables false

variable {w w' : World} {E A B : List (Nat × Nat)} {p q : Nat → Nat}

theorem out_at {b o m m1 c k : Nat} {x : Nat × Nat} (hE : EdgesAt w (some ⟨b, o, none⟩) (A ++ x :: B)) (hm : m1 + 1 = m) (hn : (A ++ B).length = m1) (hc : m ≤ c) (hc2 : c ≤ maxLen) (hn2 : m < 1000000) (hk : A.length = k) :
    Calls Tryd.prog 27 #[.slice (some ⟨b, o, none⟩) m c, .int .i64 (k : Nat)] w fun e w' => ∃ v, e = .returned v ∧ Below w.heap.size w w' ∧ w'.ownsRow w.heap.size 62 2 v m1 (twos (A ++ B)) := by
  subst hm
  exact out_own hE hn hc hc2 (by omega) hk

theorem take_snoc {S : List (Nat × Nat)} {j : Nat} {s : Nat × Nat} (h : S[j]? = some s) : S.take (j + 1) = S.take j ++ [s] := by
  rw [List.take_add_one, h]; rfl

theorem split_at {S : List (Nat × Nat)} {j : Nat} {s : Nat × Nat} (h : S[j]? = some s) : S = S.take j ++ s :: S.drop (j + 1) := by
  obtain ⟨hj, rfl⟩ := List.getElem?_eq_some_iff.1 h
  simp

/-- The parts of a list of edges are counted. -/
theorem parts_some (E : List (Nat × Nat)) (n : Nat) : ∃ N, ∀ p, Rest E p → partsOf n p = N := by
  obtain ⟨r, hr⟩ := rest_of E
  refine ⟨partsOf n r, fun p hp => ?_⟩
  unfold partsOf
  exact cnt_congr n fun i _ => by rw [hp.one hr (fun _ _ => Iff.rfl)]

set_option maxRecDepth 100000 in
set_option maxHeartbeats 2000000 in
theorem bridges_of {a : Option Addr} {m c n : Nat} (hE : EdgesAt w a E) (hm : E.length = m) (hm2 : m ≤ 200) (hc : m ≤ c) (hc2 : c ≤ maxLen) (hn : 0 < n) (hn2 : n ≤ 60) (ha : Among n E) (hu : Up E) :
    Calls Tryd.prog 16 #[.int .i64 (n : Nat), .slice a m c] w fun e w' => ∃ v L, e = .returned v ∧ Brs E L ∧ w'.ownsRow w.heap.size 62 2 v L.length (twos L) ∧ Below w.heap.size w w' := by
  obtain ⟨t, ht⟩ := brs_some E
  obtain ⟨p, hp⟩ := rest_of E
  obtain ⟨N, hN⟩ := parts_some E n
  have hNp := hN p hp
  have hNle : N ≤ n := by rw [← hNp]; exact cnt_le _ n
  obtain ⟨z0, hi0, hz0, hz1, hz2⟩ := info_parts Tryd.infoEdge
  have HE : Hid (EdgesAt w a E ∧ E.length = m ∧ Among n E ∧ Up E) := ⟨hE, hm, ha, hu⟩
  have HT : Hid (∀ e, t e = true ↔ Bridge E e) := ht
  have HN : Hid (partsOf n p = N ∧ Rest E p) := ⟨hNp, hp⟩
  have hpo := parts_of (c := c) hE hm (by omega) n hn hn2 ha hp
  clear hE hm ha hu ht hN hNp hp
  go_enter Tryd.func16, Tryd.ntmps16
  go_wp2_with fail
  refine hpo.mono ?_
  rintro e w1 ⟨k1, cap1, rfl, hb1, hk1, hc1⟩
  have hco := count_any (cap := cap1) hc1 hn2 N HN.out.1
  have HB1 : Hid (Below w.heap.size w w1) := hb1
  clear hpo hb1 hc1 hk1
  go_wp2_with fail
  refine hco.mono ?_
  rintro e w2 ⟨rfl, hb2⟩
  have HB2 : Hid (Below w.heap.size w w2) := below_step HB1.out hb2
  clear hco hb2 HB1
  go_wp2_with fail
  go_loopw [6, 7] (fun vo i wr => ∃ j : Nat, j ≤ m ∧ i = .int .i64 (j : Nat) ∧ Below w.heap.size w wr ∧ wr.ownsRow w.heap.size 62 2 vo ((E.take j).filter t).length (twos ((E.take j).filter t))) (fun _ i _ => m - (intOf i).toNat)
  case atStart => exact ⟨0, Nat.zero_le _, rfl, HB2.out, by simp [twos]; exact World.ownsRow_nil ..⟩
  case round =>
    obtain ⟨j, hj, rfl, hb, hown⟩ := hrel
    have HB : Hid (Below w.heap.size w wr) := hb
    have HO : Hid (wr.ownsRow w.heap.size 62 2 u6 ((E.take j).filter t).length (twos ((E.take j).filter t))) := hown
    clear hb hown
    by_cases hlt : j < m
    · have hEr := HE.out.1.below HB.out
      obtain ⟨b, o, rfl, -, -⟩ := hEr.cell j (by rw [HE.out.2.1]; exact hlt)
      obtain ⟨⟨x, y⟩, hs⟩ : ∃ s, E[j]? = some s := ⟨E[j]'(by rw [HE.out.2.1]; exact hlt), List.getElem?_eq_getElem (by rw [HE.out.2.1]; exact hlt)⟩
      have hsp := split_at hs
      have hAB : (E.take j ++ E.drop (j + 1)).length = m - 1 := by
        have := HE.out.2.1
        simp
        omega
      have hmem : (x, y) ∈ E := List.mem_of_getElem? hs
      have hxy := HE.out.2.2.1 _ hmem
      have HSJ : Hid (E[j]? = some (x, y) ∧ (x, y) ∈ E) := ⟨hs, hmem⟩
      have hAm : Among n (E.take j ++ E.drop (j + 1)) := fun e he => HE.out.2.2.1 e (by
        rcases List.mem_append.1 he with q | q
        · exact List.mem_of_mem_take q
        · exact List.mem_of_mem_drop q)
      have HAm : Hid (Among n (E.take j ++ E.drop (j + 1))) := hAm
      have hup := HE.out.2.2.2
      rw [hsp] at hEr hup
      have hout := out_at (c := c) hEr (by omega) hAB hc hc2 (by omega) (k := j) (by simp; have := HE.out.2.1; omega)
      obtain ⟨q, hq⟩ := rest_of (E.take j ++ E.drop (j + 1))
      obtain ⟨M, hM⟩ : ∃ M, partsOf n q = M := ⟨_, rfl⟩
      have hMle : M ≤ n := by rw [← hM]; exact cnt_le _ n
      have hpE : Rest (E.take j ++ (x, y) :: E.drop (j + 1)) p := by rw [← hsp]; exact HN.out.2
      have HMore : Hid (t (x, y) = true ↔ N < M) := show _ ↔ _ by
        rw [HT.out, ← hM, ← HN.out.1, more_out hq hpE hxy.1 hxy.2]
        conv => lhs; rw [hsp]
        exact bridge_new hup
      have HR : Hid (Rest (E.take j ++ E.drop (j + 1)) q ∧ partsOf n q = M ∧ (E.take j ++ E.drop (j + 1)).length = m - 1) := ⟨hq, hM, hAB⟩
      have i0 : (0 : Int) ≤ (j : Int) := by omega
      have i1 : (j : Int) < (m : Int) := by omega
      clear hEr hs hsp hAB hmem hxy hAm hup hq hM hpE
      go_wp2_with fail
      refine hout.mono ?_
      rintro e w3 ⟨v3, rfl, hb3, hown3⟩
      obtain ⟨a3, c3, rfl, hE3, -, -⟩ := own_edges hown3 HR.out.2.2
      have hpo := parts_of (c := c3) hE3 HR.out.2.2 (by omega) n hn hn2 HAm.out HR.out.1
      have HB3 : Hid (Below w.heap.size w w3) := below_step HB.out hb3
      have HO3 : Hid (w3.ownsRow w.heap.size 62 2 u6 ((E.take j).filter t).length (twos ((E.take j).filter t))) := own_keep HO.out hb3
      clear hout hb3 hown3 hE3 HB HO
      go_wp2_with fail
      refine hpo.mono ?_
      rintro e w4 ⟨k4, cap4, rfl, hb4, hk4, hc4⟩
      have hco := count_any (cap := cap4) hc4 hn2 M HR.out.2.1
      have HB4 : Hid (Below w.heap.size w w4) := below_step HB3.out hb4
      have HO4 : Hid (w4.ownsRow w.heap.size 62 2 u6 ((E.take j).filter t).length (twos ((E.take j).filter t))) := own_keep HO3.out hb4
      clear hpo hb4 hc4 hk4 HB3 HO3
      go_wp2_with fail
      refine hco.mono ?_
      rintro e w5 ⟨rfl, hb5⟩
      have HB5 : Hid (Below w.heap.size w w5) := below_step HB4.out hb5
      have HO5 : Hid (w5.ownsRow w.heap.size 62 2 u6 ((E.take j).filter t).length (twos ((E.take j).filter t))) := own_keep HO4.out hb5
      clear hco hb5 HB4 HO4
      by_cases hNM : N < M
      · have hNi : (N : Int) < (M : Int) := by omega
        have hf : (E.take (j + 1)).filter t = (E.take j).filter t ++ [(x, y)] := by
          rw [take_snoc HSJ.out.1, List.filter_append]
          simp [HMore.out.2 hNM]
        have HF : Hid ((E.take (j + 1)).filter t = (E.take j).filter t ++ [(x, y)]) := hf
        have hKl : ((E.take j).filter t).length ≤ j := Nat.le_trans (List.length_filter_le _ _) (by simp; omega)
        obtain ⟨K, hK⟩ : ∃ K, ((E.take j).filter t).length = K := ⟨_, rfl⟩
        rw [hK] at hKl HO5
        have HK : Hid (((E.take j).filter t).length = K) := hK
        obtain ⟨b', o', ea, q1, q2⟩ := (HE.out.1.below HB5.out).cell j (by rw [HE.out.2.1]; exact hlt)
        simp only [Option.some.injEq, Addr.mk.injEq, and_true] at ea
        obtain ⟨rfl, rfl⟩ := ea
        rw [show E.getD j (0, 0) = (x, y) by rw [List.getD_eq_getElem?_getD, HSJ.out.1]; rfl] at q1 q2
        have q1 : w5.cell? ⟨b, o + j * 2, none⟩ = some (.int .i64 (x : Nat)) := q1
        have q2 : w5.cell? ⟨b, o + j * 2 + 1, none⟩ = some (.int .i64 (y : Nat)) := q2
        have h5s : w.heap.size ≤ w5.heap.size := HB5.out.size
        clear hNM hf hK
        go_wp2_with (first
          | (at_builtin; refine wpList_append_lies _ rfl (.tmp 26) (.tmp 31) 42 rfl w.heap.size 62 z0 (.agg #[.int .i64 0, .int .i64 0]) 2 16 Tryd.underlying42 hi0 hz0 hz1 hz2 rfl (by decide) u6 K (twos ((E.take j).filter t)) rfl (HO5.out.alloc _) ⟨w5.heap.size, 0, none⟩ 1 1 (two (x, y)) rfl rfl (two_new _ _ _) ?c2 (by decide) ?c3 ?c4 ?c5 _ rfl ?_))
        case c2 => intro z hz; exact two_one [(x, y)] z (by simpa [twos] using hz)
        case c3 => unfold maxLen; omega
        case c4 => omega
        case c5 => first | omega | (simp; omega)
        intro g1 cap1 w6 hown hgrow hat hlt2
        have HB6 : Hid (Below w.heap.size w w6) := (HB5.out.alloc h5s _).grown hgrow (by simp; omega) (fun k e => (HO5.out.lt k e).1)
        have HO6 : Hid (w6.ownsRow w.heap.size 62 2 (.slice (some ⟨g1, 0, none⟩) (K + 1) cap1) ((E.take (j + 1)).filter t).length (twos ((E.take (j + 1)).filter t))) := show World.ownsRow .. by
          rw [HF.out, twos_snoc, List.length_append, HK.out]; exact hown
        clear hown hgrow hat hlt2
        go_wp2_with fail
        go_roundw
        case rel => exact ⟨j + 1, by omega, by go_num, HB6.out, HO6.out⟩
        case measure => simp [intOf]; omega
      · have hNi : ¬ (N : Int) < (M : Int) := by omega
        have HF : Hid ((E.take (j + 1)).filter t = (E.take j).filter t) := show _ = _ by
          rw [take_snoc HSJ.out.1, List.filter_append]
          have : t (x, y) = false := by rw [Bool.eq_false_iff]; exact fun h => hNM (HMore.out.1 h)
          simp [this]
        clear hNM
        go_wp2_with fail
        go_roundw
        case rel => exact ⟨j + 1, by omega, by go_num, HB5.out, by rw [HF.out]; exact HO5.out⟩
        case measure => simp [intOf]; omega
    · obtain rfl : j = m := by omega
      have hfin := HO.out
      rw [List.take_of_length_le (Nat.le_of_eq HE.out.2.1)] at hfin
      have HO6 : Hid (wr.ownsRow w.heap.size 62 2 u6 (E.filter t).length (twos (E.filter t))) := hfin
      clear hfin
      go_wp2_with fail
      go_ret
      exact ⟨u6, _, rfl, ⟨t, fun e _ => HT.out e, rfl⟩, HO6.out, HB.out⟩

end Go.Proofs.YtflifofpfodnnabDoor.Br
