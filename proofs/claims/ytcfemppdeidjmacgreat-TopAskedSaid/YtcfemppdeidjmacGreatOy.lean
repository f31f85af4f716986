/-
  follow of package asks: its loop.
-/
import Derived.Test.YtcfemppdeidjmacGreatOx
namespace Go.Proofs.YtcfemppdeidjmacGreat.As
open Go.RowKit Go.Deep
open Go.RowKit (Below)
set_option linter.unusedVariables false

variable {w w' wr : World} {f : Nat → Int × Int × Int}

theorem event_cell (w : World) (x y z : Int) (j : Nat) (hj : j < 3) : (w.alloc (.cells #[.int .i64 x, .int .i64 y, .int .i64 z] 80)).cell? ⟨w.heap.size, j, none⟩ = some (if j = 0 then .int .i64 x else if j = 1 then .int .i64 y else .int .i64 z) := by
  match j, hj with
  | 0, _ => simp
  | 1, _ => simp
  | 2, _ => simp

set_option maxRecDepth 100000 in
set_option maxHeartbeats 2000000 in
theorem follow_go {a : Option Addr} {m c : Nat} (n : Nat) (h1 : 1 ≤ n) (h60 : n ≤ 60) (hm : m ≤ 120) (h : EvAt w a m f) (hfit : Fits f m) :
    Calls Tryz.prog 112 #[.int .i64 (n : Nat), .slice a m c] w (Follows w f m n) := by
  have HH : Hid (EvAt w a m f) := h
  have HFit : Hid (Fits f m) := hfit
  have HS : Hid (Fol w (w.alloc (.map #[] 0)) f m n 0 (.slice none 0 0)) := Fol.start w f m n
  obtain ⟨z0, hi0, hz0, hz1, hz2⟩ := info_parts Tryz.infoTwo
  have hbuild : ∀ (x y : Int) (W : World), (Instr.build 233 #[(0, .int .i64 x), (1, .int .i64 y)]).run Tryz.prog W = .ok (.agg #[.int .i64 x, .int .i64 y]) W := fun x y W => run_build W 233 _ _ (by kernel_rfl)
  have hmm := @run_makeMap Tryz.prog
  have h1' : ¬ ((n : Int) < 1) := by omega
  have h2' : ¬ ((60 : Int) < (n : Int)) := by omega
  have h3 : ¬ (120 < (m : Int)) := by omega
  clear h hfit
  go_enter Tryz.func112, Tryz.ntmps112
  go_wp2_with fail
  clear hmm h1' h2' h3
  go_loopw [7, 9, 10, 11, 12, 13, 14, 29] (fun vo _ _ _ _ _ _ i wr => ∃ j : Nat, j ≤ m ∧ i = .int .i64 (j : Nat) ∧ Fol w wr f m n j vo) (fun _ _ _ _ _ _ _ i _ => m - (intOf i).toNat)
  case atStart => exact ⟨0, Nat.zero_le _, rfl, HS.out⟩
  case round =>
    clear HS
    obtain ⟨j, hj, rfl, hF⟩ := hrel
    have HF : Hid (Fol w wr f m n j u7) := hF
    clear hF
    by_cases hlt : j < m
    · obtain ⟨b, o, rfl, c1, c2, c3⟩ := HH.out.below HF.out.below j hlt
      obtain ⟨q, hq⟩ : ∃ q, (f j).1 = q := ⟨_, rfl⟩
      obtain ⟨x, hx⟩ : ∃ x, (f j).2.1 = x := ⟨_, rfl⟩
      obtain ⟨y, hy⟩ : ∃ y, (f j).2.2 = y := ⟨_, rfl⟩
      rw [hq] at c1
      rw [hx] at c2
      rw [hy] at c3
      have HQ : Hid ((f j).1 = q ∧ (f j).2.1 = x ∧ (f j).2.2 = y) := ⟨hq, hx, hy⟩
      clear hq hx hy
      have i0 : (0 : Int) ≤ (j : Int) := by omega
      have i1 : (j : Int) < (m : Int) := by omega
      go_wp2_with fail
      refine (aedge_any q x y _).mono ?_
      rintro e w1 ⟨rfl, hb1⟩
      have k2 : ∀ W, Below w1.heap.size w1 W → (W.cell? ⟨wr.heap.size, 0, none⟩ = some (.int .i64 q) ∧ W.cell? ⟨wr.heap.size, 1, none⟩ = some (.int .i64 x) ∧ W.cell? ⟨wr.heap.size, 2, none⟩ = some (.int .i64 y)) := fun W hW => by
        have hW2 := below_step hb1 hW
        exact ⟨cell_keep hW2 (by simp), cell_keep hW2 (by simp), cell_keep hW2 (by simp)⟩
      have hbA : Below w1.heap.size w1 (w1.alloc (.cells #[.int .i64 (min x y), .int .i64 (max x y)] 44)) := (Below.refl _ _).alloc (Nat.le_refl _) _
      have HF2 : Hid (Fol w (w1.alloc (.cells #[.int .i64 (min x y), .int .i64 (max x y)] 44)) f m n j u7) := ((HF.out.step ((Below.refl _ _).alloc (Nat.le_refl _) _)).step hb1).step hbA
      obtain ⟨e0, e1, e2⟩ := k2 _ hbA
      have d0 : (w1.alloc (.cells #[.int .i64 (min x y), .int .i64 (max x y)] 44)).cell? ⟨w1.heap.size, 0, none⟩ = some (.int .i64 (min x y)) := by simp
      have d1 : (w1.alloc (.cells #[.int .i64 (min x y), .int .i64 (max x y)] 44)).cell? ⟨w1.heap.size, 1, none⟩ = some (.int .i64 (max x y)) := by simp
      obtain ⟨W2, hW2⟩ : ∃ W2, w1.alloc (.cells #[.int .i64 (min x y), .int .i64 (max x y)] 44) = W2 := ⟨_, rfl⟩
      rw [hW2] at e0 e1 e2 d0 d1 HF2
      obtain ⟨eb, heb⟩ : ∃ eb, w1.heap.size = eb := ⟨_, rfl⟩
      obtain ⟨vb, hvb⟩ : ∃ vb, wr.heap.size = vb := ⟨_, rfl⟩
      rw [heb] at d0 d1
      rw [hvb] at e0 e1 e2
      clear k2 hbA
      have hwf := HFit.out j hlt
      rw [HQ.out.2.1, HQ.out.2.2] at hwf
      obtain ⟨lv, D, hM, hO⟩ := HF2.out.map
      have hwm : (Lit.int .i64 (min x y)).wf = true ∧ (Lit.int .i64 (max x y)).wf = true := by
        rcases Int.le_total x y with r | r
        · rw [Int.min_eq_left r, Int.max_eq_right r]; exact hwf
        · rw [Int.min_eq_right r, Int.max_eq_left r]; exact ⟨hwf.2, hwf.1⟩
      obtain ⟨l, th, hlook, hth, hlv⟩ := hM.look_ok hwm.1 hwm.2
      have HT : Hid ((th = true ↔ ∃ e ∈ here f j, ev (min x y) (max x y) = ev e.1 e.2) ∧ ∀ e ∈ here f j, ev (min x y) (max x y) = ev e.1 e.2 → l = (lv e : Nat)) := ⟨hth, hlv⟩
      have HM : Hid (OMap W2 w.heap.size D (here f j) lv ∧ Opens f m j lv) := ⟨hM, hO⟩
      have hlook : (Instr.lookup 230 (.map (some w.heap.size)) (.agg #[.int .i64 (min x y), .int .i64 (max x y)]) true).run Tryz.prog W2 = .ok (.tuple #[.int .i64 l, .bool th]) W2 := hlook
      clear hwf hwm hM hO hth hlv
      go_wp2_with (first | (rw [hW2]))
      refine (wrong_any (n : Nat) q x y th _).mono ?_
      rintro e w3 ⟨rfl, hb3⟩
      have HEO : Hid (eOf f j = ((min x y).toNat, (max x y).toNat)) := show _ = _ by unfold eOf; rw [HQ.out.2.1, HQ.out.2.2]
      have hev : Sane n f j → ev (min x y) (max x y) = ev ((eOf f j).1 : Nat) ((eOf f j).2 : Nat) := fun hs => by
        have q1 := hs.2
        rw [HQ.out.2.1, HQ.out.2.2] at q1
        rw [HEO.out]
        show ev _ _ = ev ((min x y).toNat : Nat) ((max x y).toNat : Nat)
        rw [Int.toNat_of_nonneg (by omega), Int.toNat_of_nonneg (by omega)]
      have HTH : Hid (Sane n f j → (th = true ↔ eOf f j ∈ here f j)) := fun hs => by
        rw [HT.out.1, hev hs, ev_mem]
      have HLV : Hid (Sane n f j → eOf f j ∈ here f j → l = (lv (eOf f j) : Nat)) := fun hs hin => HT.out.2 _ hin (hev hs)
      have HF3 : Hid (Fol w w3 f m n j u7) := HF2.out.step hb3
      have HM3 : Hid (OMap w3 w.heap.size D (here f j) lv ∧ Opens f m j lv) := ⟨HM.out.1.of_block (hb3.block _ HM.out.1.lt), HM.out.2⟩
      replace e0 := cell_keep hb3 e0
      replace d0 := cell_keep hb3 d0
      replace d1 := cell_keep hb3 d1
      have HG : Hid (∀ g, u7.ownBlock = some g → g ≠ eb) := fun g hg => by
        have q1 := (own_bound HF.out.own hg).2
        have q2 := hb1.size
        simp at q2
        omega
      clear hlook hW2 e1 e2 heb hvb hb1 hev HT HM HF2 HF hb3 c1 c2 c3
      obtain ⟨av, cv, rfl, -, hKc, hcM⟩ := own_edges HF3.out.own rfl
      have hK120 : (sofar f m j).length ≤ j := by rw [sofar_len]; exact places_len f 1 j
      obtain ⟨K, hK⟩ : ∃ K, (sofar f m j).length = K := ⟨_, rfl⟩
      have HK : Hid ((sofar f m j).length = K) := hK
      rw [hK] at hK120 hKc HF3 HG
      rw [hK]
      clear hK
      have hbd := badOf_is (n := n) HTH.out
      rw [HQ.out.1, HQ.out.2.1, HQ.out.2.2] at hbd
      obtain ⟨bd, hbdd⟩ : ∃ bd, badOf (n : Nat) q x y th = bd := ⟨_, rfl⟩
      rw [hbdd] at hbd
      rw [hbdd]
      clear hbdd
      rcases hbd with ⟨hz, hmay⟩ | ⟨hz, hbad⟩
      · rw [show errOf bd = .nilIface from if_pos hz]
        have HMay : Hid (May n f j) := hmay
        have HAll : Hid (∀ k, k < j + 1 → May n f k) := fun k hk => by
          rcases Nat.lt_or_ge k j with r | r
          · exact HF3.out.may k r
          · obtain rfl : k = j := by omega
            exact hmay
        have hwhat := hmay.what
        rw [HQ.out.1] at hwhat
        clear hz hmay
        rcases (by omega : q = 1 ∨ q = 2 ∨ q = 3) with rfl | rfl | rfl
        · have hin : eOf f j ∉ here f j := HMay.out.add HQ.out.1
          have hna := HMay.out.a
          have hnb := HMay.out.b
          rw [HQ.out.2.1] at hna
          rw [HQ.out.2.2] at hnb
          obtain ⟨ea, hea⟩ : ∃ ea : Nat, min x y = (ea : Int) := ⟨(min x y).toNat, by omega⟩
          obtain ⟨ec, hec⟩ : ∃ ec : Nat, max x y = (ec : Int) := ⟨(max x y).toNat, by omega⟩
          have heo : eOf f j = (ea, ec) := by rw [HEO.out, hea, hec]; simp
          have hA : here f (j + 1) = here f j ++ [(ea, ec)] := by rw [here_add HQ.out.1, heo]
          have hll := here_len f j
          rw [heo] at hin
          obtain ⟨w4, D4, hrun4, hM4, ht4⟩ := HM3.out.1.put (A' := here f (j + 1)) (lv' := fun e => if e = (ea, ec) then K else lv e) (by omega) (a := ea) (b := ec) (by omega) (by omega) K (by intro e; rw [hA]; simp [or_comm]) (by rw [hA]; simp) hin (if_pos rfl) (fun e _ hne => if_neg hne)
          have hO4 : Opens f m (j + 1) (fun e => if e = (ea, ec) then K else lv e) := HM3.out.2.add hlt HQ.out.1 (by rw [heo]; exact hin) (by rw [heo, HK.out]; exact if_pos rfl) (fun e hne => by rw [heo] at hne; exact if_neg hne)
          have hrun5 : (Instr.mapUpdate 230 (.map (some w.heap.size)) (.agg #[.int .i64 (min x y), .int .i64 (max x y)]) (.int .i64 (K : Int))).run Tryz.prog w3 = .ok () w4 := by rw [hea, hec]; exact hrun4
          have hV4 : w4.ownsRow w.heap.size 233 2 (.slice av K cv) K (twos (sofar f m j)) := by
            have h5 := HF3.out.own
            rw [HK.out] at h5
            exact own_same h5 fun g hg => ht4.grown.block g (own_bound h5 hg).2 (fun e => own_not_map h5 HM3.out.1.isMap (by rw [hg]; exact e))
          have HB4 : Hid (Below w.heap.size w w4 ∧ w.heap.size < w4.heap.size) := by
            have h6 := HF3.out.below
            have h7 := HF3.out.more
            have h8 := ht4.grown.size
            exact ⟨h6.grown ht4.grown (by omega) (fun k e => by cases e; exact Nat.le_refl _), by omega⟩
          have HMO : Hid (OMap w4 w.heap.size D4 (here f (j + 1)) (fun e => if e = (ea, ec) then K else lv e) ∧ Opens f m (j + 1) (fun e => if e = (ea, ec) then K else lv e)) := ⟨hM4, hO4⟩
          have HV4 : Hid (w4.ownsRow w.heap.size 233 2 (.slice av K cv) K (twos (sofar f m j))) := hV4
          clear hin hna hnb hea hec heo hA hll hrun4 hM4 ht4 hO4 hV4
          go_wp2_with (first
            | (at_builtin; refine wpList_append_lies _ rfl (.tmp 58) (.tmp 63) 131 rfl w.heap.size 233 z0 (.agg #[.int .i64 0, .int .i64 0]) 2 16 Tryz.underlying131 hi0 hz0 hz1 hz2 rfl (by decide) (.slice av K cv) K (twos (sofar f m j)) rfl (HV4.out.alloc _) ⟨w4.heap.size, 0, none⟩ 1 1 (two (j, m)) rfl rfl (two_put _ _ _ _) ?c2 (by decide) ?c3 ?c4 ?c5 _ rfl ?_))
          case c2 => intro z hz; exact two_one [(j, m)] z (by simpa [twos] using hz)
          case c3 => unfold maxLen; omega
          case c4 => omega
          case c5 => simp; have := HB4.out.2; omega
          intro g1 cap1 w6 hown hgrow hat hlt2
          have HF6 : Hid (Fol w w6 f m n (j + 1) (.slice (some ⟨g1, 0, none⟩) (K + 1) cap1)) := by
            have hs4 := HB4.out.2
            have hM := HMO.out.1
            have hMA : OMap (w4.alloc (.cells #[.int .i64 (j : Int), .int .i64 (m : Int)] 233)) w.heap.size D4 (here f (j + 1)) (fun e => if e = (ea, ec) then K else lv e) := hM.of_block (((Below.refl _ _).alloc (Nat.le_refl _) _ : Below w4.heap.size w4 _).block _ hM.lt)
            have hbA : Below w.heap.size w (w4.alloc (.cells #[.int .i64 (j : Int), .int .i64 (m : Int)] 233)) := HB4.out.1.alloc (by omega) _
            have h9 := hgrow.size
            have h10 : (w4.alloc (.cells #[.int .i64 (j : Int), .int .i64 (m : Int)] 233)).heap.size = w4.heap.size + 1 := by simp
            refine ⟨⟨_, D4, hMA.of_block (hgrow.block _ hMA.lt (fun e => own_not_map (HV4.out.alloc _) hMA.isMap e.symm)), HMO.out.2⟩, ?_, hbA.grown hgrow (by omega) (fun k e => (own_bound HV4.out e).1), by omega, HAll.out⟩
            rw [sofar_add hlt HQ.out.1, twos_snoc, List.length_append, HK.out]
            exact hown
          clear hown hgrow hat hlt2
          go_wp2_with fail
          go_roundw
          case rel => exact ⟨j + 1, by omega, by go_num, HF6.out⟩
          case measure => simp [intOf]; omega
        · have hin : eOf f j ∈ here f j := HMay.out.drop HQ.out.1
          have hna := HMay.out.a
          have hnb := HMay.out.b
          rw [HQ.out.2.1] at hna
          rw [HQ.out.2.2] at hnb
          obtain ⟨ea, hea⟩ : ∃ ea : Nat, min x y = (ea : Int) := ⟨(min x y).toNat, by omega⟩
          obtain ⟨ec, hec⟩ : ∃ ec : Nat, max x y = (ec : Int) := ⟨(max x y).toNat, by omega⟩
          have heo : eOf f j = (ea, ec) := by rw [HEO.out, hea, hec]; simp
          have hnd := here_nodup (n := n) (t := j) fun k hk => HAll.out k (by omega)
          have hl := HLV.out HMay.out.sane hin
          obtain ⟨i, hi, hset⟩ := sofar_drop HM3.out.2 (fun k hk => HAll.out k (by omega)) hlt HQ.out.1 hin
          have hp := HM3.out.2.lt hin
          rw [HK.out] at hp
          obtain ⟨p, hpp⟩ : ∃ p, lv (eOf f j) = p := ⟨_, rfl⟩
          rw [hpp] at hl hi hset hp
          subst hl
          have h5 := HF3.out.own
          rw [HK.out] at h5
          obtain ⟨g, rfl⟩ : ∃ g, av = some ⟨g, 0, none⟩ := by
            rcases h5.2 with ⟨e, e2⟩ | ⟨g, cap, cur, e, _⟩
            · omega
            · simp only [Value.slice.injEq] at e
              exact ⟨g, e.1⟩
          have hfz := h5.frozenAt (p * 2 + 1)
          have hcl : w3.cell? ⟨g, p * 2 + 1, none⟩ = some (.int .i64 (m : Nat)) := by
            rw [h5.cellAt (p * 2 + 1) (by omega), twos_get _ _ (by rw [HK.out]; omega)]
            rw [show (p * 2 + 1) / 2 = p by omega, show (p * 2 + 1) % 2 = 1 by omega, show (sofar f m j).getD p (0, 0) = (i, m) by rw [List.getD_eq_getElem?_getD, hi]; rfl]
            rfl
          obtain ⟨h6, hgr⟩ := h5.stored (p * 2 + 1) (.int .i64 (j : Nat))
          rw [twos_set _ _ _ _ _ hi, ← hset] at h6
          have hge : g ≠ eb := HG.out g rfl
          have hgm : g ≠ w.heap.size := fun e => own_not_map h5 HM3.out.1.isMap (by rw [← e]; rfl)
          have d0' : (w3.setCell ⟨g, p * 2 + 1, none⟩ (.int .i64 (j : Int))).cell? ⟨eb, 0, none⟩ = some (.int .i64 (min x y)) := by
            rw [World.cell?_of_block (w := w3) (a := ⟨eb, 0, none⟩) (Below.heap_setCell _ _ _ _ (fun e => hge e.symm))]; exact d0
          have d1' : (w3.setCell ⟨g, p * 2 + 1, none⟩ (.int .i64 (j : Int))).cell? ⟨eb, 1, none⟩ = some (.int .i64 (max x y)) := by
            rw [World.cell?_of_block (w := w3) (a := ⟨eb, 1, none⟩) (Below.heap_setCell _ _ _ _ (fun e => hge e.symm))]; exact d1
          have hM4 : OMap (w3.setCell ⟨g, p * 2 + 1, none⟩ (.int .i64 (j : Int))) w.heap.size D (here f j) lv := HM3.out.1.of_block (Below.heap_setCell _ _ _ _ (fun e => hgm e.symm))
          have hA : here f (j + 1) = (here f j).erase (ea, ec) := by rw [here_drop HQ.out.1, heo]
          rw [heo] at hin
          obtain ⟨w5, D5, hrun5, hM5, ht5⟩ := hM4.drop (A' := here f (j + 1)) (a := ea) (b := ec) (by omega) (by omega) (by rw [hA, hnd.mem_erase_iff]; exact fun z => z.1 rfl) (by rw [hA]; exact List.perm_cons_erase hin) 0
          have hrun6 : (Builtin.delete_ #[230, 44] 0 #[.map (some w.heap.size), .agg #[.int .i64 (min x y), .int .i64 (max x y)]]).run Tryz.prog (w3.setCell ⟨g, p * 2 + 1, none⟩ (.int .i64 (j : Int))) = .ok (.tuple #[]) w5 := by rw [hea, hec]; exact hrun5
          have HF6 : Hid (Fol w w5 f m n (j + 1) (.slice (some ⟨g, 0, none⟩) K cv)) := by
            have hF := HF3.out
            have hs := hF.below.size
            have hg1 := (own_bound h5 (k := g) rfl).1
            have hb4 : Below w.heap.size w (w3.setCell ⟨g, p * 2 + 1, none⟩ (.int .i64 (j : Int))) := hF.below.grown hgr hs (fun k e => by cases e; exact hg1)
            have hs4 := hgr.size
            have hs5 := ht5.grown.size
            have hmo := hF.more
            refine ⟨⟨lv, D5, hM5, HM3.out.2.drop hlt HQ.out.1 hnd⟩, ?_, hb4.grown ht5.grown (by omega) (fun k e => by cases e; exact Nat.le_refl _), by omega, HAll.out⟩
            have hlen : (sofar f m (j + 1)).length = K := by rw [hset, List.length_set, HK.out]
            rw [hlen]
            exact own_same h6 fun k hk => ht5.grown.block k (own_bound h6 hk).2 (fun e => by cases hk; cases e; exact hgm rfl)
          have i2 : (0 : Int) ≤ (p : Int) := by omega
          have i3 : (p : Int) < (K : Int) := by omega
          clear hin hna hnb hea hec heo hnd hi hset h5 h6 hgr hM4 hA hM5 ht5 hrun5 HF3 HM3 HG hge hgm HLV
          go_wp2_with fail
          go_roundw
          case rel => exact ⟨j + 1, by omega, by go_num, HF6.out⟩
          case measure => simp [intOf]; omega
        · have HF4 : Hid (Fol w w3 f m n (j + 1) (.slice av K cv)) := by
            have hF := HF3.out
            refine ⟨⟨lv, D, ?_, HM3.out.2.ask hlt (by rw [HQ.out.1]; decide) (by rw [HQ.out.1]; decide)⟩, ?_, hF.below, hF.more, HAll.out⟩
            · rw [here_ask (by rw [HQ.out.1]; decide) (by rw [HQ.out.1]; decide)]; exact HM3.out.1
            · have h5 := hF.own
              rw [sofar_ask hlt (by rw [HQ.out.1]; decide) (by rw [HQ.out.1]; decide)]; exact h5
          go_wp2_with fail
          go_roundw
          case rel => exact ⟨j + 1, by omega, by go_num, HF4.out⟩
          case measure => simp [intOf]; omega
      · rw [show errOf bd = .iface 102 (.int .i64 bd) from if_neg hz]
        have HBad : Hid (Bad n f j bd ∧ bd ≠ 0) := ⟨hbad, hz⟩
        clear hz hbad
        go_wp2_with fail
        go_ret3
        have he : errOf bd = .iface 102 (.int .i64 bd) := if_neg HBad.out.2
        refine ⟨_, j, bd, by rw [he]; rfl, Or.inr (Or.inr (Or.inl ⟨by omega, hm, hlt, by simpa using HF3.out.may, by simpa using HBad.out.1⟩)), HF3.out.below, fun _ => rfl, fun e => absurd e HBad.out.2⟩
    · obtain rfl : j = m := by omega
      go_wp2_with fail
      go_ret3
      have hF := HF.out
      have hown := hF.own
      rw [sofar_end] at hown
      exact ⟨u7, 0, 0, rfl, Or.inr (Or.inr (Or.inr ⟨by omega, by omega, by simpa using hF.may, rfl, rfl⟩)), hF.below, fun q => absurd rfl q, fun _ => hown⟩

theorem follow_any {a : Option Addr} {m c : Nat} (n : Int) (h : EvAt w a m f) (hfit : Fits f m) :
    Calls Tryz.prog 112 #[.int .i64 n, .slice a m c] w (Follows w f m n) := by
  by_cases hno : (n < 1 ∨ 60 < n) ∨ 120 < m
  · exact follow_no n hno
  · obtain ⟨k, rfl⟩ := Int.eq_ofNat_of_zero_le (show 0 ≤ n by omega)
    exact follow_go k (by omega) (by omega) (by omega) h hfit

/-- What Spans comes to. -/
def Spanned (w : World) (f : Nat → Int × Int × Int) (m : Nat) (n : Int) (e : Ending) (w' : World) : Prop :=
  ∃ (v : Value) (k : Nat) (x : Int), e = .returned (.tuple #[v, errOf x]) ∧ EFault n m f k x ∧ Below w.heap.size w w' ∧ (x ≠ 0 → v = .slice none 0 0) ∧ (x = 0 → w'.ownsRow w.heap.size 233 2 v (spans f m m).length (twos (spans f m m)))

set_option maxRecDepth 100000 in
set_option maxHeartbeats 1000000 in
theorem aspans_any {a : Option Addr} {m c : Nat} (n : Int) (h : EvAt w a m f) (hfit : Fits f m) :
    Calls Tryz.prog 79 #[.int .i64 n, .slice a m c] w (Spanned w f m n) := by
  have hc := follow_any (c := c) n h hfit
  clear h hfit
  go_enter Tryz.func79, Tryz.ntmps79
  go_wp2_with fail
  refine hc.mono ?_
  rintro e w1 ⟨v, k, x, rfl, hE, hb, h1, h2⟩
  clear hc
  go_wp2_with fail
  go_ret2
  exact ⟨v, k, x, rfl, hE, hb, h1, h2⟩

end Go.Proofs.YtcfemppdeidjmacGreat.As
