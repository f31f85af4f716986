/-
  Bu
-/
import Derived.Test.YtcfemppdeidjmacGreatT20
namespace Go.Proofs.YtcfemppdeidjmacGreat.Br
open Go.RowKit Go.Deep
open Go.RowKit (Below)
set_option linter.unusedVariables false

variable {w w' : World} {f : Nat → Int × Int} {kw kn n : Nat} {V : Nat → Value} {nb : Nat → List Nat} {s : St}

theorem WAt.below (h : WAt w kw kn n V nb s) (hb : Below w.heap.size w w') : WAt w' kw kn n V nb s := by
  obtain ⟨g, h1, h2⟩ := h.nd
  refine ⟨h.st.of_block (hb.block _ h.st.lt), ⟨g, h1.of_block (hb.block _ h1.lt), h2⟩, h.ne, fun i hi => ?_⟩
  obtain ⟨b, c, e1, e2, e3⟩ := h.near i hi
  exact ⟨b, c, e1, e2.below hb, e3⟩

set_option maxRecDepth 100000 in
set_option maxHeartbeats 1000000 in
theorem hangs_any (h : WAt w kw kn n V nb s) (a b : Nat) (hb : b < n) (q : Bool) (hq : q = true ↔ (s.fr b = (a : Nat) ∧ s.back b = s.turn b)) :
    Calls Tryz.prog 68 #[.slice (some ⟨kn, 0, none⟩) n n, .int .i64 (a : Nat), .int .i64 (b : Nat)] w fun e w' => e = .returned (.bool q) ∧ Below w.heap.size w w' := by
  have f1 := h.f1 hb
  have f3 := h.f3 hb
  have f4 := h.f4 hb
  have i0 : (0 : Int) ≤ (b : Int) := by omega
  have i1 : (b : Int) < (n : Int) := by omega
  by_cases h1 : s.fr b = (a : Nat)
  · have t1 : (s.fr b == ((a : Nat) : Int)) = true := by simp [h1]
    by_cases h2 : s.back b = s.turn b
    · have t2 : ((s.back b : Nat) == (s.turn b : Nat)) = true := by simp [h2]
      have t3 : (((s.back b : Nat) : Int) == ((s.turn b : Nat) : Int)) = true := by simp [h2]
      obtain rfl := hq.2 ⟨h1, h2⟩
      clear hq h1 h2 h
      go_enter Tryz.func68, Tryz.ntmps68
      go_wp2_with fail
      go_quiet (fail)
      go_wp2_with fail
      go_ret
      exact ⟨rfl, below_drewN rfl⟩
    · have t2 : ((s.back b : Nat) == (s.turn b : Nat)) = false := by simp [h2]
      have t3 : (((s.back b : Nat) : Int) == ((s.turn b : Nat) : Int)) = false := by rw [beq_eq_false_iff_ne]; omega
      obtain rfl : q = false := by rw [Bool.eq_false_iff]; exact fun h => h2 (hq.1 h).2
      clear hq h1 h2 h
      go_enter Tryz.func68, Tryz.ntmps68
      go_wp2_with fail
      go_quiet (fail)
      go_wp2_with fail
      go_ret
      exact ⟨rfl, below_drewN rfl⟩
  · have t1 : (s.fr b == ((a : Nat) : Int)) = false := by simp [h1]
    obtain rfl : q = false := by rw [Bool.eq_false_iff]; exact fun h => h1 (hq.1 h).1
    clear hq h1 h
    go_enter Tryz.func68, Tryz.ntmps68
    go_wp2_with fail
    go_quiet (fail)
    go_wp2_with fail
    go_ret
    exact ⟨rfl, below_drewN rfl⟩

theorem hang_some (s : St) : ∃ t : Nat × Nat → Bool, ∀ e, t e = true ↔ (s.fr e.2 = (e.1 : Nat) ∧ s.back e.2 = s.turn e.2) ∨ (s.fr e.1 = (e.2 : Nat) ∧ s.back e.1 = s.turn e.1) := ⟨fun e => decide ((s.fr e.2 = (e.1 : Nat) ∧ s.back e.2 = s.turn e.2) ∨ (s.fr e.1 = (e.2 : Nat) ∧ s.back e.1 = s.turn e.1)), fun e => by simp⟩

theorem roots_brs {E : List (Nat × Nat)} {p : Nat → Nat} {t : Nat × Nat → Bool} (hR : Roots E n p s n) (hn : E.Nodup) (hlt : ∀ e ∈ E, e.1 < e.2 ∧ e.2 < n) (ht : ∀ e, t e = true ↔ (s.fr e.2 = (e.1 : Nat) ∧ s.back e.2 = s.turn e.2) ∨ (s.fr e.1 = (e.2 : Nat) ∧ s.back e.1 = s.turn e.1)) : Brs E (E.filter t) :=
  ⟨t, fun e he => by
    have := hlt e he
    rw [ht, bridge_iff hR.inv.deep hn (fun e he => (hlt e he).1) he (hR.seen _ (by omega)) (hR.seen _ (by omega))], rfl⟩

theorem may_lt {m : Nat} (hmay : ∀ i, i < m → May n f i) : ∀ e ∈ edges f m, e.1 < e.2 ∧ e.2 < n := fun e he => by
  obtain ⟨i, hi, rfl⟩ := List.mem_map.1 he
  have h2 := (hmay i (List.mem_range.1 hi)).1
  unfold Sane at h2
  show (f i).1.toNat < (f i).2.toNat ∧ (f i).2.toNat < n
  omega

set_option maxRecDepth 100000 in
set_option maxHeartbeats 1000000 in
theorem bridges_no {a : Option Addr} {m c : Nat} (h : EgAt w a m f) (n : Int) (k : Nat) (x : Int) (hF : EFault n m f k x) (hx : x ≠ 0) :
    Calls Tryz.prog 26 #[.int .i64 n, .slice a m c] w fun e w' => e = .returned (.tuple #[.slice none 0 0, .iface 102 (.int .i64 x)]) ∧ Below w.heap.size w w' := by
  have hw := walked_no (c := c) h n k x hF hx
  clear h hF
  go_enter Tryz.func26, Tryz.ntmps26
  go_wp2_with fail
  refine hw.mono ?_
  rintro e w1 ⟨rfl, hb1⟩
  clear hw
  go_wp2_with fail
  go_ret2
  exact ⟨rfl, hb1⟩

set_option maxRecDepth 100000 in
set_option maxHeartbeats 2000000 in
theorem bridges_ok {a : Option Addr} {m c n : Nat} (h : EgAt w a m f) (hv : Valid (n : Nat) m f) :
    Calls Tryz.prog 26 #[.int .i64 (n : Nat), .slice a m c] w fun e w' => ∃ (v : Value) (L : List (Nat × Nat)), e = .returned (.tuple #[v, .nilIface]) ∧ Brs (edges f m) L ∧ w'.ownsRow w.heap.size 44 2 v L.length (twos L) ∧ Below w.heap.size w w' := by
  obtain ⟨p, hp⟩ := rest_of (edges f m)
  have hw := walked_ok (c := c) h hv hp
  have hmay : ∀ j, j < m → May n f j := by simpa using hv.2.2
  have HM : Hid (∀ j, j < m → May n f j) := hmay
  have HH : Hid (EgAt w a m f) := h
  have hm200 : m ≤ 200 := hv.2.1
  obtain ⟨E, hE⟩ : ∃ E, edges f m = E := ⟨_, rfl⟩
  have HE : Hid (edges f m = E ∧ E.length = m ∧ E.Nodup ∧ ∀ e ∈ E, e.1 < e.2 ∧ e.2 < n) := by rw [← hE]; exact ⟨rfl, edges_len f m, (edges_up hmay).nodup, may_lt hmay⟩
  obtain ⟨z0, hi0, hz0, hz1, hz2⟩ := info_parts Tryz.infoEdge
  rw [hE] at hw ⊢
  clear h hv hp hmay hE
  go_enter Tryz.func26, Tryz.ntmps26
  go_wp2_with fail
  refine hw.mono ?_
  rintro e w1 ⟨kw, kn, V, nb, s, rfl, hW, hR, hb1⟩
  obtain ⟨t, ht⟩ := hang_some s
  have HT : Hid (∀ e, t e = true ↔ (s.fr e.2 = (e.1 : Nat) ∧ s.back e.2 = s.turn e.2) ∨ (s.fr e.1 = (e.2 : Nat) ∧ s.back e.1 = s.turn e.1)) := ht
  have HBr : Hid (Brs E (E.filter t)) := roots_brs hR HE.out.2.2.1 HE.out.2.2.2 ht
  have HW : Hid (WAt w1 kw kn n V nb s) := hW
  have HB1 : Hid (Below w.heap.size w w1) := hb1
  clear hw hW hR ht hb1
  go_wp2_with fail
  go_loopw [8, 10, 22] (fun vo _ i wr => ∃ j : Nat, j ≤ m ∧ i = .int .i64 (j : Nat) ∧ Below w1.heap.size w1 wr ∧ wr.ownsRow w1.heap.size 44 2 vo ((E.take j).filter t).length (twos ((E.take j).filter t))) (fun _ _ i _ => m - (intOf i).toNat)
  case atStart => exact ⟨0, Nat.zero_le _, rfl, Below.refl _ _, by simp [twos]; exact World.ownsRow_nil ..⟩
  case round =>
    obtain ⟨j, hj, rfl, hb, hown⟩ := hrel
    have HB : Hid (Below w1.heap.size w1 wr) := hb
    by_cases hlt : j < m
    · obtain ⟨b, o, rfl, c1, c2⟩ := HH.out.below (below_step HB1.out hb) j hlt
      have hs := (HM.out j hlt).1
      obtain ⟨u, hu⟩ : ∃ u : Nat, (f j).1 = u := ⟨(f j).1.toNat, by unfold Sane at hs; omega⟩
      obtain ⟨v, hv⟩ : ∃ v : Nat, (f j).2 = v := ⟨(f j).2.toNat, by unfold Sane at hs; omega⟩
      have hsuv : u < v ∧ v < n := by unfold Sane at hs; omega
      have hEj : E[j]? = some (u, v) := by rw [← HE.out.1, edges_get hlt, hu, hv]; rfl
      rw [hu] at c1
      rw [hv] at c2
      have HEj : Hid (E.take (j + 1) = E.take j ++ [(u, v)]) := show _ = _ by rw [List.take_add_one, hEj]; rfl
      obtain ⟨F, hF⟩ : ∃ F, (E.take j).filter t = F := ⟨_, rfl⟩
      obtain ⟨K, hK⟩ : ∃ K, F.length = K := ⟨_, rfl⟩
      have hK2 : K ≤ 200 := by
        rw [← hK, ← hF]
        have h1 := List.length_filter_le t (E.take j)
        rw [List.length_take] at h1
        omega
      rw [hF, hK] at hown
      have HO : Hid (wr.ownsRow w1.heap.size 44 2 u8 K (twos F) ∧ F.length = K ∧ (E.take j).filter t = F) := ⟨hown, hK, hF⟩
      have i0 : (0 : Int) ≤ (j : Int) := by omega
      have i1 : (j : Int) < (m : Int) := by omega
      have hWb : ∀ W, Below wr.heap.size wr W → WAt W kw kn n V nb s := fun W hW => (HW.out.below hb).below hW
      obtain ⟨q1, hq1⟩ : ∃ q : Bool, q = true ↔ (s.fr v = (u : Nat) ∧ s.back v = s.turn v) := ⟨decide (s.fr v = (u : Nat) ∧ s.back v = s.turn v), by simp⟩
      obtain ⟨q2, hq2⟩ : ∃ q : Bool, q = true ↔ (s.fr u = (v : Nat) ∧ s.back u = s.turn u) := ⟨decide (s.fr u = (v : Nat) ∧ s.back u = s.turn u), by simp⟩
      have g1 := fun W hW => hangs_any (hWb W hW) u v (by omega) q1 hq1
      have g2 := fun W hW => hangs_any (hWb W hW) v u (by omega) q2 hq2
      have HQ : Hid (t (u, v) = (q1 || q2)) := show _ = _ by rw [Bool.eq_iff_iff, HT.out (u, v), Bool.or_eq_true, hq1, hq2]
      clear hs hu hv hEj hF hK hown hb hWb hq1 hq2
      have hY : t (u, v) = true → (E.take (j + 1)).filter t = F ++ [(u, v)] := fun q => by
        rw [HEj.out, List.filter_append, HO.out.2.2]
        simp [q]
      have hNo : t (u, v) = false → (E.take (j + 1)).filter t = F := fun q => by
        rw [HEj.out, List.filter_append, HO.out.2.2]
        simp [q]
      have HYN : Hid ((t (u, v) = true → (E.take (j + 1)).filter t = F ++ [(u, v)]) ∧ (t (u, v) = false → (E.take (j + 1)).filter t = F)) := ⟨hY, hNo⟩
      have hs2 : w1.heap.size ≤ wr.heap.size := HB.out.size
      have hbx : Below wr.heap.size wr (wr.alloc (.cells #[.int .i64 (u : Int), .int .i64 (v : Int)] 44)) := below_box _ _
      have HG1 : Hid (∀ W, Below wr.heap.size wr W → Calls Tryz.prog 68 #[.slice (some ⟨kn, 0, none⟩) n n, .int .i64 (u : Nat), .int .i64 (v : Nat)] W fun e w' => e = .returned (.bool q1) ∧ Below W.heap.size W w') := g1
      have HG2 : Hid (∀ W, Below wr.heap.size wr W → Calls Tryz.prog 68 #[.slice (some ⟨kn, 0, none⟩) n n, .int .i64 (v : Nat), .int .i64 (u : Nat)] W fun e w' => e = .returned (.bool q2) ∧ Below W.heap.size W w') := g2
      clear hY hNo g1 g2
      cases q1 with
      | true =>
        have HF : Hid ((E.take (j + 1)).filter t = F ++ [(u, v)]) := HYN.out.1 (by rw [HQ.out]; rfl)
        go_wp2_with fail
        refine (HG1.out _ hbx).mono ?_
        rintro e w3 ⟨rfl, hb3⟩
        have e0 : w3.cell? ⟨wr.heap.size, 0, none⟩ = some (.int .i64 (u : Nat)) := cell_keep hb3 (by simp)
        have e1 : w3.cell? ⟨wr.heap.size, 1, none⟩ = some (.int .i64 (v : Nat)) := cell_keep hb3 (by simp)
        have HB3 : Hid (Below w1.heap.size w1 w3) := below_step HB.out (below_step hbx hb3)
        have HO3 : Hid (w3.ownsRow w1.heap.size 44 2 u8 K (twos F)) := own_keep HO.out.1 (below_step hbx hb3)
        have hs3 : w1.heap.size ≤ w3.heap.size := HB3.out.size
        clear c1 c2 hbx hb3
        generalize wr.heap.size = eb at e0 e1 ⊢
        go_wp2_with (first
          | (at_builtin; refine wpList_append_lies _ rfl (.tmp 40) (.tmp 42) 31 rfl w1.heap.size 44 z0 (.agg #[.int .i64 0, .int .i64 0]) 2 16 Tryz.underlying31 hi0 hz0 hz1 hz2 rfl (by decide) u8 K (twos F) rfl (HO3.out.alloc _) ⟨w3.heap.size, 0, none⟩ 1 1 (two (u, v)) rfl rfl (two_new _ _ _) ?c2 (by decide) ?c3 ?c4 ?c5 _ rfl ?_))
        case c2 => intro z hz; exact two_one [(u, v)] z (by simpa [twos] using hz)
        case c3 => unfold maxLen; omega
        case c4 => omega
        case c5 => first | omega | (simp; omega)
        intro g1 cap1 w6 hown hgrow hat hlt2
        have HB6 : Hid (Below w1.heap.size w1 w6) := (HB3.out.alloc hs3 _).grown hgrow (by simp; omega) (fun k e => (HO3.out.lt k e).1)
        have HO6 : Hid (w6.ownsRow w1.heap.size 44 2 (.slice (some ⟨g1, 0, none⟩) (K + 1) cap1) ((E.take (j + 1)).filter t).length (twos ((E.take (j + 1)).filter t))) := show World.ownsRow .. by
          rw [HF.out, twos_snoc, List.length_append, HO.out.2.1]; exact hown
        clear hown hgrow hat hlt2
        go_wp2_with fail
        go_roundw
        case rel => exact ⟨j + 1, by omega, by go_num, HB6.out, HO6.out⟩
        case measure => simp [intOf]; omega
      | false =>
        go_wp2_with fail
        refine (HG1.out _ hbx).mono ?_
        rintro e w3 ⟨rfl, hb3⟩
        have e0 : w3.cell? ⟨wr.heap.size, 0, none⟩ = some (.int .i64 (u : Nat)) := cell_keep hb3 (by simp)
        have e1 : w3.cell? ⟨wr.heap.size, 1, none⟩ = some (.int .i64 (v : Nat)) := cell_keep hb3 (by simp)
        have hb3' : Below wr.heap.size wr w3 := below_step hbx hb3
        have hg2 := HG2.out w3 hb3'
        clear c1 c2 hbx hb3
        go_wp2_with fail
        refine hg2.mono ?_
        rintro e w4 ⟨rfl, hb4⟩
        replace e0 := cell_keep hb4 e0
        replace e1 := cell_keep hb4 e1
        have HB4 : Hid (Below w1.heap.size w1 w4) := below_step HB.out (below_step hb3' hb4)
        have HO4 : Hid (w4.ownsRow w1.heap.size 44 2 u8 K (twos F)) := own_keep HO.out.1 (below_step hb3' hb4)
        have hs4 : w1.heap.size ≤ w4.heap.size := HB4.out.size
        clear hg2 hb3' hb4
        generalize wr.heap.size = eb at e0 e1 ⊢
        cases q2 with
        | true =>
          have HF : Hid ((E.take (j + 1)).filter t = F ++ [(u, v)]) := HYN.out.1 (by rw [HQ.out]; rfl)
          go_wp2_with (first
            | (at_builtin; refine wpList_append_lies _ rfl (.tmp 40) (.tmp 42) 31 rfl w1.heap.size 44 z0 (.agg #[.int .i64 0, .int .i64 0]) 2 16 Tryz.underlying31 hi0 hz0 hz1 hz2 rfl (by decide) u8 K (twos F) rfl (HO4.out.alloc _) ⟨w4.heap.size, 0, none⟩ 1 1 (two (u, v)) rfl rfl (two_new _ _ _) ?c2 (by decide) ?c3 ?c4 ?c5 _ rfl ?_))
          case c2 => intro z hz; exact two_one [(u, v)] z (by simpa [twos] using hz)
          case c3 => unfold maxLen; omega
          case c4 => omega
          case c5 => first | omega | (simp; omega)
          intro g1 cap1 w6 hown hgrow hat hlt2
          have HB6 : Hid (Below w1.heap.size w1 w6) := (HB4.out.alloc hs4 _).grown hgrow (by simp; omega) (fun k e => (HO4.out.lt k e).1)
          have HO6 : Hid (w6.ownsRow w1.heap.size 44 2 (.slice (some ⟨g1, 0, none⟩) (K + 1) cap1) ((E.take (j + 1)).filter t).length (twos ((E.take (j + 1)).filter t))) := show World.ownsRow .. by
            rw [HF.out, twos_snoc, List.length_append, HO.out.2.1]; exact hown
          clear hown hgrow hat hlt2
          go_wp2_with fail
          go_roundw
          case rel => exact ⟨j + 1, by omega, by go_num, HB6.out, HO6.out⟩
          case measure => simp [intOf]; omega
        | false =>
          have HF : Hid ((E.take (j + 1)).filter t = F) := HYN.out.2 (by rw [HQ.out]; rfl)
          go_wp2_with fail
          go_roundw
          case rel => exact ⟨j + 1, by omega, by go_num, HB4.out, by rw [HF.out, HO.out.2.1]; exact HO4.out⟩
          case measure => simp [intOf]; omega
    · obtain rfl : j = m := by omega
      rw [List.take_of_length_le (Nat.le_of_eq HE.out.2.1)] at hown
      have HO : Hid (wr.ownsRow w.heap.size 44 2 u8 (E.filter t).length (twos (E.filter t))) := own_mono hown HB1.out.size
      clear hown hb
      go_wp2_with fail
      go_ret2
      exact ⟨u8, _, rfl, HBr.out, HO.out, below_step HB1.out HB.out⟩

end Go.Proofs.YtcfemppdeidjmacGreat.Br
