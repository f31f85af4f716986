/-
  The statements' own answer: what is answered, event by event; which event is wrong first, whatever there is.
-/
import Derived.Test.YthhojlbfnffdeabDoorOe
namespace Go.Proofs.YthhojlbfnffdeabDoor.As
open Go.RowKit Go.Deep
open Go.RowKit (Below)
set_option linter.unusedVariables false

variable {w w' : World} {f : Nat → Int × Int × Int}

theorem evfault_any {a : Option Addr} {m c : Nat} (h : EvAt w a m f) (n : Int) :
    Calls Tryd.prog 4 #[.int .i64 n, .slice a m c] w fun e w' => ∃ (k : Nat) (x : Int), e = .returned (.tuple #[.int .i64 (k : Int), .int .i64 x]) ∧ EFault n m f k x ∧ Below w.heap.size w w' := by
  have hnf := fault_any n w
  by_cases h1 : n < 1 ∨ 60 < n
  · rw [if_pos h1] at hnf
    clear h
    go_enter Tryd.func4, Tryd.ntmps4
    go_wp2_with fail
    refine hnf.mono ?_
    rintro e w1 ⟨rfl, rfl⟩
    go_wp2_with fail
    go_ret2
    exact ⟨0, 1, rfl, Or.inl ⟨h1, rfl, rfl⟩, Below.refl _ _⟩
  obtain ⟨nn, rfl⟩ := Int.eq_ofNat_of_zero_le (show 0 ≤ n by omega)
  by_cases h3 : 120 < (m : Int)
  · rw [if_neg h1] at hnf
    have HN : Hid (1 ≤ (nn : Int) ∧ (nn : Int) ≤ 60) := show _ ∧ _ by omega
    clear h h1
    go_enter Tryd.func4, Tryd.ntmps4
    go_wp2_with fail
    refine hnf.mono ?_
    rintro e w1 ⟨rfl, rfl⟩
    go_wp2_with fail
    go_ret2
    exact ⟨0, 3, rfl, Or.inr (Or.inl ⟨HN.out, by omega, rfl, rfl⟩), Below.refl _ _⟩
  refine (evfault_in h (by omega) (by omega) (by omega)).mono ?_
  rintro e w1 ⟨k, x, rfl, hk, hb⟩
  refine ⟨k, x, rfl, ?_, hb⟩
  rcases hk with ⟨q1, q2, q3⟩ | ⟨q1, q2, q3⟩
  · exact Or.inr (Or.inr (Or.inl ⟨by omega, by omega, q1, q2, q3⟩))
  · exact Or.inr (Or.inr (Or.inr ⟨by omega, by omega, q1, q2, q3⟩))

set_option maxRecDepth 100000 in
set_option maxHeartbeats 8000000 in
theorem answers_of {a : Option Addr} {m c n : Nat} (h : EvAt w a m f) (h1 : 1 ≤ n) (h60 : n ≤ 60) (hm : m ≤ 120) (hmay : ∀ j, j < m → May n f j) :
    Calls Tryd.prog 7 #[.int .i64 (n : Nat), .slice a m c] w fun e w' => ∃ v l, e = .returned v ∧ Ans f m l ∧ w'.ownsRow w.heap.size 4 1 v l.length (bools l) ∧ Below w.heap.size w w' := by
  have HH : Hid (EvAt w a m f) := h
  have HMays : Hid (∀ j, j < m → May n f j) := hmay
  obtain ⟨z0, hi0, hz0, hz1, hz2⟩ := info_parts Tryd.infoEdge
  obtain ⟨y0, hj0, hy0, hy1, hy2⟩ := info_parts Tryd.infoBool
  clear h hmay
  go_enter Tryd.func7, Tryd.ntmps7
  go_wp2_with fail
  go_loopw [5, 6, 7, 8, 9] (fun v vo i _ _ wr => ∃ (j : Nat) (l : List Bool), j ≤ m ∧ i = .int .i64 (j : Nat) ∧ Below w.heap.size w wr ∧ Ans f j l ∧ wr.ownsRow w.heap.size 50 2 v (here f j).length (twos (here f j)) ∧ wr.ownsRow w.heap.size 4 1 vo l.length (bools l)) (fun _ _ i _ _ _ => m - (intOf i).toNat)
  case atStart => exact ⟨0, [], Nat.zero_le _, rfl, Below.refl _ _, Ans.nil f, World.ownsRow_nil .., World.ownsRow_nil ..⟩
  case round =>
    obtain ⟨j, l, hj, rfl, hb, hans, hown, hvo⟩ := hrel
    by_cases hlt : j < m
    · obtain ⟨b, o, rfl, c1, c2, c3⟩ := HH.out.below hb j hlt
      obtain ⟨av, cv, rfl, hE, hcv, hcm⟩ := own_edges hown rfl
      have hlen := here_len f j
      obtain ⟨F, hF⟩ : ∃ F, here f j = F := ⟨_, rfl⟩
      rw [hF] at hown hE hcv hlen
      obtain ⟨L, hL⟩ : ∃ L, F.length = L := ⟨_, rfl⟩
      rw [hL] at hown hcv hlen
      rw [hF, hL]
      have hkl : l.length ≤ j := by rw [hans.len]; exact places_len f 3 j
      obtain ⟨K, hK⟩ : ∃ K, l.length = K := ⟨_, rfl⟩
      rw [hK] at hvo hkl
      have hmj := HMays.out j hlt
      obtain ⟨q, hq⟩ : ∃ q, (f j).1 = q := ⟨_, rfl⟩
      obtain ⟨u, hx⟩ := Int.eq_ofNat_of_zero_le hmj.a.1
      obtain ⟨v, hy⟩ := Int.eq_ofNat_of_zero_le hmj.b.1
      have hun : u < n := by have := hmj.a.2; omega
      have hvn : v < n := by have := hmj.b.2; omega
      have hq123 := hmj.what
      rw [hq] at c1 hq123
      rw [hx] at c2
      rw [hy] at c3
      have HQ : Hid ((f j).1 = q) := hq
      have HX : Hid ((f j).2.1 = (u : Nat)) := hx
      have HY : Hid ((f j).2.2 = (v : Nat)) := hy
      have HMay : Hid (May n f j) := hmj
      have HEO : Hid (eOf f j = (min u v, max u v)) := eOf_nat hx hy
      have HF : Hid (here f j = F) := hF
      have HL : Hid (F.length = L) := hL
      have HK : Hid (l.length = K) := hK
      have HAns : Hid (Ans f j l) := hans
      have HB : Hid (Below w.heap.size w wr) := hb
      have HE : Hid (EdgesAt wr av F) := hE
      have HO : Hid (wr.ownsRow w.heap.size 50 2 (.slice av L cv) L (twos F)) := hown
      have HV : Hid (wr.ownsRow w.heap.size 4 1 u6 K (bools l)) := hvo
      have i0 : (0 : Int) ≤ (j : Int) := by omega
      have i1 : (j : Int) < (m : Int) := by omega
      clear hq hx hy hmj hF hL hK hans hb hE hown hvo
      obtain rfl | rfl | rfl : q = 1 ∨ q = 2 ∨ q = 3 := by omega
      · clear hq123
        have hbA : Below wr.heap.size wr (wr.alloc (.cells #[.int .i64 1, .int .i64 (u : Nat), .int .i64 (v : Nat)] 45)) := (Below.refl _ _).alloc (Nat.le_refl _) _
        have HBA : Hid (Below w.heap.size w (wr.alloc (.cells #[.int .i64 1, .int .i64 (u : Nat), .int .i64 (v : Nat)] 45))) := HB.out.trans (hbA.mono HB.out.size)
        have HEA : Hid (EdgesAt (wr.alloc (.cells #[.int .i64 1, .int .i64 (u : Nat), .int .i64 (v : Nat)] 45)) av F) := HE.out.below hbA
        have HOA : Hid ((wr.alloc (.cells #[.int .i64 1, .int .i64 (u : Nat), .int .i64 (v : Nat)] 45)).ownsRow w.heap.size 50 2 (.slice av L cv) L (twos F)) := own_keep HO.out hbA
        have HVA : Hid ((wr.alloc (.cells #[.int .i64 1, .int .i64 (u : Nat), .int .i64 (v : Nat)] 45)).ownsRow w.heap.size 4 1 u6 K (bools l)) := own_keep HV.out hbA
        have s1 : (wr.alloc (.cells #[.int .i64 1, .int .i64 (u : Nat), .int .i64 (v : Nat)] 45)).cell? ⟨wr.heap.size, 1, none⟩ = some (.int .i64 (u : Nat)) := by simp
        have s2 : (wr.alloc (.cells #[.int .i64 1, .int .i64 (u : Nat), .int .i64 (v : Nat)] 45)).cell? ⟨wr.heap.size, 2, none⟩ = some (.int .i64 (v : Nat)) := by simp
        go_wp2_with fail
        generalize (wr.alloc (.cells #[.int .i64 1, .int .i64 (u : Nat), .int .i64 (v : Nat)] 45)) = wa at *
        generalize wr.heap.size = gs at *
        clear c1 c2 c3 hbA
        have h4s : w.heap.size ≤ wa.heap.size := HBA.out.size
        refine (of_nat u v).mono ?_
        rintro e w5 ⟨rfl, rfl⟩
        have hb5 : Below wa.heap.size wa (wa.alloc (.cells #[.int .i64 ((min u v : Nat) : Int), .int .i64 ((max u v : Nat) : Int)] 50)) := (Below.refl _ _).alloc (Nat.le_refl _) _
        have HB5 : Hid (Below w.heap.size w (wa.alloc (.cells #[.int .i64 ((min u v : Nat) : Int), .int .i64 ((max u v : Nat) : Int)] 50))) := HBA.out.trans (hb5.mono h4s)
        have HO5 : Hid ((wa.alloc (.cells #[.int .i64 ((min u v : Nat) : Int), .int .i64 ((max u v : Nat) : Int)] 50)).ownsRow w.heap.size 50 2 (.slice av L cv) L (twos F)) := own_keep HOA.out hb5
        have HV5 : Hid ((wa.alloc (.cells #[.int .i64 ((min u v : Nat) : Int), .int .i64 ((max u v : Nat) : Int)] 50)).ownsRow w.heap.size 4 1 u6 K (bools l)) := own_keep HVA.out hb5
        have h5s : w.heap.size ≤ (wa.alloc (.cells #[.int .i64 ((min u v : Nat) : Int), .int .i64 ((max u v : Nat) : Int)] 50)).heap.size := HB5.out.size
        generalize (wa.alloc (.cells #[.int .i64 ((min u v : Nat) : Int), .int .i64 ((max u v : Nat) : Int)] 50)) = w5 at *
        generalize hmn : min u v = mn at *
        generalize hmx : max u v = mx at *
        clear hb5 s1 s2 hmn hmx
        dsimp only [ev]
        go_wp2_with (first
          | (at_builtin; refine wpList_append_lies _ rfl (.tmp 41) (.tmp 47) 43 rfl w.heap.size 50 z0 (.agg #[.int .i64 0, .int .i64 0]) 2 16 Tryd.underlying43 hi0 hz0 hz1 hz2 rfl (by decide) (.slice av L cv) L (twos F) rfl (HO5.out.alloc _) ⟨w5.heap.size, 0, none⟩ 1 1 (two (mn, mx)) rfl rfl (two_new _ _ _) ?c2 (by decide) ?c3 ?c4 ?c5 _ rfl ?_))
        case c2 => intro z hz; exact two_one [(mn, mx)] z (by simpa [twos] using hz)
        case c3 => unfold maxLen; omega
        case c4 => omega
        case c5 => simp; omega
        intro g1 cap1 w6 hown hgrow hat hlt2
        have HB6 : Hid (Below w.heap.size w w6) := (HB5.out.alloc h5s _).grown hgrow (by simp; omega) (fun k e => (HO5.out.lt k e).1)
        have HV6 : Hid (w6.ownsRow w.heap.size 4 1 u6 K (bools l)) := own_grown (HV5.out.alloc _) (HO5.out.alloc _) (by decide) hgrow
        have HO6 : Hid (w6.ownsRow w.heap.size 50 2 (.slice (some ⟨g1, 0, none⟩) (L + 1) cap1) (F ++ [(mn, mx)]).length (twos (F ++ [(mn, mx)]))) := show World.ownsRow .. by
          rw [twos_snoc, List.length_append, HL.out]; exact hown
        have HN6 : Hid (here f (j + 1) = F ++ [(mn, mx)]) := show _ = _ by rw [here_add HQ.out, HF.out, HEO.out]
        have HA6 : Hid (Ans f (j + 1) l) := HAns.out.other (by rw [HQ.out]; decide)
        clear hown hgrow hat hlt2
        go_wp2_with fail
        go_roundw
        case rel => exact ⟨j + 1, l, by omega, by go_num, HB6.out, HA6.out, by rw [HN6.out]; exact HO6.out, by rw [HK.out]; exact HV6.out⟩
        case measure => simp [intOf]; omega
      · clear hq123
        have hbA : Below wr.heap.size wr (wr.alloc (.cells #[.int .i64 2, .int .i64 (u : Nat), .int .i64 (v : Nat)] 45)) := (Below.refl _ _).alloc (Nat.le_refl _) _
        have HBA : Hid (Below w.heap.size w (wr.alloc (.cells #[.int .i64 2, .int .i64 (u : Nat), .int .i64 (v : Nat)] 45))) := HB.out.trans (hbA.mono HB.out.size)
        have HEA : Hid (EdgesAt (wr.alloc (.cells #[.int .i64 2, .int .i64 (u : Nat), .int .i64 (v : Nat)] 45)) av F) := HE.out.below hbA
        have HOA : Hid ((wr.alloc (.cells #[.int .i64 2, .int .i64 (u : Nat), .int .i64 (v : Nat)] 45)).ownsRow w.heap.size 50 2 (.slice av L cv) L (twos F)) := own_keep HO.out hbA
        have HVA : Hid ((wr.alloc (.cells #[.int .i64 2, .int .i64 (u : Nat), .int .i64 (v : Nat)] 45)).ownsRow w.heap.size 4 1 u6 K (bools l)) := own_keep HV.out hbA
        have s1 : (wr.alloc (.cells #[.int .i64 2, .int .i64 (u : Nat), .int .i64 (v : Nat)] 45)).cell? ⟨wr.heap.size, 1, none⟩ = some (.int .i64 (u : Nat)) := by simp
        have s2 : (wr.alloc (.cells #[.int .i64 2, .int .i64 (u : Nat), .int .i64 (v : Nat)] 45)).cell? ⟨wr.heap.size, 2, none⟩ = some (.int .i64 (v : Nat)) := by simp
        go_wp2_with fail
        generalize (wr.alloc (.cells #[.int .i64 2, .int .i64 (u : Nat), .int .i64 (v : Nat)] 45)) = wa at *
        generalize wr.heap.size = gs at *
        clear c1 c2 c3 hbA
        refine (place_ref (c := cv) HEA.out HL.out (by omega) (u : Nat) (v : Nat)).mono ?_
        rintro e w4 ⟨r, rfl, hb4, hk⟩
        have HB4 : Hid (Below w.heap.size w w4) := HBA.out.trans (hb4.mono HBA.out.size)
        have HE4 : Hid (EdgesAt w4 av F) := HEA.out.below hb4
        have HV4 : Hid (w4.ownsRow w.heap.size 4 1 u6 K (bools l)) := own_keep HVA.out hb4
        have hin : (min u v, max u v) ∈ F := by
          have := HMay.out.drop HQ.out
          rw [HEO.out, HF.out] at this
          exact this
        clear hb4 s1 s2
        rcases hk with ⟨jj, hjj, rfl, hof⟩ | ⟨rfl, hno⟩
        rotate_left
        · exact absurd (isOf_nat.2 rfl) (hno _ hin)
        have hget : F.getD jj (0, 0) = (min u v, max u v) := isOf_nat.1 hof
        obtain ⟨g, hg, -, -⟩ := HE4.out.cell jj (by rw [HL.out]; exact hjj)
        subst hg
        obtain ⟨M, rfl⟩ : ∃ M, L = M + 1 := ⟨L - 1, by omega⟩
        obtain ⟨P, R, hPR, hP⟩ := mid_at (E := F) (j := jj) (by rw [HL.out]; exact hjj)
        rw [hget] at hPR
        have hl : (P ++ R).length = M := by have := HL.out; rw [hPR] at this; simp at this ⊢; omega
        have hout := out_own (c := cv) (x := (min u v, max u v)) (A := P) (B := R) (by rw [← hPR]; exact HE4.out) hl hcv hcm (by omega) hP
        have HN6 : Hid (here f (j + 1) = P ++ R) := show _ = _ by
          rw [here_drop HQ.out, HF.out, HEO.out, hPR]
          exact erase_mid (by rw [← hPR, ← HF.out]; exact here_nodup fun k hk => HMays.out k (by omega))
        have HLM : Hid ((P ++ R).length = M) := hl
        have HA6 : Hid (Ans f (j + 1) l) := HAns.out.other (by rw [HQ.out]; decide)
        clear hPR hl hP hof hget hin
        go_wp2_with fail
        refine hout.mono ?_
        rintro e w5 ⟨v5, rfl, hb5, hown5⟩
        have HB5 : Hid (Below w.heap.size w w5) := HB4.out.trans (hb5.mono HB4.out.size)
        have HV5 : Hid (w5.ownsRow w.heap.size 4 1 u6 K (bools l)) := own_keep HV4.out hb5
        have HO5 : Hid (w5.ownsRow w.heap.size 50 2 v5 (P ++ R).length (twos (P ++ R))) := by rw [HLM.out]; exact own_mono hown5 HB4.out.size
        clear hout hb5 hown5
        go_wp2_with fail
        go_roundw
        case rel => exact ⟨j + 1, l, by omega, by go_num, HB5.out, HA6.out, by rw [HN6.out]; exact HO5.out, by rw [HK.out]; exact HV5.out⟩
        case measure => simp [intOf]; omega
      · clear hq123
        obtain ⟨p, hp⟩ := rest_of F
        have HP : Hid (Rest F p) := hp
        have hamong : Among n F := by rw [← HF.out]; exact here_among fun k hk => HMays.out k (by omega)
        clear hp
        have hfar0 : ∀ k, u6.ownBlock = some k → k < wr.heap.size := fun k e => (HV.out.lt k e).2
        have hgs : wr.heap.size < (wr.alloc (.cells #[.int .i64 3, .int .i64 (u : Nat), .int .i64 (v : Nat)] 45)).heap.size := by simp
        have hbA : Below wr.heap.size wr (wr.alloc (.cells #[.int .i64 3, .int .i64 (u : Nat), .int .i64 (v : Nat)] 45)) := (Below.refl _ _).alloc (Nat.le_refl _) _
        have HBA : Hid (Below w.heap.size w (wr.alloc (.cells #[.int .i64 3, .int .i64 (u : Nat), .int .i64 (v : Nat)] 45))) := HB.out.trans (hbA.mono HB.out.size)
        have HEA : Hid (EdgesAt (wr.alloc (.cells #[.int .i64 3, .int .i64 (u : Nat), .int .i64 (v : Nat)] 45)) av F) := HE.out.below hbA
        have HOA : Hid ((wr.alloc (.cells #[.int .i64 3, .int .i64 (u : Nat), .int .i64 (v : Nat)] 45)).ownsRow w.heap.size 50 2 (.slice av L cv) L (twos F)) := own_keep HO.out hbA
        have HVA : Hid ((wr.alloc (.cells #[.int .i64 3, .int .i64 (u : Nat), .int .i64 (v : Nat)] 45)).ownsRow w.heap.size 4 1 u6 K (bools l)) := own_keep HV.out hbA
        have s1 : (wr.alloc (.cells #[.int .i64 3, .int .i64 (u : Nat), .int .i64 (v : Nat)] 45)).cell? ⟨wr.heap.size, 1, none⟩ = some (.int .i64 (u : Nat)) := by simp
        have s2 : (wr.alloc (.cells #[.int .i64 3, .int .i64 (u : Nat), .int .i64 (v : Nat)] 45)).cell? ⟨wr.heap.size, 2, none⟩ = some (.int .i64 (v : Nat)) := by simp
        go_wp2_with fail
        generalize (wr.alloc (.cells #[.int .i64 3, .int .i64 (u : Nat), .int .i64 (v : Nat)] 45)) = wa at *
        generalize wr.heap.size = gs at *
        clear c1 c2 c3 hbA
        refine (parts_of (c := cv) HEA.out HL.out (by omega) n (by omega) h60 hamong HP.out).mono ?_
        rintro e w4 ⟨kp, cp, rfl, hb4, hkp, hcp⟩
        have P1 := hcp u hun
        have P2 := hcp v hvn
        have HB4 : Hid (Below w.heap.size w w4) := HBA.out.trans (hb4.mono HBA.out.size)
        have HO4 : Hid (w4.ownsRow w.heap.size 50 2 (.slice av L cv) L (twos F)) := own_keep HOA.out hb4
        have HV4 : Hid (w4.ownsRow w.heap.size 4 1 u6 K (bools l)) := own_keep HVA.out hb4
        replace s1 := cell_keep hb4 s1
        replace s2 := cell_keep hb4 s2
        obtain ⟨pu, hpu⟩ : ∃ q, p u = q := ⟨_, rfl⟩
        obtain ⟨pv, hpv⟩ : ∃ q, p v = q := ⟨_, rfl⟩
        rw [hpu] at P1
        rw [hpv] at P2
        obtain ⟨bq, hbq⟩ : ∃ b : Bool, (pu == pv) = b := ⟨_, rfl⟩
        have t2 : ((pu : Int) == (pv : Int)) = bq := by
          rw [← hbq, Bool.eq_iff_iff]
          simp only [beq_iff_eq]
          omega
        have HBq : Hid (bq = true ↔ Conn F u v) := show _ ↔ _ by
          rw [← hbq, ← hpu, ← hpv, beq_iff_eq]
          exact HP.out.same u v
        have HA6 : Hid (Ans f (j + 1) (l ++ [bq])) := HAns.out.ask HQ.out (show _ ↔ _ by rw [HF.out, HX.out, HY.out]; simpa using HBq.out)
        have HN6 : Hid (here f (j + 1) = F) := show _ = _ by rw [here_ask (by rw [HQ.out]; decide) (by rw [HQ.out]; decide), HF.out]
        have i3 : (0 : Int) ≤ (u : Int) := by omega
        have i4 : (u : Int) < (n : Int) := by omega
        have i5 : (0 : Int) ≤ (v : Int) := by omega
        have i6 : (v : Int) < (n : Int) := by omega
        clear hcp hb4 hpu hpv hamong
        go_wp2_with fail
        have hown0 : ∀ o : Obj, Hid ((w4.drew.alloc o).ownsRow w.heap.size 4 1 u6 K (bools l)) := fun o => HV4.out.alloc o
        have h4s : w.heap.size ≤ w4.heap.size := HB4.out.size
        have hd4 : Below w4.heap.size w4 (w4.drew.alloc (.cells #[.bool bq] 4)) := ((Below.refl _ _).drew).alloc (by simp) _
        have lt1 : gs < w4.heap.size := World.block_lt_of_cell? _ _ s1
        have lt2 : kp < w4.heap.size := World.block_lt_of_cell? _ _ P1
        have far1 : some gs = u6.ownBlock → False := fun e => by have := hfar0 _ e.symm; omega
        have far2 : some kp = u6.ownBlock → False := fun e => by have := hfar0 _ e.symm; omega
        have hbase : w.heap.size ≤ (w4.drew.alloc (.cells #[.bool bq] 4)).heap.size := Nat.le_trans h4s (by simp)
        go_region_held3 (fun V => V.cell? ⟨gs, 1, none⟩ = some (.int .i64 (u : Nat)) ∧ V.cell? ⟨gs, 2, none⟩ = some (.int .i64 (v : Nat)) ∧ V.cell? ⟨kp, u, none⟩ = some (.int .i64 (pu : Nat)) ∧ V.cell? ⟨kp, v, none⟩ = some (.int .i64 (pv : Nat)))
          (first | (go_keep; done) | exact ⟨s1, s2, P1, P2⟩ | exact ⟨(hgrow.cell_far ⟨gs, 1, none⟩ (by simp; omega) far1).trans (cell_keep hd4 s1), (hgrow.cell_far ⟨gs, 2, none⟩ (by simp; omega) far1).trans (cell_keep hd4 s2), (hgrow.cell_far ⟨kp, u, none⟩ (by simp; omega) far2).trans (cell_keep hd4 P1), (hgrow.cell_far ⟨kp, v, none⟩ (by simp; omega) far2).trans (cell_keep hd4 P2)⟩)
          ((refine step_append_lies _ (by rfl) (.tmp 25) (.tmp 37) 31 (by rfl) w.heap.size 4 y0 (.bool false) 1 1 Tryd.underlying31 hj0 hy0 hy1 hy2 rfl (by decide) u6 K (bools l) (by simp [Act.eval]) (hown0 _).out ⟨w4.heap.size, 0, none⟩ 1 1 [.bool bq] (by simp [Act.eval]) rfl (by exact cell_one_new _ _ _) (by simp [Value.oneCell']) (by decide) (by unfold maxLen; omega) (by omega) hbase _ rfl ?_; intro g2 cap2 w6 hown2 hgrow hat hlt4))
        have HB6 : Hid (Below w.heap.size w w6) := ((HB4.out.drew).alloc (by simpa using h4s) _).grown hgrow (by simp; omega) (fun k e => (HV4.out.lt k e).1)
        have HO6 : Hid (w6.ownsRow w.heap.size 50 2 (.slice av L cv) L (twos F)) := own_grown (w := w4.drew.alloc _) (HO4.out.alloc _) (HV4.out.alloc _) (by decide) hgrow
        have HV6 : Hid (w6.ownsRow w.heap.size 4 1 (.slice (some ⟨g2, 0, none⟩) (K + 1) cap2) (l ++ [bq]).length (bools (l ++ [bq]))) := show World.ownsRow .. by
          rw [bools_snoc, List.length_append, HK.out]; exact hown2
        clear hown2 hgrow hat hlt4 hown0
        go_wp2_with fail
        go_roundw
        case rel => exact ⟨j + 1, l ++ [bq], by omega, by go_num, HB6.out, HA6.out, by rw [HN6.out, HL.out]; exact HO6.out, HV6.out⟩
        case measure => simp [intOf]; omega
    · obtain rfl : j = m := by omega
      have HR : Hid (Ans f j l ∧ wr.ownsRow w.heap.size 4 1 u6 l.length (bools l) ∧ Below w.heap.size w wr) := ⟨hans, hvo, hb⟩
      clear hans hvo hb hown
      go_wp2_with fail
      go_ret
      exact ⟨u6, l, rfl, HR.out⟩

end Go.Proofs.YthhojlbfnffdeabDoor.As
