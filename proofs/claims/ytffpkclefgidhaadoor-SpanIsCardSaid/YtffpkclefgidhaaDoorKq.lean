/-
  SpanIs where all edges may be, and for whatever it is called with.
-/
import Derived.Test.YtffpkclefgidhaaDoorKp
namespace Go.Proofs.YtffpkclefgidhaaDoor.Sp
open Go.RowKit Go.Deep
open Go.Proofs.YtffpkclefgidhaaDoor.Un
open Go.RowKit (Below)
set_option linter.unusedVariables false

variable {m : Nat} {hv : Nat → Int × Int × Int} {w : World}

set_option maxRecDepth 100000 in
set_option maxHeartbeats 8000000 in
theorem spanIs_right {ad : Option Addr} {cp : Nat} (hg : ErrType w) (h : HeavyAt w ad m hv) (n a b : Int) {k : Nat} (hF : Fault n m hv k 0) :
    Calls Tryd.prog 4 #[.int .i64 n, .slice ad m cp, .int .i64 a, .int .i64 b] w fun e w' => e = .returned (.bool true) ∧ Below w.heap.size w w' := by
  obtain ⟨t, ht⟩ := tells_some m (edOf hv) (wtOf hv)
  obtain ⟨n', rfl, hE, hpos⟩ := fault_plain hF
  have HH : Hid (HeavyAt w ad m hv ∧ ErrType w ∧ Tells m (edOf hv) (wtOf hv) t) := ⟨h, hg, ht⟩
  have HP : Hid (∀ i, i < m → 0 ≤ (hv i).1 ∧ 0 ≤ (hv i).2.1 ∧ 0 ≤ (hv i).2.2) := hpos
  have HF : Hid (Fault (n' : Int) m hv k 0) := hF
  have hhf := heavyFault_any (c := cp) h n'
  have hkk : (((k : Nat) : Int) != ((k : Nat) : Int)) = false := by simp
  obtain ⟨S, hS⟩ : ∃ S, (List.range m).filter t = S := ⟨_, rfl⟩
  have HS : Hid ((List.range m).filter t = S) := hS
  have hSm : ∀ k ∈ S, k < m := fun k hk => by rw [← hS] at hk; exact List.mem_range.1 (List.mem_filter.1 hk).1
  have hSl : S.length ≤ m := by rw [← hS]; have := List.length_filter_le t (List.range m); simpa using this
  have HL : Hid (∀ j, j ≤ S.length → ((S.take j).map (wtOf hv)).sum ≤ 200000000) := fun j hj => by
    have h1 := sum_le (wtOf hv) 1000000 (S.take j) (fun k hk => hE.light k (hSm k (List.mem_of_mem_take hk)))
    have h2 : (S.take j).length ≤ 200 := by rw [List.length_take]; have := hE.m200; omega
    have h3 := Nat.mul_le_mul_right 1000000 h2
    exact Nat.le_trans h1 (Nat.le_trans h3 (by decide))
  have hm2 := hE.m200
  have HW : Hid (∀ k, k < m → wtOf hv k ≤ 1000000) := hE.light
  have HM : Hid (∀ k ∈ S, k < m) := hSm
  have HEd : Hid (Edgs n' m (edOf hv) (wtOf hv)) := hE
  clear h hg ht hF hpos hS hSm hE
  go_enter Tryd.func4, Tryd.ntmps4
  go_wp2_with fail
  refine hhf.mono ?_
  rintro e1 w1 ⟨k1, x1, rfl, hF1, hb1⟩
  clear hhf
  obtain ⟨rfl, rfl⟩ := HF.out.one hF1
  clear hF1
  have hch := check_any (c := cp) (HH.out.1.below hb1) n'
  go_wp2_with fail
  refine hch.mono ?_
  rintro e1 w2 ⟨k2, x2, rfl, hF2, hb2⟩
  clear hch
  obtain ⟨rfl, rfl⟩ := HF.out.one hF2
  clear hF2
  replace hb2 := Un.below_step hb1 hb2
  clear hb1
  have her := error_any (errIs 0) (HH.out.2.1.below hb2)
  go_wp2_with fail
  refine her.mono ?_
  rintro e1 w3 ⟨rfl, hb3⟩
  clear her
  replace hb3 := Un.below_step hb2 hb3
  clear hb2
  have hso := spanOf_any (c := cp) ((HH.out.1.below hb3).plain HP.out) HEd.out HH.out.2.2
  go_wp2_with fail
  refine hso.mono ?_
  rintro e1 w4 ⟨v4, rfl, hb4, hpl⟩
  clear hso
  rw [HS.out] at hpl
  replace hb4 := Un.below_step hb3 hb4
  clear hb3
  have HV : Hid (HvAt w4 ad m (edOf hv) (wtOf hv)) := (HH.out.1.below hb4).plain HP.out
  have HPl : Hid (PlacesAt w4 v4 S) := hpl
  obtain ⟨a4, c4, rfl, -, hc4⟩ := hpl
  have HC4 : Hid (∀ j, j < S.length → ∃ b, a4 = some ⟨b, 0, none⟩ ∧ w4.cell? ⟨b, j, none⟩ = some (.int .i64 (S.getD j 0 : Nat))) := hc4
  clear hc4
  go_wp2_with fail
  go_loopw [15, 16] (fun s i wr => ∃ j : Nat, j ≤ S.length ∧ i = .int .i64 (j : Nat) ∧ s = .int .i64 ((((S.take j).map (wtOf hv)).sum : Nat) : Int) ∧ wr = w4) (fun _ i _ => S.length - (intOf i).toNat)
  case atStart => exact ⟨0, Nat.zero_le _, rfl, rfl, rfl⟩
  case round =>
    obtain ⟨j, hj, rfl, rfl, rfl⟩ := hrel
    by_cases hlt : j < S.length
    · obtain ⟨b', rfl, q1⟩ := HC4.out j hlt
      have hmem : S.getD j 0 ∈ S := by rw [List.getD_eq_getElem?_getD, List.getElem?_eq_getElem hlt]; exact List.getElem_mem hlt
      have him := HM.out _ hmem
      obtain ⟨bl, ol, rfl, -, -, q2⟩ := HV.out _ him
      have HSum : Hid (((S.take (j + 1)).map (wtOf hv)).sum = ((S.take j).map (wtOf hv)).sum + wtOf hv (S.getD j 0)) := sum_take _ _ _ hlt
      have b1 := HL.out j (by omega)
      have b2 := HW.out _ him
      generalize S.getD j 0 = i at *
      obtain ⟨wi, hwi⟩ : ∃ wi, wtOf hv i = wi := ⟨_, rfl⟩
      rw [hwi] at q2 b2
      have HWI : Hid (wtOf hv i = wi) := hwi
      obtain ⟨su, hsu⟩ : ∃ su, ((S.take j).map (wtOf hv)).sum = su := ⟨_, rfl⟩
      rw [hsu] at b1 ⊢
      have HSU : Hid (((S.take j).map (wtOf hv)).sum = su) := hsu
      clear hwi hsu hmem
      have i0 : (0 : Int) ≤ (j : Int) := by omega
      have i1 : (j : Int) < (S.length : Int) := by omega
      have i2 : (0 : Int) ≤ (i : Int) := by omega
      have i3 : (i : Int) < (m : Int) := by omega
      have s0 : (0 : Int) ≤ (su : Int) := by omega
      have s1 : (su : Int) ≤ 200000000 := by omega
      have s2 : (0 : Int) ≤ (wi : Int) := by omega
      have s3 : (wi : Int) ≤ 1000000 := by omega
      go_wp2_with fail
      go_roundw
      case rel =>
        refine ⟨j + 1, by omega, by go_num, ?_, by first | rfl | exact trivial⟩
        rw [HSum.out, HSU.out, HWI.out]
        go_num
      case measure => simp [intOf]; omega
    · obtain rfl : j = S.length := by omega
      rw [List.take_length]
      obtain ⟨su, hsu⟩ : ∃ su, (S.map (wtOf hv)).sum = su := ⟨_, rfl⟩
      rw [hsu]
      have HSU : Hid ((S.map (wtOf hv)).sum = su) := hsu
      have hss : (((su : Nat) : Int) != ((su : Nat) : Int)) = false := by simp
      clear hsu
      have hsp := span_any (c := cp) (HH.out.1.below hb4) HH.out.2.2 n'
      go_wp2_with fail
      refine hsp.mono ?_
      rintro e1 w5 ⟨v5, x5, k5, rfl, hb5', hF5, hor5⟩
      clear hsp
      obtain ⟨rfl, rfl⟩ := HF.out.one hF5
      have HP5 : Hid (PlacesAt w5 v5 S) := by
        rcases hor5 with ⟨h, _⟩ | ⟨_, h⟩
        · exact absurd rfl h
        · rw [HS.out] at h; exact h
      have HP4 : Hid (PlacesAt w5 (.slice a4 S.length c4) S) := HPl.out.below hb5'
      clear hF5 hor5
      have hb5 := Un.below_step hb4 hb5'
      clear hb4 hb5'
      have her := error_any (errIs 0) (HH.out.2.1.below hb5)
      go_wp2_with fail
      refine her.mono ?_
      rintro e1 w6 ⟨rfl, hb6'⟩
      clear her
      have hin := ints_same (HP5.out.below hb6') (HP4.out.below hb6') (by omega)
      have hb6 := Un.below_step hb5 hb6'
      clear hb5 hb6'
      go_wp2_with fail
      refine hin.mono ?_
      rintro e1 w7 ⟨rfl, hb7⟩
      clear hin
      replace hb7 := Un.below_step hb6 hb7
      clear hb6
      have hwe := weight_any (c := cp) (HH.out.1.below hb7) HH.out.2.2 n'
      go_wp2_with fail
      refine hwe.mono ?_
      rintro e1 w8 ⟨x8, y8, k8, rfl, hb8, hF8, hor8⟩
      clear hwe
      obtain ⟨rfl, rfl⟩ := HF.out.one hF8
      obtain rfl : x8 = (su : Nat) := by
        rcases hor8 with ⟨h, _⟩ | ⟨_, h⟩
        · exact absurd rfl h
        · rw [HS.out, HSU.out] at h; exact h
      clear hF8 hor8
      replace hb8 := Un.below_step hb7 hb8
      clear hb7
      have her := error_any (errIs 0) (HH.out.2.1.below hb8)
      go_wp2_with fail
      refine her.mono ?_
      rintro e1 w9 ⟨rfl, hb9⟩
      clear her
      replace hb9 := Un.below_step hb8 hb9
      clear hb8
      by_cases hna : 0 ≤ a ∧ a < n'
      · have hn1 := fun W => node_any n' a W true (by simp; omega)
        by_cases hnb : 0 ≤ b ∧ b < n'
        · have hn2 := fun W => node_any n' b W true (by simp; omega)
          obtain ⟨a', rfl⟩ := Int.eq_ofNat_of_zero_le hna.1
          obtain ⟨b', rfl⟩ := Int.eq_ofNat_of_zero_le hnb.1
          have HAn : Hid (Answers (n' : Int) m hv (a' : Int) (b' : Int) n' a' b') := ⟨HF.out.zero, rfl, rfl, rfl, by omega, by omega⟩
          have hno := neckOf_any (c := cp) ((HH.out.1.below hb9).plain HP.out) HEd.out a' b' (by omega) (by omega)
          clear hna hnb
          go_wp2_with fail
          refine (hn1 _).mono ?_
          rintro e1 w10 ⟨rfl, rfl⟩
          clear hn1
          go_wp2_with fail
          refine (hn2 _).mono ?_
          rintro e1 w10 ⟨rfl, rfl⟩
          clear hn2
          go_wp2_with fail
          refine hno.mono ?_
          rintro e1 w11 ⟨z, ok, rfl, hb11, href⟩
          clear hno
          replace hb11 := Un.below_step hb9 hb11
          clear hb9
          have hnk := neck_any (c := cp) (HH.out.1.below hb11) n' a' b'
          have HRef : Hid (NeckRef m (edOf hv) (wtOf hv) a' b' z ok) := href
          clear href
          cases ok with
          | true =>
            go_wp2_with fail
            refine hnk.mono ?_
            rintro e1 w12 ⟨x12, y12, rfl, hN, hb12⟩
            clear hnk
            obtain ⟨rfl, rfl⟩ : y12 = 0 ∧ x12 = z := by
              rcases necks_ref HAn.out hN HRef.out with ⟨_, h1, h2⟩ | ⟨h, _⟩
              · exact ⟨h1, h2⟩
              · cases h
            clear hN
            replace hb12 := Un.below_step hb11 hb12
            clear hb11
            have her := error_any (errIs 0) (HH.out.2.1.below hb12)
            go_wp2_with fail
            refine her.mono ?_
            rintro e1 w13 ⟨rfl, hb13⟩
            clear her
            replace hb13 := Un.below_step hb12 hb13
            clear hb12
            go_wp2_with fail
            go_ret
            exact ⟨by first | rfl | simp, hb13⟩
          | false =>
            go_wp2_with fail
            refine hnk.mono ?_
            rintro e1 w12 ⟨x12, y12, rfl, hN, hb12⟩
            clear hnk
            obtain ⟨rfl, rfl⟩ : y12 = 4 ∧ x12 = 0 := by
              rcases necks_ref HAn.out hN HRef.out with ⟨h, _⟩ | ⟨_, h1, h2⟩
              · cases h
              · exact ⟨h1, h2⟩
            clear hN
            replace hb12 := Un.below_step hb11 hb12
            clear hb11
            have her := error_any (errIs 4) (HH.out.2.1.below hb12)
            go_wp2_with fail
            refine her.mono ?_
            rintro e1 w13 ⟨rfl, hb13⟩
            clear her
            replace hb13 := Un.below_step hb12 hb13
            clear hb12
            go_wp2_with fail
            go_ret
            exact ⟨rfl, hb13⟩
        · have hn2 := fun W => node_any n' b W false (by simp; omega)
          have HNo : Hid (¬ ((0 ≤ a ∧ a < n') ∧ 0 ≤ b ∧ b < n')) := fun h => hnb h.2
          clear hna hnb
          have hnk := neck_any (c := cp) (HH.out.1.below hb9) n' a b
          go_wp2_with fail
          refine (hn1 _).mono ?_
          rintro e1 w10 ⟨rfl, rfl⟩
          clear hn1
          go_wp2_with fail
          refine (hn2 _).mono ?_
          rintro e1 w10 ⟨rfl, rfl⟩
          clear hn2
          go_wp2_with fail
          refine hnk.mono ?_
          rintro e1 w12 ⟨x12, y12, rfl, hN, hb12⟩
          clear hnk
          obtain ⟨rfl, rfl⟩ := hN.one (.range (HF.out.zero) HNo.out)
          clear hN
          replace hb12 := Un.below_step hb9 hb12
          clear hb9
          have her := error_any (errIs 1) (HH.out.2.1.below hb12)
          go_wp2_with fail
          refine her.mono ?_
          rintro e1 w13 ⟨rfl, hb13⟩
          clear her
          replace hb13 := Un.below_step hb12 hb13
          clear hb12
          go_wp2_with fail
          go_ret
          exact ⟨rfl, hb13⟩
      · obtain ⟨q, hq⟩ : ∃ q : Bool, q = true ↔ (0 ≤ b ∧ b < n') := ⟨decide (0 ≤ b ∧ b < n'), decide_eq_true_iff⟩
        have hn1 := fun W => node_any n' a W false (by simp; omega)
        have hn2 := fun W => node_any n' b W q hq
        have HNo : Hid (¬ ((0 ≤ a ∧ a < n') ∧ 0 ≤ b ∧ b < n')) := fun h => hna h.1
        clear hna hq
        have hnk := neck_any (c := cp) (HH.out.1.below hb9) n' a b
        go_wp2_with fail
        refine (hn1 _).mono ?_
        rintro e1 w10 ⟨rfl, rfl⟩
        clear hn1
        go_wp2_with fail
        refine (hn2 _).mono ?_
        rintro e1 w10 ⟨rfl, rfl⟩
        clear hn2
        go_wp2_with fail
        refine hnk.mono ?_
        rintro e1 w12 ⟨x12, y12, rfl, hN, hb12⟩
        clear hnk
        obtain ⟨rfl, rfl⟩ := hN.one (.range (HF.out.zero) HNo.out)
        clear hN
        replace hb12 := Un.below_step hb9 hb12
        clear hb9
        have her := error_any (errIs 1) (HH.out.2.1.below hb12)
        go_wp2_with fail
        refine her.mono ?_
        rintro e1 w13 ⟨rfl, hb13⟩
        clear her
        replace hb13 := Un.below_step hb12 hb13
        clear hb12
        go_wp2_with fail
        go_ret
        exact ⟨rfl, hb13⟩

theorem spanIs_any {ad : Option Addr} {cp : Nat} (hg : ErrType w) (h : HeavyAt w ad m hv) (n a b : Int) :
    Calls Tryd.prog 4 #[.int .i64 n, .slice ad m cp, .int .i64 a, .int .i64 b] w fun e w' => e = .returned (.bool true) ∧ Below w.heap.size w w' := by
  obtain ⟨k, e, hF⟩ : ∃ k e, Fault n m hv k e := by
    by_cases h1 : n < 1 ∨ 60 < n
    · exact ⟨0, 1, .nodes h1⟩
    by_cases h2 : 200 < m
    · exact ⟨0, 3, .full (by omega) (by omega) h2⟩
    rcases Classical.em (∃ i, i < m ∧ ¬ Okay n (hv i)) with ⟨i, hi⟩ | hn
    · obtain ⟨k, hk, hl⟩ := least_of (P := fun i => i < m ∧ ¬ Okay n (hv i)) hi
      refine ⟨k, 1, .wrong k (by omega) (by omega) (by omega) hk.1 hk.2 fun j hj => Classical.byContradiction fun hb => ?_⟩
      have := hl j ⟨by omega, hb⟩
      omega
    · exact ⟨0, 0, .right (by omega) (by omega) (by omega) fun i hi => Classical.byContradiction fun hb => hn ⟨i, hi, hb⟩⟩
  by_cases he : e = 0
  · subst he
    exact spanIs_right hg h n a b hF
  · exact spanIs_wrong hg h n a b hF he

end Go.Proofs.YtffpkclefgidhaaDoor.Sp
