/-
  The statements' own answer: which edge is wrong first, and how.
-/
import Derived.Test.YtgmadfiibaeleabDoorBg
namespace Go.Proofs.YtgmadfiibaeleabDoor.Br
open Go.RowKit Go.Deep
open Go.RowKit (Below)
set_option linter.unusedVariables false

variable {w w' : World} {f : Nat → Int × Int}

set_option maxRecDepth 100000 in
set_option maxHeartbeats 1000000 in
theorem edfault_far {a : Option Addr} {m c : Nat} (n : Int) (h : (n < 1 ∨ 60 < n) ∨ 200 < m) :
    Calls Tryd.prog 19 #[.int .i64 n, .slice a m c] w fun e w' => ∃ (k : Nat) (x : Int), e = .returned (.tuple #[.int .i64 (k : Nat), .int .i64 x]) ∧ EFault n m f k x ∧ Below w.heap.size w w' := by
  by_cases h1 : n < 1 ∨ 60 < n
  · have hn := fault_any n w
    rw [if_pos h1] at hn
    have H1 : Hid (n < 1 ∨ 60 < n) := h1
    clear h h1
    go_enter Tryd.func19, Tryd.ntmps19
    go_wp2_with fail
    refine hn.mono ?_
    rintro e w1 ⟨rfl, rfl⟩
    go_wp2_with fail
    go_ret2
    exact ⟨0, 1, rfl, Or.inl ⟨H1.out, rfl, rfl⟩, Below.refl _ _⟩
  · have hn := fault_any n w
    rw [if_neg h1] at hn
    have h3 : 200 < (m : Int) := by omega
    have H1 : Hid (1 ≤ n ∧ n ≤ 60) := show _ ∧ _ by omega
    clear h h1
    go_enter Tryd.func19, Tryd.ntmps19
    go_wp2_with fail
    refine hn.mono ?_
    rintro e w1 ⟨rfl, rfl⟩
    go_wp2_with fail
    go_ret2
    exact ⟨0, 3, rfl, Or.inr (Or.inl ⟨H1.out, by omega, rfl, rfl⟩), Below.refl _ _⟩

set_option maxRecDepth 100000 in
set_option maxHeartbeats 4000000 in
theorem edfault_go {a : Option Addr} {m c : Nat} (n : Nat) (h1 : 1 ≤ n) (h60 : n ≤ 60) (hm : m ≤ 200) (h : EgAt w a m f) :
    Calls Tryd.prog 19 #[.int .i64 (n : Nat), .slice a m c] w fun e w' => ∃ (k : Nat) (x : Int), e = .returned (.tuple #[.int .i64 (k : Nat), .int .i64 x]) ∧ EFault (n : Nat) m f k x ∧ Below w.heap.size w w' := by
  have HH : Hid (EgAt w a m f) := h
  have hn := fault_any (n : Nat) w
  rw [if_neg (by omega)] at hn
  have h3 : ¬ (200 < (m : Int)) := by omega
  clear h
  go_enter Tryd.func19, Tryd.ntmps19
  go_wp2_with fail
  refine hn.mono ?_
  rintro e w1 ⟨rfl, rfl⟩
  go_wp2_with fail
  clear hn h3
  go_loopw [7] (fun i wr => ∃ j : Nat, j ≤ m ∧ i = .int .i64 (j : Nat) ∧ Below w1.heap.size w1 wr ∧ ∀ k, k < j → May n f k) (fun i _ => m - (intOf i).toNat)
  case atStart => exact ⟨0, Nat.zero_le _, rfl, Below.refl _ _, fun k hk => absurd hk (Nat.not_lt_zero _)⟩
  case round =>
    obtain ⟨j, hj, rfl, hb, hall⟩ := hrel
    have HA : Hid (∀ k, k < j → May n f k) := hall
    have HB : Hid (Below w1.heap.size w1 wr) := hb
    clear hall
    by_cases hlt : j < m
    · obtain ⟨b, o, rfl, c1, c2⟩ := HH.out.below hb j hlt
      obtain ⟨x, hx⟩ : ∃ x, (f j).1 = x := ⟨_, rfl⟩
      obtain ⟨y, hy⟩ : ∃ y, (f j).2 = y := ⟨_, rfl⟩
      rw [hx] at c1
      rw [hy] at c2
      have HQ : Hid ((f j).1 = x ∧ (f j).2 = y) := ⟨hx, hy⟩
      have i0 : (0 : Int) ≤ (j : Int) := by omega
      have i1 : (j : Int) < (m : Int) := by omega
      clear hb hx hy
      by_cases hA : x < 0
      · have HX : Hid (Bad n f j 1) := Or.inl ⟨fun q => by unfold Sane at q; rw [HQ.out.1, HQ.out.2] at q; omega, rfl⟩
        go_wp2_with fail
        go_quiet (fail)
        go_wp2_with fail
        go_ret2
        exact ⟨j, 1, rfl, Or.inr (Or.inr (Or.inl ⟨by omega, hm, hlt, by simpa using HA.out, by simpa using HX.out⟩)), below_step HB.out (below_drewN rfl)⟩
      by_cases hB : y ≤ x
      · have HX : Hid (Bad n f j 1) := Or.inl ⟨fun q => by unfold Sane at q; rw [HQ.out.1, HQ.out.2] at q; omega, rfl⟩
        go_wp2_with fail
        go_quiet (fail)
        go_wp2_with fail
        go_ret2
        exact ⟨j, 1, rfl, Or.inr (Or.inr (Or.inl ⟨by omega, hm, hlt, by simpa using HA.out, by simpa using HX.out⟩)), below_step HB.out (below_drewN rfl)⟩
      by_cases hC : (n : Int) ≤ y
      · have HX : Hid (Bad n f j 1) := Or.inl ⟨fun q => by unfold Sane at q; rw [HQ.out.1, HQ.out.2] at q; omega, rfl⟩
        go_wp2_with fail
        go_quiet (fail)
        go_wp2_with fail
        go_ret2
        exact ⟨j, 1, rfl, Or.inr (Or.inr (Or.inl ⟨by omega, hm, hlt, by simpa using HA.out, by simpa using HX.out⟩)), below_step HB.out (below_drewN rfl)⟩
      have HSane : Hid (Sane n f j) := by unfold Sane; rw [HQ.out.1, HQ.out.2]; exact ⟨by omega, by omega, by omega⟩
      go_wp2_with fail
      go_quiet (fail)
      obtain ⟨wx, hwx⟩ : ∃ wx, wr.drewN nq = wx := ⟨_, rfl⟩
      have hbx : Below wr.heap.size wr wx := by rw [← hwx]; exact below_drewN rfl
      rw [hwx]
      replace c1 := cell_keep hbx c1
      replace c2 := cell_keep hbx c2
      have HBx : Hid (Below w1.heap.size w1 wx) := below_step HB.out hbx
      clear hwx hbx HB
      go_wp2_with fail
      clear hA hB hC
      by_cases h0 : j = 0
      · have HX : Hid (May n f j) := ⟨HSane.out, fun q => by omega⟩
        have j0 : ¬ (0 < (j : Int)) := by omega
        have j0n : ¬ (0 < j) := by omega
        clear h0
        go_quiet (fail)
        go_wp2_with fail
        go_roundw
        case rel =>
          refine ⟨j + 1, by omega, by go_num, below_step HBx.out (below_drewN rfl), fun k hk => ?_⟩
          rcases Nat.lt_or_ge k j with q | q
          · exact HA.out k q
          · obtain rfl : k = j := by omega
            exact HX.out
        case measure => simp [intOf]; omega
      obtain ⟨i, hi⟩ : ∃ i, i + 1 = j := ⟨j - 1, by omega⟩
      obtain ⟨b', o', ea, d1, d2⟩ := HH.out.below HBx.out i (by omega)
      simp only [Option.some.injEq, Addr.mk.injEq, and_true] at ea
      obtain ⟨rfl, rfl⟩ := ea
      obtain ⟨u, hu⟩ : ∃ u, (f i).1 = u := ⟨_, rfl⟩
      obtain ⟨v, hv⟩ : ∃ v, (f i).2 = v := ⟨_, rfl⟩
      rw [hu] at d1
      rw [hv] at d2
      have HC : Hid (Climbs f j ↔ u < x ∨ u = x ∧ v < y) := by
        unfold Climbs
        rw [show j - 1 = i by omega, hu, hv, HQ.out.1, HQ.out.2]
        exact ⟨fun q => q (by omega), fun q _ => q⟩
      have j0 : 0 < (j : Int) := by omega
      have j0n : 0 < j := by omega
      have j1 : (j : Int) - 1 = (i : Int) := by omega
      have i2 : (0 : Int) ≤ (i : Int) := by omega
      have i3 : (i : Int) < (m : Int) := by omega
      clear h0 hi hu hv
      by_cases hxu : x < u
      · have HX : Hid (Bad n f j 2) := Or.inr ⟨HSane.out, fun q => by have := HC.out.1 q; omega, rfl⟩
        go_quiet (fail)
        go_wp2_with fail
        go_ret2
        exact ⟨j, 2, rfl, Or.inr (Or.inr (Or.inl ⟨by omega, hm, hlt, by simpa using HA.out, by simpa using HX.out⟩)), below_step HBx.out (below_drewN rfl)⟩
      by_cases hxe : x = u
      · subst hxe
        by_cases hyv : y ≤ v
        · have HX : Hid (Bad n f j 2) := Or.inr ⟨HSane.out, fun q => by have := HC.out.1 q; omega, rfl⟩
          go_quiet (fail)
          go_wp2_with fail
          go_ret2
          exact ⟨j, 2, rfl, Or.inr (Or.inr (Or.inl ⟨by omega, hm, hlt, by simpa using HA.out, by simpa using HX.out⟩)), below_step HBx.out (below_drewN rfl)⟩
        · have HX : Hid (May n f j) := ⟨HSane.out, HC.out.2 (by omega)⟩
          go_quiet (fail)
          go_wp2_with fail
          go_roundw
          case rel =>
            refine ⟨j + 1, by omega, by go_num, below_step HBx.out (below_drewN rfl), fun k hk => ?_⟩
            rcases Nat.lt_or_ge k j with q | q
            · exact HA.out k q
            · obtain rfl : k = j := by omega
              exact HX.out
          case measure => simp [intOf]; omega
      · have HX : Hid (May n f j) := ⟨HSane.out, HC.out.2 (by omega)⟩
        have te : (x == u) = false := by rw [beq_eq_false_iff_ne]; exact hxe
        clear hxe
        go_quiet (fail)
        go_wp2_with fail
        go_roundw
        case rel =>
          refine ⟨j + 1, by omega, by go_num, below_step HBx.out (below_drewN rfl), fun k hk => ?_⟩
          rcases Nat.lt_or_ge k j with q | q
          · exact HA.out k q
          · obtain rfl : k = j := by omega
            exact HX.out
        case measure => simp [intOf]; omega
    · obtain rfl : j = m := by omega
      go_wp2_with fail
      go_ret2
      exact ⟨0, 0, rfl, Or.inr (Or.inr (Or.inr ⟨by omega, by omega, by simpa using HA.out, rfl, rfl⟩)), HB.out⟩

theorem edfault_any {a : Option Addr} {m c : Nat} (h : EgAt w a m f) (n : Int) :
    Calls Tryd.prog 19 #[.int .i64 n, .slice a m c] w fun e w' => ∃ (k : Nat) (x : Int), e = .returned (.tuple #[.int .i64 (k : Nat), .int .i64 x]) ∧ EFault n m f k x ∧ Below w.heap.size w w' := by
  by_cases hno : (n < 1 ∨ 60 < n) ∨ 200 < m
  · exact edfault_far n hno
  · obtain ⟨k, rfl⟩ := Int.eq_ofNat_of_zero_le (show 0 ≤ n by omega)
    exact edfault_go k (by omega) (by omega) (by omega) h

end Go.Proofs.YtgmadfiibaeleabDoor.Br
