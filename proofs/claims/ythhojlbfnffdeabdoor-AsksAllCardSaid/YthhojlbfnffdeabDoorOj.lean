/-
  AsksAll, out of what Check, Answers and Spans are to answer.
-/
import Derived.Test.YthhojlbfnffdeabDoorTold
import Derived.Test.YthhojlbfnffdeabDoorOg
import Derived.Test.YthhojlbfnffdeabDoorOh
namespace Go.Proofs.YthhojlbfnffdeabDoor.As
open Go.RowKit Go.Deep
open Go.RowKit (Below)
set_option linter.unusedVariables false

/-- What package asks is to answer. -/
structure AsksOk : Prop where
  check : ∀ {w : World} {a : Option Addr} {m c : Nat} {f : Nat → Int × Int × Int} (n : Int), EvAt w a m f → Fits f m → Calls Tryd.prog 5 #[.int .i64 n, .slice a m c] w fun e w' => ∃ (k : Nat) (x : Int) (err : Value), e = .returned (.tuple #[.int .i64 (k : Int), err]) ∧ ErrIs err x ∧ EFault n m f k x ∧ Below w.heap.size w w'
  answers_no : ∀ {w : World} {a : Option Addr} {m c : Nat} {f : Nat → Int × Int × Int} (n : Int) (k : Nat) (x : Int), EvAt w a m f → Fits f m → EFault n m f k x → x ≠ 0 → Calls Tryd.prog 9 #[.int .i64 n, .slice a m c] w fun e w' => ∃ (a' : Option Addr) (c' : Nat), e = .returned (.tuple #[.slice a' 0 c', .iface 23 (.int .i64 x)]) ∧ Below w.heap.size w w'
  answers_ok : ∀ {w : World} {a : Option Addr} {m c n : Nat} {f : Nat → Int × Int × Int}, EvAt w a m f → 1 ≤ n → n ≤ 60 → m ≤ 120 → (∀ j, j < m → May n f j) → Calls Tryd.prog 9 #[.int .i64 (n : Nat), .slice a m c] w fun e w' => ∃ (a' : Option Addr) (c' N : Nat) (l : List Bool), e = .returned (.tuple #[.slice a' N c', .nilIface]) ∧ Ans f m l ∧ BoolsAt w' a' N l ∧ Below w.heap.size w w'
  spans_no : ∀ {w : World} {a : Option Addr} {m c : Nat} {f : Nat → Int × Int × Int} (n : Int) (k : Nat) (x : Int), EvAt w a m f → Fits f m → EFault n m f k x → x ≠ 0 → Calls Tryd.prog 11 #[.int .i64 n, .slice a m c] w fun e w' => ∃ (a' : Option Addr) (c' : Nat), e = .returned (.tuple #[.slice a' 0 c', .iface 23 (.int .i64 x)]) ∧ Below w.heap.size w w'
  spans_ok : ∀ {w : World} {a : Option Addr} {m c n : Nat} {f : Nat → Int × Int × Int}, EvAt w a m f → 1 ≤ n → n ≤ 60 → m ≤ 120 → (∀ j, j < m → May n f j) → Calls Tryd.prog 11 #[.int .i64 (n : Nat), .slice a m c] w fun e w' => ∃ (a' : Option Addr) (c' N : Nat), e = .returned (.tuple #[.slice a' N c', .nilIface]) ∧ (spans f m m).length = N ∧ EdgesAt w' a' (spans f m m) ∧ Below w.heap.size w w'

variable {w : World} {f : Nat → Int × Int × Int}

theorem bools_none (w : World) (a : Option Addr) : BoolsAt w a 0 [] := ⟨rfl, fun i hi => absurd hi (Nat.not_lt_zero _)⟩
theorem edges_none (w : World) (a : Option Addr) : EdgesAt w a [] := ⟨fun i hi => absurd hi (Nat.not_lt_zero _)⟩

theorem Ans.small {m : Nat} {l : List Bool} (h : Ans f m l) : l.length ≤ m := by rw [h.len]; exact places_len f 3 m

set_option maxRecDepth 100000 in
set_option maxHeartbeats 4000000 in
theorem asks_no (H : AsksOk) (h0 : ErrType w) {a : Option Addr} {m c : Nat} (h : EvAt w a m f) (hfit : Fits f m) (n : Int) (k : Nat) (x : Int) (hF : EFault n m f k x) (hx : x ≠ 0) :
    Calls Tryd.prog 3 #[.int .i64 n, .slice a m c] w fun e w' => e = .returned (.bool true) ∧ Below w.heap.size w w' := by
  have HH : Hid (EvAt w a m f) := h
  have HFit : Hid (Fits f m) := hfit
  have HF : Hid (EFault n m f k x) := hF
  have HX : Hid (x ≠ 0) := hx
  have HA : Hid AsksOk := H
  have t0 : (x == 0) = false := by rw [beq_eq_false_iff_ne]; exact hx
  clear h hF H hx hfit
  go_enter Tryd.func3, Tryd.ntmps3
  go_wp2_with fail
  refine (evfault_any HH.out n).mono ?_
  rintro e w1 ⟨k1, x1, rfl, hF1, hb1⟩
  obtain ⟨rfl, rfl⟩ := hF1.one HF.out
  have HB1 : Hid (Below w.heap.size w w1) := hb1
  clear hb1 hF1
  go_wp2_with fail
  refine (HA.out.check n (HH.out.below HB1.out) HFit.out).mono ?_
  rintro e w2 ⟨k2, x2, err, rfl, hE, hF2, hb2⟩
  obtain ⟨rfl, rfl⟩ := hF2.one HF.out
  have HB2 : Hid (Below w.heap.size w w2) := below_step HB1.out hb2
  have HE : Hid (ErrIs err x2) := hE
  clear hb2 hF2 hE HB1
  go_wp2_with fail
  refine (error_any HE.out (h0.below HB2.out)).mono ?_
  rintro e w3 ⟨rfl, hb3⟩
  have HB3 : Hid (Below w.heap.size w w3) := below_step HB2.out hb3
  clear hb3 HB2
  go_wp2_with fail
  refine (HA.out.answers_no n k2 x2 (HH.out.below HB3.out) HFit.out HF.out HX.out).mono ?_
  rintro e w4 ⟨a4, c4, rfl, hb4⟩
  have HB4 : Hid (Below w.heap.size w w4) := below_step HB3.out hb4
  clear hb4 HB3
  go_wp2_with fail
  refine (error_any (n := x2) ⟨Or.inr rfl⟩ (h0.below HB4.out)).mono ?_
  rintro e w5 ⟨rfl, hb5⟩
  have HB5 : Hid (Below w.heap.size w w5) := below_step HB4.out hb5
  clear hb5 HB4
  go_wp2_with fail
  refine (bools_same (bools_none w5 a4) (bools_none w5 none) (by omega)).mono ?_
  rintro e w6 ⟨rfl, hb6⟩
  have HB6 : Hid (Below w.heap.size w w6) := below_step HB5.out hb6
  clear hb6 HB5
  go_wp2_with fail
  refine (HA.out.spans_no n k2 x2 (HH.out.below HB6.out) HFit.out HF.out HX.out).mono ?_
  rintro e w7 ⟨a7, c7, rfl, hb7⟩
  have HB7 : Hid (Below w.heap.size w w7) := below_step HB6.out hb7
  clear hb7 HB6
  go_wp2_with fail
  refine (error_any (n := x2) ⟨Or.inr rfl⟩ (h0.below HB7.out)).mono ?_
  rintro e w8 ⟨rfl, hb8⟩
  have HB8 : Hid (Below w.heap.size w w8) := below_step HB7.out hb8
  clear hb8 HB7
  go_wp2_with fail
  refine (twos_same (E := []) (n := 0) rfl (edges_none w8 a7) (edges_none w8 none) (by omega)).mono ?_
  rintro e w9 ⟨rfl, hb9⟩
  have HB9 : Hid (Below w.heap.size w w9) := below_step HB8.out hb9
  clear hb9 HB8
  go_wp2_with fail
  go_ret
  exact ⟨rfl, HB9.out⟩

set_option maxRecDepth 100000 in
set_option maxHeartbeats 4000000 in
theorem asks_ok (H : AsksOk) (h0 : ErrType w) {a : Option Addr} {m c n : Nat} (h : EvAt w a m f) (h1 : 1 ≤ n) (h60 : n ≤ 60) (hm : m ≤ 120) (hmay : ∀ j, j < m → May n f j) :
    Calls Tryd.prog 3 #[.int .i64 (n : Nat), .slice a m c] w fun e w' => e = .returned (.bool true) ∧ Below w.heap.size w w' := by
  have HH : Hid (EvAt w a m f) := h
  have HF : Hid (EFault (n : Nat) m f 0 0) := Or.inr (Or.inr (Or.inr ⟨by omega, hm, by simpa using hmay, rfl, rfl⟩))
  have HM : Hid (∀ j, j < m → May n f j) := hmay
  have HA : Hid AsksOk := H
  clear h H hmay
  go_enter Tryd.func3, Tryd.ntmps3
  go_wp2_with fail
  refine (evfault_any HH.out (n : Nat)).mono ?_
  rintro e w1 ⟨k1, x1, rfl, hF1, hb1⟩
  obtain ⟨rfl, rfl⟩ := hF1.one HF.out
  have HB1 : Hid (Below w.heap.size w w1) := hb1
  clear hb1 hF1
  go_wp2_with fail
  refine (HA.out.check (n : Nat) (HH.out.below HB1.out) (Fits.of_may h60 HM.out)).mono ?_
  rintro e w2 ⟨k2, x2, err, rfl, hE, hF2, hb2⟩
  obtain ⟨rfl, rfl⟩ := hF2.one HF.out
  have HB2 : Hid (Below w.heap.size w w2) := below_step HB1.out hb2
  have HE : Hid (ErrIs err 0) := hE
  clear hb2 hF2 hE HB1
  go_wp2_with fail
  refine (error_any HE.out (h0.below HB2.out)).mono ?_
  rintro e w3 ⟨rfl, hb3⟩
  have HB3 : Hid (Below w.heap.size w w3) := below_step HB2.out hb3
  clear hb3 HB2
  go_wp2_with fail
  refine (answers_of (HH.out.below HB3.out) h1 h60 hm HM.out).mono ?_
  rintro e w4 ⟨v4, l, rfl, hans, hown, hb4⟩
  obtain ⟨a4, c4, rfl, hbo, -, -⟩ := own_bools hown rfl
  have hll := hans.small
  have HB4 : Hid (Below w.heap.size w w4) := below_step HB3.out hb4
  have HAns : Hid (Ans f m l) := hans
  obtain ⟨N, hN⟩ : ∃ N, l.length = N := ⟨_, rfl⟩
  rw [hN] at hbo hll
  rw [hN]
  have HBo : Hid (BoolsAt w4 a4 N l) := hbo
  clear hb4 HB3 hans hown hbo
  go_wp2_with fail
  refine (spans_of (HH.out.below HB4.out) hm HM.out).mono ?_
  rintro e w5 ⟨v5, rfl, hown, hb5⟩
  obtain ⟨a5, c5, rfl, hE5, -, -⟩ := own_edges hown rfl
  have hsl := spans_len f m m
  have HB5 : Hid (Below w.heap.size w w5) := below_step HB4.out hb5
  have HBo5 : Hid (BoolsAt w5 a4 N l) := HBo.out.below hb5
  obtain ⟨E, hEE⟩ : ∃ E, spans f m m = E := ⟨_, rfl⟩
  rw [hEE] at hE5 hsl
  rw [hEE]
  obtain ⟨M, hM⟩ : ∃ M, E.length = M := ⟨_, rfl⟩
  rw [hM] at hsl
  rw [hM]
  have HEd : Hid (EdgesAt w5 a5 E) := hE5
  have HEE : Hid (spans f m m = E ∧ E.length = M) := ⟨hEE, hM⟩
  clear hb5 HB4 HBo hown hE5 hEE hM
  go_wp2_with fail
  refine (HA.out.answers_ok (HH.out.below HB5.out) h1 h60 hm HM.out).mono ?_
  rintro e w6 ⟨a6, c6, N6, l6, rfl, hans6, hbo6, hb6⟩
  obtain rfl : l6 = l := hans6.one HAns.out
  obtain rfl : N6 = N := by rw [← hbo6.len, hN]
  have HB6 : Hid (Below w.heap.size w w6) := below_step HB5.out hb6
  have HBo6 : Hid (BoolsAt w6 a4 N6 l6) := HBo5.out.below hb6
  have HCo6 : Hid (BoolsAt w6 a6 N6 l6) := hbo6
  have HEd6 : Hid (EdgesAt w6 a5 E) := HEd.out.below hb6
  clear hb6 HB5 HBo5 HEd hans6 hbo6 hN
  go_wp2_with fail
  refine (error_any (n := 0) ⟨Or.inl ⟨rfl, rfl⟩⟩ (h0.below HB6.out)).mono ?_
  rintro e w7 ⟨rfl, hb7⟩
  have HB7 : Hid (Below w.heap.size w w7) := below_step HB6.out hb7
  have HEd7 : Hid (EdgesAt w7 a5 E) := HEd6.out.below hb7
  have hbs := bools_same (c := c6) (c' := c4) (HCo6.out.below hb7) (HBo6.out.below hb7) (by omega)
  clear hb7 HB6 HEd6 HBo6 HCo6
  go_wp2_with fail
  refine hbs.mono ?_
  rintro e w8 ⟨rfl, hb8⟩
  have HB8 : Hid (Below w.heap.size w w8) := below_step HB7.out hb8
  have HEd8 : Hid (EdgesAt w8 a5 E) := HEd7.out.below hb8
  clear hb8 HB7 HEd7 hbs
  go_wp2_with fail
  refine (HA.out.spans_ok (HH.out.below HB8.out) h1 h60 hm HM.out).mono ?_
  rintro e w9 ⟨a9, c9, N9, rfl, hN9, hE9, hb9⟩
  rw [HEE.out.1] at hN9 hE9
  obtain rfl : N9 = M := hN9.symm.trans HEE.out.2
  have HB9 : Hid (Below w.heap.size w w9) := below_step HB8.out hb9
  have HEd9 : Hid (EdgesAt w9 a5 E) := HEd8.out.below hb9
  have HEe9 : Hid (EdgesAt w9 a9 E) := hE9
  clear hb9 HB8 HEd8 hN9 hE9
  go_wp2_with fail
  refine (error_any (n := 0) ⟨Or.inl ⟨rfl, rfl⟩⟩ (h0.below HB9.out)).mono ?_
  rintro e w10 ⟨rfl, hb10⟩
  have HB10 : Hid (Below w.heap.size w w10) := below_step HB9.out hb10
  have hts := twos_same (c := c9) (c' := c5) HEE.out.2 (HEe9.out.below hb10) (HEd9.out.below hb10) (by omega)
  clear hb10 HB9 HEd9 HEe9
  go_wp2_with fail
  refine hts.mono ?_
  rintro e w11 ⟨rfl, hb11⟩
  have HB11 : Hid (Below w.heap.size w w11) := below_step HB10.out hb11
  clear hb11 HB10 hts
  go_wp2_with fail
  go_ret
  exact ⟨rfl, HB11.out⟩

theorem efault_some (n : Int) (m : Nat) (f : Nat → Int × Int × Int) : (∃ k x, EFault n m f k x ∧ x ≠ 0) ∨ ((1 ≤ n ∧ n ≤ 60) ∧ m ≤ 120 ∧ ∀ j, j < m → May n.toNat f j) := by
  by_cases h1 : n < 1 ∨ 60 < n
  · exact Or.inl ⟨0, 1, Or.inl ⟨h1, rfl, rfl⟩, by decide⟩
  by_cases h2 : 120 < m
  · exact Or.inl ⟨0, 3, Or.inr (Or.inl ⟨by omega, h2, rfl, rfl⟩), by decide⟩
  have key : ∀ t, t ≤ m → (∃ k x, k < t ∧ (∀ j, j < k → May n.toNat f j) ∧ Bad n.toNat f k x) ∨ ∀ j, j < t → May n.toNat f j := by
    intro t
    induction t with
    | zero => exact fun _ => Or.inr fun j hj => absurd hj (Nat.not_lt_zero _)
    | succ t ih =>
      intro ht
      rcases ih (by omega) with ⟨k, x, q1, q2, q3⟩ | hall
      · exact Or.inl ⟨k, x, by omega, q2, q3⟩
      · by_cases hmt : May n.toNat f t
        · refine Or.inr fun j hj => ?_
          rcases Nat.lt_or_ge j t with q | q
          · exact hall j q
          · obtain rfl : j = t := by omega
            exact hmt
        · refine Or.inl ?_
          have hb : ∃ x, Bad n.toNat f t x := by
            by_cases hs : Sane n.toNat f t
            · by_cases h3 : (f t).1 = 3
              · exact absurd (may_ask hs h3) hmt
              · by_cases he : (f t).2.1 = (f t).2.2
                · exact ⟨2, Or.inr (Or.inl ⟨hs, h3, he, rfl⟩)⟩
                · have hw := hs.1
                  by_cases hw1 : (f t).1 = 1
                  · by_cases hin : eOf f t ∈ here f t
                    · exact ⟨6, Or.inr (Or.inr (Or.inl ⟨hs, hw1, he, hin, rfl⟩))⟩
                    · exact absurd (may_add hs hw1 he hin) hmt
                  · by_cases hin : eOf f t ∈ here f t
                    · exact absurd (may_drop hs (by omega) he hin) hmt
                    · exact ⟨4, Or.inr (Or.inr (Or.inr ⟨hs, by omega, he, hin, rfl⟩))⟩
            · exact ⟨1, Or.inl ⟨hs, rfl⟩⟩
          obtain ⟨x, hx⟩ := hb
          exact ⟨t, x, by omega, hall, hx⟩
  rcases key m (Nat.le_refl _) with ⟨k, x, q1, q2, q3⟩ | hall
  · exact Or.inl ⟨k, x, Or.inr (Or.inr (Or.inl ⟨by omega, by omega, q1, q2, q3⟩)), q3.pos⟩
  · exact Or.inr ⟨by omega, by omega, hall⟩

theorem asks_all (H : AsksOk) (h0 : ErrType w) {a : Option Addr} {m c : Nat} (h : EvAt w a m f) (hfit : Fits f m) (n : Int) :
    Calls Tryd.prog 3 #[.int .i64 n, .slice a m c] w fun e w' => e = .returned (.bool true) ∧ Below w.heap.size w w' := by
  rcases efault_some n m f with ⟨k, x, hF, hx⟩ | ⟨hn, hm, hall⟩
  · exact asks_no H h0 h hfit n k x hF hx
  · obtain ⟨nn, rfl⟩ := Int.eq_ofNat_of_zero_le (show 0 ≤ n by omega)
    exact asks_ok H h0 h (by omega) (by omega) hm (by simpa using hall)

end Go.Proofs.YthhojlbfnffdeabDoor.As
