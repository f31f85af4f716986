/-
  BridgeIs, out of what package bridge is to answer.
-/
import Derived.Test.YtflifofpfodnnabDoorTold
import Derived.Test.YtflifofpfodnnabDoorBf
namespace Go.Proofs.YtflifofpfodnnabDoor.Br
open Go.RowKit Go.Deep
open Go.RowKit (Below)
set_option linter.unusedVariables false

variable {w w' : World} {f : Nat → Int × Int}

/-- What package bridge is to answer. -/
structure BridgeOk : Prop where
  check : ∀ {w : World} {a : Option Addr} {m c : Nat} {f : Nat → Int × Int} (n : Int), EgAt w a m f → Calls Tryd.prog 15 #[.int .i64 n, .slice a m c] w fun e w' => ∃ (k : Nat) (x : Int) (err : Value), e = .returned (.tuple #[.int .i64 (k : Int), err]) ∧ ErrIs err x ∧ EFault n m f k x ∧ Below w.heap.size w w'
  bridges_no : ∀ {w : World} {a : Option Addr} {m c : Nat} {f : Nat → Int × Int} (n : Int) (k : Nat) (x : Int), EgAt w a m f → EFault n m f k x → x ≠ 0 → Calls Tryd.prog 19 #[.int .i64 n, .slice a m c] w fun e w' => ∃ (a' : Option Addr) (c' : Nat), e = .returned (.tuple #[.slice a' 0 c', .iface 23 (.int .i64 x)]) ∧ Below w.heap.size w w'
  joints_no : ∀ {w : World} {a : Option Addr} {m c : Nat} {f : Nat → Int × Int} (n : Int) (k : Nat) (x : Int), EgAt w a m f → EFault n m f k x → x ≠ 0 → Calls Tryd.prog 21 #[.int .i64 n, .slice a m c] w fun e w' => ∃ (a' : Option Addr) (c' : Nat), e = .returned (.tuple #[.slice a' 0 c', .iface 23 (.int .i64 x)]) ∧ Below w.heap.size w w'
  parts_no : ∀ {w : World} {a : Option Addr} {m c : Nat} {f : Nat → Int × Int} (n : Int) (k : Nat) (x : Int), EgAt w a m f → EFault n m f k x → x ≠ 0 → Calls Tryd.prog 23 #[.int .i64 n, .slice a m c] w fun e w' => ∃ (a' : Option Addr) (c' : Nat), e = .returned (.tuple #[.slice a' 0 c', .iface 23 (.int .i64 x)]) ∧ Below w.heap.size w w'
  bridges_ok : ∀ {w : World} {a : Option Addr} {m c n : Nat} {f : Nat → Int × Int}, EgAt w a m f → m ≤ c → c ≤ maxLen → Valid (n : Nat) m f → Calls Tryd.prog 19 #[.int .i64 (n : Nat), .slice a m c] w fun e w' => ∃ (a' : Option Addr) (c' N : Nat) (L : List (Nat × Nat)), e = .returned (.tuple #[.slice a' N c', .nilIface]) ∧ Brs (edges f m) L ∧ L.length = N ∧ EdgesAt w' a' L ∧ Below w.heap.size w w'
  joints_ok : ∀ {w : World} {a : Option Addr} {m c n : Nat} {f : Nat → Int × Int}, EgAt w a m f → m ≤ c → c ≤ maxLen → Valid (n : Nat) m f → Calls Tryd.prog 21 #[.int .i64 (n : Nat), .slice a m c] w fun e w' => ∃ (a' : Option Addr) (c' N : Nat) (L : List Nat), e = .returned (.tuple #[.slice a' N c', .nilIface]) ∧ Jts n (edges f m) L ∧ IntsAt w' a' N L ∧ Below w.heap.size w w'
  parts_ok : ∀ {w : World} {a : Option Addr} {m c n : Nat} {f : Nat → Int × Int} {p : Nat → Nat}, EgAt w a m f → m ≤ c → c ≤ maxLen → Valid (n : Nat) m f → Rest (edges f m) p → Calls Tryd.prog 23 #[.int .i64 (n : Nat), .slice a m c] w fun e w' => ∃ (a' : Option Addr) (c' : Nat), e = .returned (.tuple #[.slice a' n c', .nilIface]) ∧ IntsAt w' a' n (parts n p) ∧ Below w.heap.size w w'

set_option maxRecDepth 100000 in
set_option maxHeartbeats 4000000 in
theorem bridge_no (H : BridgeOk) (h0 : ErrType w) {a : Option Addr} {m c : Nat} (h : EgAt w a m f) (n : Int) (k : Nat) (x : Int) (hF : EFault n m f k x) (hx : x ≠ 0) :
    Calls Tryd.prog 4 #[.int .i64 n, .slice a m c] w fun e w' => e = .returned (.bool true) ∧ Below w.heap.size w w' := by
  have HH : Hid (EgAt w a m f) := h
  have HF : Hid (EFault n m f k x) := hF
  have HX : Hid (x ≠ 0) := hx
  have HA : Hid BridgeOk := H
  have t0 : (x == 0) = false := by rw [beq_eq_false_iff_ne]; exact hx
  clear h hF H hx
  go_enter Tryd.func4, Tryd.ntmps4
  go_wp2_with fail
  refine (edfault_any HH.out n).mono ?_
  rintro e w1 ⟨k1, x1, rfl, hF1, hb1⟩
  obtain ⟨rfl, rfl⟩ := hF1.one HF.out
  have HB1 : Hid (Below w.heap.size w w1) := hb1
  clear hb1 hF1
  go_wp2_with fail
  refine (HA.out.check n (HH.out.below HB1.out)).mono ?_
  rintro e w2 ⟨k2, x2, err, rfl, hE, hF2, hb2⟩
  obtain ⟨rfl, rfl⟩ := hF2.one HF.out
  have HB2 : Hid (Below w.heap.size w w2) := below_step HB1.out hb2
  have HE : Hid (ErrIs err x2) := hE
  clear hb2 hF2 hE HB1
  go_wp2_with fail
  refine (error_any HE.out (h0.below HB2.out)).mono ?_
  rintro e w3 ⟨rfl, hb3⟩
  have HB3 : Hid (Below w.heap.size w w3) := below_step HB2.out hb3
  clear hb3 HB2
  go_wp2_with fail
  refine (HA.out.bridges_no n k2 x2 (HH.out.below HB3.out) HF.out HX.out).mono ?_
  rintro e w4 ⟨a4, c4, rfl, hb4⟩
  have HB4 : Hid (Below w.heap.size w w4) := below_step HB3.out hb4
  clear hb4 HB3
  go_wp2_with fail
  refine (error_any (n := x2) ⟨Or.inr rfl⟩ (h0.below HB4.out)).mono ?_
  rintro e w5 ⟨rfl, hb5⟩
  have HB5 : Hid (Below w.heap.size w w5) := below_step HB4.out hb5
  clear hb5 HB4
  go_wp2_with fail
  refine (edges_same (E := []) (n := 0) rfl (edges_none w5 a4) (edges_none w5 none) (by omega)).mono ?_
  rintro e w6 ⟨rfl, hb6⟩
  have HB6 : Hid (Below w.heap.size w w6) := below_step HB5.out hb6
  clear hb6 HB5
  go_wp2_with fail
  refine (HA.out.joints_no n k2 x2 (HH.out.below HB6.out) HF.out HX.out).mono ?_
  rintro e w7 ⟨a7, c7, rfl, hb7⟩
  have HB7 : Hid (Below w.heap.size w w7) := below_step HB6.out hb7
  clear hb7 HB6
  go_wp2_with fail
  refine (error_any (n := x2) ⟨Or.inr rfl⟩ (h0.below HB7.out)).mono ?_
  rintro e w8 ⟨rfl, hb8⟩
  have HB8 : Hid (Below w.heap.size w w8) := below_step HB7.out hb8
  clear hb8 HB7
  go_wp2_with fail
  refine (ints_same (ints_none w8 a7) (ints_none w8 none) (by omega)).mono ?_
  rintro e w9 ⟨rfl, hb9⟩
  have HB9 : Hid (Below w.heap.size w w9) := below_step HB8.out hb9
  clear hb9 HB8
  go_wp2_with fail
  refine (HA.out.parts_no n k2 x2 (HH.out.below HB9.out) HF.out HX.out).mono ?_
  rintro e w10 ⟨a10, c10, rfl, hb10⟩
  have HB10 : Hid (Below w.heap.size w w10) := below_step HB9.out hb10
  clear hb10 HB9
  go_wp2_with fail
  refine (error_any (n := x2) ⟨Or.inr rfl⟩ (h0.below HB10.out)).mono ?_
  rintro e w11 ⟨rfl, hb11⟩
  have HB11 : Hid (Below w.heap.size w w11) := below_step HB10.out hb11
  clear hb11 HB10
  go_wp2_with fail
  refine (ints_same (ints_none w11 a10) (ints_none w11 none) (by omega)).mono ?_
  rintro e w12 ⟨rfl, hb12⟩
  have HB12 : Hid (Below w.heap.size w w12) := below_step HB11.out hb12
  clear hb12 HB11
  go_wp2_with fail
  go_ret
  exact ⟨rfl, HB12.out⟩

set_option maxRecDepth 100000 in
set_option maxHeartbeats 4000000 in
theorem bridge_ok (H : BridgeOk) (h0 : ErrType w) {a : Option Addr} {m c n : Nat} (h : EgAt w a m f) (hmc : m ≤ c) (hcm : c ≤ maxLen) (hv : Valid (n : Nat) m f) :
    Calls Tryd.prog 4 #[.int .i64 (n : Nat), .slice a m c] w fun e w' => e = .returned (.bool true) ∧ Below w.heap.size w w' := by
  have HH : Hid (EgAt w a m f) := h
  have HF : Hid (EFault (n : Nat) m f 0 0) := hv.fault
  have HV : Hid (Valid (n : Nat) m f) := hv
  have hmay : ∀ j, j < m → May n f j := by simpa using hv.2.2
  have HM : Hid (∀ j, j < m → May n f j) := hmay
  have HA : Hid BridgeOk := H
  have hn0 : 0 < n := by have := hv.1; omega
  have hn60 : n ≤ 60 := by have := hv.1; omega
  have hm200 : m ≤ 200 := hv.2.1
  obtain ⟨E, hE⟩ : ∃ E, edges f m = E := ⟨_, rfl⟩
  have HL : Hid (edges f m = E ∧ E.length = m ∧ Among n E ∧ Up E) := by rw [← hE]; exact ⟨rfl, edges_len f m, edges_among hmay, edges_up hmay⟩
  obtain ⟨p, hp⟩ := rest_of E
  have HP : Hid (Rest E p) := hp
  have HEd : Hid (∀ W, Below w.heap.size w W → EdgesAt W a E) := fun W hW => by rw [← hE]; exact (HH.out.below hW).list hmay
  clear h hv hmay H hE hp
  go_enter Tryd.func4, Tryd.ntmps4
  go_wp2_with fail
  refine (edfault_any HH.out (n : Nat)).mono ?_
  rintro e w1 ⟨k1, x1, rfl, hF1, hb1⟩
  obtain ⟨rfl, rfl⟩ := hF1.one HF.out
  have HB1 : Hid (Below w.heap.size w w1) := hb1
  clear hb1 hF1
  go_wp2_with fail
  refine (HA.out.check (n : Nat) (HH.out.below HB1.out)).mono ?_
  rintro e w2 ⟨k2, x2, err, rfl, hE, hF2, hb2⟩
  obtain ⟨rfl, rfl⟩ := hF2.one HF.out
  have HB2 : Hid (Below w.heap.size w w2) := below_step HB1.out hb2
  have HE : Hid (ErrIs err 0) := hE
  clear hb2 hF2 hE HB1
  go_wp2_with fail
  refine (error_any HE.out (h0.below HB2.out)).mono ?_
  rintro e w3 ⟨rfl, hb3⟩
  have HB3 : Hid (Below w.heap.size w w3) := below_step HB2.out hb3
  clear hb3 HB2
  go_wp2_with fail
  refine (bridges_of (HEd.out _ HB3.out) HL.out.2.1 hm200 hmc hcm hn0 hn60 HL.out.2.2.1 HL.out.2.2.2).mono ?_
  rintro e w4 ⟨v4, L4, rfl, hbr4, hown4, hb4⟩
  obtain ⟨N4, hN4⟩ : ∃ N, L4.length = N := ⟨_, rfl⟩
  rw [hN4] at hown4
  obtain ⟨a4, c4, rfl, hE4, -, -⟩ := own_edges hown4 hN4
  have hN4m : N4 ≤ m := by
    obtain ⟨t, -, hL⟩ := hbr4
    rw [← hN4, hL, ← HL.out.2.1]
    exact List.length_filter_le _ _
  have HB4 : Hid (Below w.heap.size w w4) := below_step HB3.out hb4
  have HBr : Hid (Brs E L4 ∧ L4.length = N4) := ⟨hbr4, hN4⟩
  have HE4 : Hid (EdgesAt w4 a4 L4) := hE4
  clear hb4 HB3 hbr4 hown4 hE4 hN4
  go_wp2_with fail
  refine (joints_of (HEd.out _ HB4.out) HL.out.2.1 hm200 hn0 hn60 HL.out.2.2.1).mono ?_
  rintro e w5 ⟨v5, L5, rfl, hj5, hown5, hb5⟩
  obtain ⟨N5, hN5⟩ : ∃ N, L5.length = N := ⟨_, rfl⟩
  rw [hN5] at hown5
  obtain ⟨a5, c5, rfl, hI5⟩ := own_ints hown5 hN5
  have hN5n : N5 ≤ n := by
    obtain ⟨t, -, hL⟩ := hj5
    rw [← hN5, hL]
    exact Nat.le_trans (List.length_filter_le _ _) (by simp)
  have HB5 : Hid (Below w.heap.size w w5) := below_step HB4.out hb5
  have HJt : Hid (Jts n E L5 ∧ L5.length = N5) := ⟨hj5, hN5⟩
  have HI5 : Hid (IntsAt w5 a5 N5 L5) := hI5
  have HE5 : Hid (EdgesAt w5 a4 L4) := HE4.out.below hb5
  clear hb5 HB4 hj5 hown5 hI5 hN5 HE4
  go_wp2_with fail
  refine (parts_of (HEd.out _ HB5.out) HL.out.2.1 (by omega) n hn0 hn60 HL.out.2.2.1 HP.out).mono ?_
  rintro e w6 ⟨k6, c6, rfl, hb6, -, hc6⟩
  have HB6 : Hid (Below w.heap.size w w6) := below_step HB5.out hb6
  have HP6 : Hid (IntsAt w6 (some ⟨k6, 0, none⟩) n (parts n p)) := parts_at hc6
  have HI6 : Hid (IntsAt w6 a5 N5 L5) := HI5.out.below hb6
  have HE6 : Hid (EdgesAt w6 a4 L4) := HE5.out.below hb6
  clear hb6 HB5 hc6 HI5 HE5
  go_wp2_with fail
  refine (HA.out.bridges_ok (HH.out.below HB6.out) hmc hcm HV.out).mono ?_
  rintro e w7 ⟨a7, c7, N7, L7, rfl, hbr7, hN7, hE7, hb7⟩
  rw [HL.out.1] at hbr7
  obtain rfl : L7 = L4 := hbr7.one HBr.out.1
  obtain rfl : N7 = N4 := hN7.symm.trans HBr.out.2
  have HB7 : Hid (Below w.heap.size w w7) := below_step HB6.out hb7
  have HP7 : Hid (IntsAt w7 (some ⟨k6, 0, none⟩) n (parts n p)) := HP6.out.below hb7
  have HI7 : Hid (IntsAt w7 a5 N5 L5) := HI6.out.below hb7
  have HE7 : Hid (EdgesAt w7 a4 L7 ∧ EdgesAt w7 a7 L7) := ⟨HE6.out.below hb7, hE7⟩
  clear hb7 HB6 hbr7 hN7 hE7 HP6 HI6 HE6
  go_wp2_with fail
  refine (error_any (n := 0) ⟨Or.inl ⟨rfl, rfl⟩⟩ (h0.below HB7.out)).mono ?_
  rintro e w8 ⟨rfl, hb8⟩
  have HB8 : Hid (Below w.heap.size w w8) := below_step HB7.out hb8
  have HP8 : Hid (IntsAt w8 (some ⟨k6, 0, none⟩) n (parts n p)) := HP7.out.below hb8
  have HI8 : Hid (IntsAt w8 a5 N5 L5) := HI7.out.below hb8
  have hes := edges_same (c := c7) (c' := c4) HBr.out.2 (HE7.out.2.below hb8) (HE7.out.1.below hb8) (by omega)
  clear hb8 HB7 HP7 HI7 HE7
  go_wp2_with fail
  refine hes.mono ?_
  rintro e w9 ⟨rfl, hb9⟩
  have HB9 : Hid (Below w.heap.size w w9) := below_step HB8.out hb9
  have HP9 : Hid (IntsAt w9 (some ⟨k6, 0, none⟩) n (parts n p)) := HP8.out.below hb9
  have HI9 : Hid (IntsAt w9 a5 N5 L5) := HI8.out.below hb9
  clear hb9 HB8 HP8 HI8 hes
  go_wp2_with fail
  refine (HA.out.joints_ok (HH.out.below HB9.out) hmc hcm HV.out).mono ?_
  rintro e w10 ⟨a10, c10, N10, L10, rfl, hj10, hI10, hb10⟩
  rw [HL.out.1] at hj10
  obtain rfl : L10 = L5 := hj10.one HJt.out.1
  obtain rfl : N10 = N5 := hI10.len.symm.trans HJt.out.2
  have HB10 : Hid (Below w.heap.size w w10) := below_step HB9.out hb10
  have HP10 : Hid (IntsAt w10 (some ⟨k6, 0, none⟩) n (parts n p)) := HP9.out.below hb10
  have HI10 : Hid (IntsAt w10 a5 N10 L10 ∧ IntsAt w10 a10 N10 L10) := ⟨HI9.out.below hb10, hI10⟩
  clear hb10 HB9 hj10 hI10 HP9 HI9
  go_wp2_with fail
  refine (error_any (n := 0) ⟨Or.inl ⟨rfl, rfl⟩⟩ (h0.below HB10.out)).mono ?_
  rintro e w11 ⟨rfl, hb11⟩
  have HB11 : Hid (Below w.heap.size w w11) := below_step HB10.out hb11
  have HP11 : Hid (IntsAt w11 (some ⟨k6, 0, none⟩) n (parts n p)) := HP10.out.below hb11
  have his := ints_same (c := c10) (c' := c5) (HI10.out.2.below hb11) (HI10.out.1.below hb11) (by omega)
  clear hb11 HB10 HP10 HI10
  go_wp2_with fail
  refine his.mono ?_
  rintro e w12 ⟨rfl, hb12⟩
  have HB12 : Hid (Below w.heap.size w w12) := below_step HB11.out hb12
  have HP12 : Hid (IntsAt w12 (some ⟨k6, 0, none⟩) n (parts n p)) := HP11.out.below hb12
  clear hb12 HB11 HP11 his
  go_wp2_with fail
  refine (HA.out.parts_ok (p := p) (HH.out.below HB12.out) hmc hcm HV.out (by rw [HL.out.1]; exact HP.out)).mono ?_
  rintro e w13 ⟨a13, c13, rfl, hI13, hb13⟩
  have HB13 : Hid (Below w.heap.size w w13) := below_step HB12.out hb13
  have HP13 : Hid (IntsAt w13 (some ⟨k6, 0, none⟩) n (parts n p) ∧ IntsAt w13 a13 n (parts n p)) := ⟨HP12.out.below hb13, hI13⟩
  clear hb13 HB12 hI13 HP12
  go_wp2_with fail
  refine (error_any (n := 0) ⟨Or.inl ⟨rfl, rfl⟩⟩ (h0.below HB13.out)).mono ?_
  rintro e w14 ⟨rfl, hb14⟩
  have HB14 : Hid (Below w.heap.size w w14) := below_step HB13.out hb14
  have his := ints_same (c := c13) (c' := c6) (HP13.out.2.below hb14) (HP13.out.1.below hb14) (by omega)
  clear hb14 HB13 HP13
  go_wp2_with fail
  refine his.mono ?_
  rintro e w15 ⟨rfl, hb15⟩
  have HB15 : Hid (Below w.heap.size w w15) := below_step HB14.out hb15
  clear hb15 HB14 his
  go_wp2_with fail
  go_ret
  exact ⟨rfl, HB15.out⟩

theorem bridge_is (H : BridgeOk) (h0 : ErrType w) {a : Option Addr} {m c : Nat} (h : EgAt w a m f) (hmc : m ≤ c) (hcm : c ≤ maxLen) (n : Int) :
    Calls Tryd.prog 4 #[.int .i64 n, .slice a m c] w fun e w' => e = .returned (.bool true) ∧ Below w.heap.size w w' := by
  rcases fault_or n m f with hv | ⟨k, x, hF, hx⟩
  · obtain ⟨nn, rfl⟩ := Int.eq_ofNat_of_zero_le (show 0 ≤ n by have := hv.1; omega)
    exact bridge_ok H h0 h hmc hcm hv
  · exact bridge_no H h0 h n k x hF hx

end Go.Proofs.YtflifofpfodnnabDoor.Br
