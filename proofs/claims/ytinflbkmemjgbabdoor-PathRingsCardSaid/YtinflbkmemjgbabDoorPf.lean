/-
  PathIs, out of what package path is to answer.
-/
import Derived.Test.YtinflbkmemjgbabDoorTold
import Derived.Test.YtinflbkmemjgbabDoorBd
import Derived.Test.YtinflbkmemjgbabDoorPe
namespace Go.Proofs.YtinflbkmemjgbabDoor.Pt
open Go.RowKit Go.Deep Go.Proofs.YtinflbkmemjgbabDoor.Br
open Go.RowKit (Below)
set_option linter.unusedVariables false

variable {w w' : World} {f : Nat → Int × Int}

/-- Numbers, as they lie in memory. -/
def NumsAt (w : World) (a : Option Addr) (n : Nat) (g : Nat → Int) : Prop := ∀ i, i < n → ∃ b o, a = some ⟨b, o, none⟩ ∧ w.cell? ⟨b, o + i, none⟩ = some (.int .i64 (g i))

theorem NumsAt.below {a : Option Addr} {n : Nat} {g : Nat → Int} (h : NumsAt w a n g) (hb : Below w.heap.size w w') : NumsAt w' a n g := fun i hi => by
  obtain ⟨b, o, e, q⟩ := h i hi
  exact ⟨b, o, e, cell_keep hb q⟩

theorem nums_none (w : World) (a : Option Addr) (g : Nat → Int) : NumsAt w a 0 g := fun i hi => absurd hi (Nat.not_lt_zero _)

theorem IntsAt.nums {a : Option Addr} {n : Nat} {l : List Nat} (h : IntsAt w a n l) : NumsAt w a n (fun i => ((l.getD i 0 : Nat) : Int)) := h.cell

set_option maxRecDepth 100000 in
set_option maxHeartbeats 2000000 in
theorem nums_same {a a' : Option Addr} {n c c' : Nat} {g : Nat → Int} (h : NumsAt w a n g) (h' : NumsAt w a' n g) (hn : n < 1000000) :
    Calls Tryd.prog 26 #[.slice a n c, .slice a' n c'] w fun e w' => e = .returned (.bool true) ∧ Below w.heap.size w w' := by
  have HC : Hid (∀ i, i < n → ∃ b o b' o' x, a = some ⟨b, o, none⟩ ∧ a' = some ⟨b', o', none⟩ ∧ w.cell? ⟨b, o + i, none⟩ = some (.int .i64 x) ∧ w.cell? ⟨b', o' + i, none⟩ = some (.int .i64 x)) := fun i hi => by
    obtain ⟨b, o, e, q⟩ := h i hi
    obtain ⟨b', o', e', q'⟩ := h' i hi
    exact ⟨b, o, b', o', _, e, e', q, q'⟩
  clear h h'
  go_enter Tryd.func26, Tryd.ntmps26
  go_wp2_with fail
  go_loopw [5] (fun i wr => ∃ j : Nat, j ≤ n ∧ i = .int .i64 (j : Nat) ∧ Below w.heap.size w wr) (fun i _ => n - (intOf i).toNat)
  case atStart => exact ⟨0, Nat.zero_le _, rfl, Below.refl _ _⟩
  case round =>
    obtain ⟨j, hj, rfl, hb⟩ := hrel
    by_cases hlt : j < n
    · obtain ⟨b, o, b', o', x, rfl, rfl, q1, q2⟩ := HC.out j hlt
      replace q1 := cell_keep hb q1
      replace q2 := cell_keep hb q2
      have HB : Hid (Below w.heap.size w wr) := hb
      have i0 : (0 : Int) ≤ (j : Int) := by omega
      have i1 : (j : Int) < (n : Int) := by omega
      clear hb
      go_wp2_with fail
      go_quiet (fail)
      go_wp2_with fail
      go_roundw
      case rel => exact ⟨j + 1, by omega, by go_num, below_step HB.out (Br.below_drewN rfl)⟩
      case measure => simp [intOf]; omega
    · obtain rfl : j = n := by omega
      go_wp2_with fail
      go_ret
      exact ⟨rfl, hb⟩

/-- It is one of the nodes. -/
def Node (n x : Int) : Prop := 0 ≤ x ∧ x < n

/-- What is wrong ahead of how far. -/
def FarNo (n : Int) (m : Nat) (f : Nat → Int × Int) (a x : Int) : Prop := (∃ k, EFault n m f k x ∧ x ≠ 0) ∨ (Valid n m f ∧ ¬ Node n a ∧ x = 1)
/-- What is wrong ahead of a short way. -/
def ShortNo (n : Int) (m : Nat) (f : Nat → Int × Int) (a b x : Int) : Prop := (∃ k, EFault n m f k x ∧ x ≠ 0) ∨ (Valid n m f ∧ ¬ (Node n a ∧ Node n b) ∧ x = 1) ∨ (Valid n m f ∧ Node n a ∧ Node n b ∧ (∀ k, ¬ Walk (edges f m) b.toNat a.toNat k) ∧ x = 4)

/-- What package path is to answer (Far, Short). -/
structure PathOk : Prop where
  far_no : ∀ {w : World} {ad : Option Addr} {m c : Nat} {f : Nat → Int × Int} (n a x : Int), EgAt w ad m f → FarNo n m f a x → Calls Tryd.prog 34 #[.int .i64 n, .slice ad m c, .int .i64 a] w fun e w' => ∃ (a' : Option Addr) (c' : Nat), e = .returned (.tuple #[.slice a' 0 c', .iface 23 (.int .i64 x)]) ∧ Below w.heap.size w w'
  far_ok : ∀ {w : World} {ad : Option Addr} {m c n a : Nat} {f : Nat → Int × Int}, EgAt w ad m f → m ≤ c → c ≤ maxLen → Valid (n : Nat) m f → a < n → Calls Tryd.prog 34 #[.int .i64 (n : Nat), .slice ad m c, .int .i64 (a : Nat)] w fun e w' => ∃ (a' : Option Addr) (c' : Nat) (d : Nat → Int), e = .returned (.tuple #[.slice a' n c', .nilIface]) ∧ NumsAt w' a' n d ∧ (∀ i, i < n → Far (edges f m) a i (d i)) ∧ Below w.heap.size w w'
  short_no : ∀ {w : World} {ad : Option Addr} {m c : Nat} {f : Nat → Int × Int} (n a b x : Int), EgAt w ad m f → ShortNo n m f a b x → Calls Tryd.prog 29 #[.int .i64 n, .slice ad m c, .int .i64 a, .int .i64 b] w fun e w' => ∃ (a' : Option Addr) (c' : Nat), e = .returned (.tuple #[.slice a' 0 c', .iface 23 (.int .i64 x)]) ∧ Below w.heap.size w w'
  short_ok : ∀ {w : World} {ad : Option Addr} {m c n a b k : Nat} {f : Nat → Int × Int}, EgAt w ad m f → m ≤ c → c ≤ maxLen → Valid (n : Nat) m f → a < n → b < n → Dist (edges f m) b a k → Calls Tryd.prog 29 #[.int .i64 (n : Nat), .slice ad m c, .int .i64 (a : Nat), .int .i64 (b : Nat)] w fun e w' => ∃ (a' : Option Addr) (c' : Nat) (L : List Nat), e = .returned (.tuple #[.slice a' (k + 1) c', .nilIface]) ∧ Way (edges f m) b a k L ∧ IntsAt w' a' (k + 1) L ∧ k + 1 ≤ c' ∧ c' ≤ maxLen ∧ Below w.heap.size w w'

set_option maxRecDepth 100000 in
set_option maxHeartbeats 2000000 in
theorem path_bad (H : PathOk) (h0 : ErrType w) {ad : Option Addr} {m c : Nat} (n a b : Int) (k : Nat) (x : Int) (h : EgAt w ad m f) (hF : EFault n m f k x) (hx : x ≠ 0) :
    Calls Tryd.prog 6 #[.int .i64 n, .slice ad m c, .int .i64 a, .int .i64 b] w fun e w' => e = .returned (.bool true) ∧ Below w.heap.size w w' := by
  have HH : Hid (EgAt w ad m f) := h
  have HA : Hid PathOk := H
  have HF : Hid (EFault n m f k x ∧ x ≠ 0) := ⟨hF, hx⟩
  have tx : (x == 0) = false := by rw [beq_eq_false_iff_ne]; exact hx
  obtain ⟨p, hp⟩ : ∃ p : Bool, p = true ↔ (0 ≤ a ∧ a < n) := ⟨decide (0 ≤ a ∧ a < n), by simp⟩
  obtain ⟨q, hq⟩ : ∃ q : Bool, q = true ↔ (0 ≤ b ∧ b < n) := ⟨decide (0 ≤ b ∧ b < n), by simp⟩
  have hpa := fun W => node_any n a W p hp
  have hpb := fun W => node_any n b W q hq
  clear h H hF hx hp hq
  go_enter Tryd.func6, Tryd.ntmps6
  go_wp2_with fail
  refine (edfault_any HH.out n).mono ?_
  rintro e w1 ⟨k1, x1, rfl, hF1, hb1⟩
  obtain ⟨rfl, rfl⟩ := hF1.one HF.out.1
  have HB1 : Hid (Below w.heap.size w w1) := hb1
  clear hb1 hF1
  go_wp2_with fail
  refine (hpa w1).mono ?_
  rintro e w2 ⟨rfl, rfl⟩
  go_wp2_with fail
  refine (hpb w2).mono ?_
  rintro e w3 ⟨rfl, rfl⟩
  clear hpa hpb
  go_wp2_with fail
  refine (HA.out.far_no n a x1 (HH.out.below HB1.out) (Or.inl ⟨_, HF.out⟩)).mono ?_
  rintro e w4 ⟨a4, c4, rfl, hb4⟩
  have HB4 : Hid (Below w.heap.size w w4) := below_step HB1.out hb4
  clear hb4 HB1
  go_wp2_with fail
  refine (error_any (n := x1) ⟨Or.inr rfl⟩ (h0.below HB4.out)).mono ?_
  rintro e w5 ⟨rfl, hb5⟩
  have HB5 : Hid (Below w.heap.size w w5) := below_step HB4.out hb5
  clear hb5 HB4
  go_wp2_with fail
  refine (nums_same (nums_none w5 a4 (fun _ => 0)) (nums_none w5 none (fun _ => 0)) (by omega)).mono ?_
  rintro e w6 ⟨rfl, hb6⟩
  have HB6 : Hid (Below w.heap.size w w6) := below_step HB5.out hb6
  clear hb6 HB5
  go_wp2_with fail
  refine (HA.out.short_no n a b x1 (HH.out.below HB6.out) (Or.inl ⟨_, HF.out⟩)).mono ?_
  rintro e w7 ⟨a7, c7, rfl, hb7⟩
  have HB7 : Hid (Below w.heap.size w w7) := below_step HB6.out hb7
  clear hb7 HB6
  go_wp2_with fail
  refine (error_any (n := x1) ⟨Or.inr rfl⟩ (h0.below HB7.out)).mono ?_
  rintro e w8 ⟨rfl, hb8⟩
  have HB8 : Hid (Below w.heap.size w w8) := below_step HB7.out hb8
  clear hb8 HB7
  go_wp2_with fail
  refine (nums_same (nums_none w8 a7 (fun _ => 0)) (nums_none w8 none (fun _ => 0)) (by omega)).mono ?_
  rintro e w9 ⟨rfl, hb9⟩
  have HB9 : Hid (Below w.heap.size w w9) := below_step HB8.out hb9
  clear hb9 HB8
  go_wp2_with fail
  go_ret
  exact ⟨rfl, HB9.out⟩

set_option maxRecDepth 100000 in
set_option maxHeartbeats 2000000 in
theorem path_na (H : PathOk) (h0 : ErrType w) {ad : Option Addr} {m c : Nat} (n : Nat) (a b : Int) (h : EgAt w ad m f) (hv : Valid (n : Nat) m f) (hna : ¬ Node (n : Nat) a) :
    Calls Tryd.prog 6 #[.int .i64 (n : Nat), .slice ad m c, .int .i64 a, .int .i64 b] w fun e w' => e = .returned (.bool true) ∧ Below w.heap.size w w' := by
  have HH : Hid (EgAt w ad m f) := h
  have HA : Hid PathOk := H
  have HV : Hid (Valid (n : Nat) m f) := hv
  have HF : Hid (EFault (n : Nat) m f 0 0) := hv.fault
  have HNA : Hid (¬ Node (n : Nat) a) := hna
  obtain ⟨q, hq⟩ : ∃ q : Bool, q = true ↔ (0 ≤ b ∧ b < (n : Int)) := ⟨decide (0 ≤ b ∧ b < (n : Int)), by simp⟩
  have hpa := fun W => node_any (n : Nat) a W false ⟨fun z => absurd z (by decide), fun z => absurd z hna⟩
  have hpb := fun W => node_any (n : Nat) b W q hq
  clear h H hv hna hq
  go_enter Tryd.func6, Tryd.ntmps6
  go_wp2_with fail
  refine (edfault_any HH.out (n : Nat)).mono ?_
  rintro e w1 ⟨k1, x1, rfl, hF1, hb1⟩
  obtain ⟨rfl, rfl⟩ := hF1.one HF.out
  have HB1 : Hid (Below w.heap.size w w1) := hb1
  clear hb1 hF1
  go_wp2_with fail
  refine (hpa w1).mono ?_
  rintro e w2 ⟨rfl, rfl⟩
  go_wp2_with fail
  refine (hpb w2).mono ?_
  rintro e w3 ⟨rfl, rfl⟩
  clear hpa hpb
  go_wp2_with fail
  refine (HA.out.far_no (n : Nat) a 1 (HH.out.below HB1.out) (Or.inr ⟨HV.out, HNA.out, rfl⟩)).mono ?_
  rintro e w4 ⟨a4, c4, rfl, hb4⟩
  have HB4 : Hid (Below w.heap.size w w4) := below_step HB1.out hb4
  clear hb4 HB1
  go_wp2_with fail
  refine (error_any (n := 1) ⟨Or.inr rfl⟩ (h0.below HB4.out)).mono ?_
  rintro e w5 ⟨rfl, hb5⟩
  have HB5 : Hid (Below w.heap.size w w5) := below_step HB4.out hb5
  clear hb5 HB4
  go_wp2_with fail
  refine (nums_same (nums_none w5 a4 (fun _ => 0)) (nums_none w5 none (fun _ => 0)) (by omega)).mono ?_
  rintro e w6 ⟨rfl, hb6⟩
  have HB6 : Hid (Below w.heap.size w w6) := below_step HB5.out hb6
  clear hb6 HB5
  go_wp2_with fail
  refine (HA.out.short_no (n : Nat) a b 1 (HH.out.below HB6.out) (Or.inr (Or.inl ⟨HV.out, fun z => HNA.out z.1, rfl⟩))).mono ?_
  rintro e w7 ⟨a7, c7, rfl, hb7⟩
  have HB7 : Hid (Below w.heap.size w w7) := below_step HB6.out hb7
  clear hb7 HB6
  go_wp2_with fail
  refine (error_any (n := 1) ⟨Or.inr rfl⟩ (h0.below HB7.out)).mono ?_
  rintro e w8 ⟨rfl, hb8⟩
  have HB8 : Hid (Below w.heap.size w w8) := below_step HB7.out hb8
  clear hb8 HB7
  go_wp2_with fail
  refine (nums_same (nums_none w8 a7 (fun _ => 0)) (nums_none w8 none (fun _ => 0)) (by omega)).mono ?_
  rintro e w9 ⟨rfl, hb9⟩
  have HB9 : Hid (Below w.heap.size w w9) := below_step HB8.out hb9
  clear hb9 HB8
  go_wp2_with fail
  go_ret
  exact ⟨rfl, HB9.out⟩

set_option maxRecDepth 100000 in
set_option maxHeartbeats 2000000 in
theorem path_nb (H : PathOk) (h0 : ErrType w) {ad : Option Addr} {m c : Nat} (n a : Nat) (b : Int) (h : EgAt w ad m f) (hmc : m ≤ c) (hcm : c ≤ maxLen) (hv : Valid (n : Nat) m f) (haa : a < n) (hnb : ¬ Node (n : Nat) b) :
    Calls Tryd.prog 6 #[.int .i64 (n : Nat), .slice ad m c, .int .i64 (a : Nat), .int .i64 b] w fun e w' => e = .returned (.bool true) ∧ Below w.heap.size w w' := by
  have HH : Hid (EgAt w ad m f) := h
  have HA : Hid PathOk := H
  have HV : Hid (Valid (n : Nat) m f) := hv
  have HF : Hid (EFault (n : Nat) m f 0 0) := hv.fault
  have hmay : ∀ j, j < m → May n f j := by simpa using hv.2.2
  have hn0 : 0 < n := by have := hv.1; omega
  have hn60 : n ≤ 60 := by have := hv.1; omega
  have hm200 : m ≤ 200 := hv.2.1
  have HL : Hid ((edges f m).length = m ∧ Among n (edges f m) ∧ ∀ e ∈ edges f m, e.1 < e.2) := ⟨edges_len f m, edges_among hmay, fun e he => by
    obtain ⟨i, hi, rfl⟩ := List.mem_map.1 he
    have := (hmay i (List.mem_range.1 hi)).1
    unfold Sane at this
    show (f i).1.toNat < (f i).2.toNat
    omega⟩
  have HEd : Hid (∀ W, Below w.heap.size w W → EdgesAt W ad (edges f m)) := fun W hW => (HH.out.below hW).list hmay
  have HNB : Hid (¬ Node (n : Nat) b) := hnb
  have hpa := fun W => node_any (n : Nat) (a : Nat) W true ⟨fun _ => by omega, fun _ => rfl⟩
  have hpb := fun W => node_any (n : Nat) b W false ⟨fun z => absurd z (by decide), fun z => absurd z hnb⟩
  clear h H hv hnb hmay
  go_enter Tryd.func6, Tryd.ntmps6
  go_wp2_with fail
  refine (edfault_any HH.out (n : Nat)).mono ?_
  rintro e w1 ⟨k1, x1, rfl, hF1, hb1⟩
  obtain ⟨rfl, rfl⟩ := hF1.one HF.out
  have HB1 : Hid (Below w.heap.size w w1) := hb1
  clear hb1 hF1
  go_wp2_with fail
  refine (hpa w1).mono ?_
  rintro e w2 ⟨rfl, rfl⟩
  go_wp2_with fail
  refine (hpb w2).mono ?_
  rintro e w3 ⟨rfl, rfl⟩
  clear hpa hpb
  go_wp2_with fail
  refine (far_of (HEd.out _ HB1.out) HL.out.1 hm200 hn0 hn60 HL.out.2.1 (fun e he => Nat.ne_of_lt (HL.out.2.2 e he)) haa).mono ?_
  rintro e w4 ⟨k4, c4, d4, rfl, hb4, -, hc4, hd4⟩
  have HB4 : Hid (Below w.heap.size w w4) := below_step HB1.out hb4
  have HN4 : Hid (NumsAt w4 (some ⟨k4, 0, none⟩) n d4 ∧ ∀ i, Far (edges f m) a i (d4 i)) := ⟨fun i hi => ⟨k4, 0, rfl, by rw [Nat.zero_add]; exact hc4 i hi⟩, hd4⟩
  clear hb4 HB1 hc4 hd4
  go_wp2_with fail
  refine (HA.out.far_ok (HH.out.below HB4.out) hmc hcm HV.out haa).mono ?_
  rintro e w5 ⟨a5, c5, d5, rfl, hN5, hd5, hb5⟩
  have HB5 : Hid (Below w.heap.size w w5) := below_step HB4.out hb5
  have HN5 : Hid (NumsAt w5 a5 n d4 ∧ NumsAt w5 (some ⟨k4, 0, none⟩) n d4) := ⟨fun i hi => by
    obtain ⟨b, o, e, z⟩ := hN5 i hi
    rw [(hd5 i hi).one (HN4.out.2 i)] at z
    exact ⟨b, o, e, z⟩, HN4.out.1.below hb5⟩
  clear hb5 HB4 hN5 hd5 HN4
  go_wp2_with fail
  refine (error_any (n := 0) ⟨Or.inl ⟨rfl, rfl⟩⟩ (h0.below HB5.out)).mono ?_
  rintro e w6 ⟨rfl, hb6⟩
  have HB6' : Hid (Below w.heap.size w w6) := below_step HB5.out hb6
  have hns := nums_same (c := c5) (c' := c4) (HN5.out.1.below hb6) (HN5.out.2.below hb6) (by omega)
  clear hb6 HB5 HN5
  go_wp2_with fail
  refine hns.mono ?_
  rintro e w6b ⟨rfl, hb6b⟩
  have HB6 : Hid (Below w.heap.size w w6b) := below_step HB6'.out hb6b
  clear hb6b HB6' hns
  go_wp2_with fail
  refine (HA.out.short_no (n : Nat) (a : Nat) b 1 (HH.out.below HB6.out) (Or.inr (Or.inl ⟨HV.out, fun z => HNB.out z.2, rfl⟩))).mono ?_
  rintro e w7 ⟨a7, c7, rfl, hb7⟩
  have HB7 : Hid (Below w.heap.size w w7) := below_step HB6.out hb7
  clear hb7 HB6
  go_wp2_with fail
  refine (error_any (n := 1) ⟨Or.inr rfl⟩ (h0.below HB7.out)).mono ?_
  rintro e w8 ⟨rfl, hb8⟩
  have HB8 : Hid (Below w.heap.size w w8) := below_step HB7.out hb8
  clear hb8 HB7
  go_wp2_with fail
  refine (nums_same (nums_none w8 a7 (fun _ => 0)) (nums_none w8 none (fun _ => 0)) (by omega)).mono ?_
  rintro e w9 ⟨rfl, hb9⟩
  have HB9 : Hid (Below w.heap.size w w9) := below_step HB8.out hb9
  clear hb9 HB8
  go_wp2_with fail
  go_ret
  exact ⟨rfl, HB9.out⟩

set_option maxRecDepth 100000 in
set_option maxHeartbeats 2000000 in
theorem path_none (H : PathOk) (h0 : ErrType w) {ad : Option Addr} {m c : Nat} (n a b : Nat) (h : EgAt w ad m f) (hmc : m ≤ c) (hcm : c ≤ maxLen) (hv : Valid (n : Nat) m f) (haa : a < n) (hbb : b < n) (hno : ∀ k, ¬ Walk (edges f m) b a k) :
    Calls Tryd.prog 6 #[.int .i64 (n : Nat), .slice ad m c, .int .i64 (a : Nat), .int .i64 (b : Nat)] w fun e w' => e = .returned (.bool true) ∧ Below w.heap.size w w' := by
  have HH : Hid (EgAt w ad m f) := h
  have HA : Hid PathOk := H
  have HV : Hid (Valid (n : Nat) m f) := hv
  have HF : Hid (EFault (n : Nat) m f 0 0) := hv.fault
  have hmay : ∀ j, j < m → May n f j := by simpa using hv.2.2
  have hn0 : 0 < n := by have := hv.1; omega
  have hn60 : n ≤ 60 := by have := hv.1; omega
  have hm200 : m ≤ 200 := hv.2.1
  have HL : Hid ((edges f m).length = m ∧ Among n (edges f m) ∧ ∀ e ∈ edges f m, e.1 < e.2) := ⟨edges_len f m, edges_among hmay, fun e he => by
    obtain ⟨i, hi, rfl⟩ := List.mem_map.1 he
    have := (hmay i (List.mem_range.1 hi)).1
    unfold Sane at this
    show (f i).1.toNat < (f i).2.toNat
    omega⟩
  have HEd : Hid (∀ W, Below w.heap.size w W → EdgesAt W ad (edges f m)) := fun W hW => (HH.out.below hW).list hmay
  have HNo : Hid (∀ k, ¬ Walk (edges f m) b a k) := hno
  have hpa := fun W => node_any (n : Nat) (a : Nat) W true ⟨fun _ => by omega, fun _ => rfl⟩
  have hpb := fun W => node_any (n : Nat) (b : Nat) W true ⟨fun _ => by omega, fun _ => rfl⟩
  clear h H hv hno hmay
  go_enter Tryd.func6, Tryd.ntmps6
  go_wp2_with fail
  refine (edfault_any HH.out (n : Nat)).mono ?_
  rintro e w1 ⟨k1, x1, rfl, hF1, hb1⟩
  obtain ⟨rfl, rfl⟩ := hF1.one HF.out
  have HB1 : Hid (Below w.heap.size w w1) := hb1
  clear hb1 hF1
  go_wp2_with fail
  refine (hpa w1).mono ?_
  rintro e w2 ⟨rfl, rfl⟩
  go_wp2_with fail
  refine (hpb w2).mono ?_
  rintro e w3 ⟨rfl, rfl⟩
  clear hpa hpb
  go_wp2_with fail
  refine (far_of (HEd.out _ HB1.out) HL.out.1 hm200 hn0 hn60 HL.out.2.1 (fun e he => Nat.ne_of_lt (HL.out.2.2 e he)) haa).mono ?_
  rintro e w4 ⟨k4, c4, d4, rfl, hb4, -, hc4, hd4⟩
  have HB4 : Hid (Below w.heap.size w w4) := below_step HB1.out hb4
  have HN4 : Hid (NumsAt w4 (some ⟨k4, 0, none⟩) n d4 ∧ ∀ i, Far (edges f m) a i (d4 i)) := ⟨fun i hi => ⟨k4, 0, rfl, by rw [Nat.zero_add]; exact hc4 i hi⟩, hd4⟩
  clear hb4 HB1 hc4 hd4
  go_wp2_with fail
  refine (HA.out.far_ok (HH.out.below HB4.out) hmc hcm HV.out haa).mono ?_
  rintro e w5 ⟨a5, c5, d5, rfl, hN5, hd5, hb5⟩
  have HB5 : Hid (Below w.heap.size w w5) := below_step HB4.out hb5
  have HN5 : Hid (NumsAt w5 a5 n d4 ∧ NumsAt w5 (some ⟨k4, 0, none⟩) n d4) := ⟨fun i hi => by
    obtain ⟨b, o, e, z⟩ := hN5 i hi
    rw [(hd5 i hi).one (HN4.out.2 i)] at z
    exact ⟨b, o, e, z⟩, HN4.out.1.below hb5⟩
  clear hb5 HB4 hN5 hd5 HN4
  go_wp2_with fail
  refine (error_any (n := 0) ⟨Or.inl ⟨rfl, rfl⟩⟩ (h0.below HB5.out)).mono ?_
  rintro e w6 ⟨rfl, hb6⟩
  have HB6' : Hid (Below w.heap.size w w6) := below_step HB5.out hb6
  have hns := nums_same (c := c5) (c' := c4) (HN5.out.1.below hb6) (HN5.out.2.below hb6) (by omega)
  clear hb6 HB5 HN5
  go_wp2_with fail
  refine hns.mono ?_
  rintro e w6b ⟨rfl, hb6b⟩
  have HB6 : Hid (Below w.heap.size w w6b) := below_step HB6'.out hb6b
  clear hb6b HB6' hns
  go_wp2_with fail
  refine (short_no (HEd.out _ HB6.out) HL.out.1 hm200 hn0 hn60 HL.out.2.1 HL.out.2.2 haa hbb HNo.out).mono ?_
  rintro e w6c ⟨rfl, hb6c⟩
  have HB6c : Hid (Below w.heap.size w w6c) := below_step HB6.out hb6c
  clear hb6c HB6
  go_wp2_with fail
  refine (HA.out.short_no (n : Nat) (a : Nat) (b : Nat) 4 (HH.out.below HB6c.out) (Or.inr (Or.inr ⟨HV.out, ⟨by omega, by omega⟩, ⟨by omega, by omega⟩, by simpa using HNo.out, rfl⟩))).mono ?_
  rintro e w7 ⟨a7, c7, rfl, hb7⟩
  have HB7 : Hid (Below w.heap.size w w7) := below_step HB6c.out hb7
  clear hb7 HB6c
  go_wp2_with fail
  refine (error_any (n := 4) ⟨Or.inr rfl⟩ (h0.below HB7.out)).mono ?_
  rintro e w8 ⟨rfl, hb8⟩
  have HB8 : Hid (Below w.heap.size w w8) := below_step HB7.out hb8
  clear hb8 HB7
  go_wp2_with fail
  refine (nums_same (nums_none w8 a7 (fun _ => 0)) (nums_none w8 none (fun _ => 0)) (by omega)).mono ?_
  rintro e w9 ⟨rfl, hb9⟩
  have HB9 : Hid (Below w.heap.size w w9) := below_step HB8.out hb9
  clear hb9 HB8
  go_wp2_with fail
  go_ret
  exact ⟨rfl, HB9.out⟩

set_option maxRecDepth 100000 in
set_option maxHeartbeats 2000000 in
theorem path_way (H : PathOk) (h0 : ErrType w) {ad : Option Addr} {m c : Nat} (n a b k : Nat) (h : EgAt w ad m f) (hmc : m ≤ c) (hcm : c ≤ maxLen) (hv : Valid (n : Nat) m f) (haa : a < n) (hbb : b < n) (hd : Dist (edges f m) b a k) :
    Calls Tryd.prog 6 #[.int .i64 (n : Nat), .slice ad m c, .int .i64 (a : Nat), .int .i64 (b : Nat)] w fun e w' => e = .returned (.bool true) ∧ Below w.heap.size w w' := by
  have HH : Hid (EgAt w ad m f) := h
  have HA : Hid PathOk := H
  have HV : Hid (Valid (n : Nat) m f) := hv
  have HF : Hid (EFault (n : Nat) m f 0 0) := hv.fault
  have hmay : ∀ j, j < m → May n f j := by simpa using hv.2.2
  have hn0 : 0 < n := by have := hv.1; omega
  have hn60 : n ≤ 60 := by have := hv.1; omega
  have hm200 : m ≤ 200 := hv.2.1
  have HL : Hid ((edges f m).length = m ∧ Among n (edges f m) ∧ ∀ e ∈ edges f m, e.1 < e.2) := ⟨edges_len f m, edges_among hmay, fun e he => by
    obtain ⟨i, hi, rfl⟩ := List.mem_map.1 he
    have := (hmay i (List.mem_range.1 hi)).1
    unfold Sane at this
    show (f i).1.toNat < (f i).2.toNat
    omega⟩
  have HEd : Hid (∀ W, Below w.heap.size w W → EdgesAt W ad (edges f m)) := fun W hW => (HH.out.below hW).list hmay
  have HD : Hid (Dist (edges f m) b a k) := hd
  have hk60 : k < n := hd.lt (edges_among hmay) hbb
  have hpa := fun W => node_any (n : Nat) (a : Nat) W true ⟨fun _ => by omega, fun _ => rfl⟩
  have hpb := fun W => node_any (n : Nat) (b : Nat) W true ⟨fun _ => by omega, fun _ => rfl⟩
  clear h H hv hd hmay
  go_enter Tryd.func6, Tryd.ntmps6
  go_wp2_with fail
  refine (edfault_any HH.out (n : Nat)).mono ?_
  rintro e w1 ⟨k1, x1, rfl, hF1, hb1⟩
  obtain ⟨rfl, rfl⟩ := hF1.one HF.out
  have HB1 : Hid (Below w.heap.size w w1) := hb1
  clear hb1 hF1
  go_wp2_with fail
  refine (hpa w1).mono ?_
  rintro e w2 ⟨rfl, rfl⟩
  go_wp2_with fail
  refine (hpb w2).mono ?_
  rintro e w3 ⟨rfl, rfl⟩
  clear hpa hpb
  go_wp2_with fail
  refine (far_of (HEd.out _ HB1.out) HL.out.1 hm200 hn0 hn60 HL.out.2.1 (fun e he => Nat.ne_of_lt (HL.out.2.2 e he)) haa).mono ?_
  rintro e w4 ⟨k4, c4, d4, rfl, hb4, -, hc4, hd4⟩
  have HB4 : Hid (Below w.heap.size w w4) := below_step HB1.out hb4
  have HN4 : Hid (NumsAt w4 (some ⟨k4, 0, none⟩) n d4 ∧ ∀ i, Far (edges f m) a i (d4 i)) := ⟨fun i hi => ⟨k4, 0, rfl, by rw [Nat.zero_add]; exact hc4 i hi⟩, hd4⟩
  clear hb4 HB1 hc4 hd4
  go_wp2_with fail
  refine (HA.out.far_ok (HH.out.below HB4.out) hmc hcm HV.out haa).mono ?_
  rintro e w5 ⟨a5, c5, d5, rfl, hN5, hd5, hb5⟩
  have HB5 : Hid (Below w.heap.size w w5) := below_step HB4.out hb5
  have HN5 : Hid (NumsAt w5 a5 n d4 ∧ NumsAt w5 (some ⟨k4, 0, none⟩) n d4) := ⟨fun i hi => by
    obtain ⟨b, o, e, z⟩ := hN5 i hi
    rw [(hd5 i hi).one (HN4.out.2 i)] at z
    exact ⟨b, o, e, z⟩, HN4.out.1.below hb5⟩
  clear hb5 HB4 hN5 hd5 HN4
  go_wp2_with fail
  refine (error_any (n := 0) ⟨Or.inl ⟨rfl, rfl⟩⟩ (h0.below HB5.out)).mono ?_
  rintro e w6 ⟨rfl, hb6⟩
  have HB6' : Hid (Below w.heap.size w w6) := below_step HB5.out hb6
  have hns := nums_same (c := c5) (c' := c4) (HN5.out.1.below hb6) (HN5.out.2.below hb6) (by omega)
  clear hb6 HB5 HN5
  go_wp2_with fail
  refine hns.mono ?_
  rintro e w6b ⟨rfl, hb6b⟩
  have HB6 : Hid (Below w.heap.size w w6b) := below_step HB6'.out hb6b
  clear hb6b HB6' hns
  go_wp2_with fail
  refine (short_some (HEd.out _ HB6.out) HL.out.1 hm200 hn0 hn60 HL.out.2.1 HL.out.2.2 haa hbb HD.out).mono ?_
  rintro e w7 ⟨v7, L7, rfl, hw7, hown7, hb7⟩
  rw [hw7.len] at hown7
  obtain ⟨a7, c7, rfl, hI7⟩ := own_ints hown7 hw7.len
  have HB7 : Hid (Below w.heap.size w w7) := below_step HB6.out hb7
  have HI7 : Hid (IntsAt w7 a7 (k + 1) L7 ∧ Way (edges f m) b a k L7) := ⟨hI7, hw7⟩
  clear hb7 HB6 hw7 hown7 hI7
  go_wp2_with fail
  refine (HA.out.short_ok (HH.out.below HB7.out) hmc hcm HV.out haa hbb HD.out).mono ?_
  rintro e w8 ⟨a8, c8, L8, rfl, hw8, hI8, -, -, hb8⟩
  obtain rfl : L8 = L7 := hw8.one HI7.out.2
  have HB8 : Hid (Below w.heap.size w w8) := below_step HB7.out hb8
  have HI8 : Hid (IntsAt w8 a8 (k + 1) L8 ∧ IntsAt w8 a7 (k + 1) L8) := ⟨hI8, HI7.out.1.below hb8⟩
  clear hb8 HB7 hw8 hI8 HI7
  go_wp2_with fail
  refine (error_any (n := 0) ⟨Or.inl ⟨rfl, rfl⟩⟩ (h0.below HB8.out)).mono ?_
  rintro e w9 ⟨rfl, hb9⟩
  have HB9 : Hid (Below w.heap.size w w9) := below_step HB8.out hb9
  have hns := ints_same (c := c8) (c' := c7) (HI8.out.1.below hb9) (HI8.out.2.below hb9) (by omega)
  clear hb9 HB8 HI8
  go_wp2_with fail
  refine hns.mono ?_
  rintro e w10 ⟨rfl, hb10⟩
  have HB10 : Hid (Below w.heap.size w w10) := below_step HB9.out hb10
  clear hb10 HB9 hns
  go_wp2_with fail
  go_ret
  exact ⟨rfl, HB10.out⟩

theorem path_is (H : PathOk) (h0 : ErrType w) {ad : Option Addr} {m c : Nat} (h : EgAt w ad m f) (hmc : m ≤ c) (hcm : c ≤ maxLen) (n a b : Int) :
    Calls Tryd.prog 6 #[.int .i64 n, .slice ad m c, .int .i64 a, .int .i64 b] w fun e w' => e = .returned (.bool true) ∧ Below w.heap.size w w' := by
  rcases fault_or n m f with hv | ⟨k, x, hF, hx⟩
  · obtain ⟨nn, rfl⟩ := Int.eq_ofNat_of_zero_le (show 0 ≤ n by have := hv.1; omega)
    by_cases hna : Node (nn : Nat) a
    · obtain ⟨aa, rfl⟩ := Int.eq_ofNat_of_zero_le hna.1
      have haa : aa < nn := by have := hna.2; omega
      by_cases hnb : Node (nn : Nat) b
      · obtain ⟨bb, rfl⟩ := Int.eq_ofNat_of_zero_le hnb.1
        have hbb : bb < nn := by have := hnb.2; omega
        rcases Classical.em (∃ k, Walk (edges f m) bb aa k) with ⟨k, hk⟩ | hno
        · obtain ⟨j, hj⟩ := dist_some hk.conn
          exact path_way H h0 nn aa bb j h hmc hcm hv haa hbb hj
        · exact path_none H h0 nn aa bb h hmc hcm hv haa hbb fun k hk => hno ⟨k, hk⟩
      · exact path_nb H h0 nn aa b h hmc hcm hv haa hnb
    · exact path_na H h0 nn a b h hv hna
  · exact path_bad H h0 n a b k x h hF hx

end Go.Proofs.YtinflbkmemjgbabDoor.Pt
