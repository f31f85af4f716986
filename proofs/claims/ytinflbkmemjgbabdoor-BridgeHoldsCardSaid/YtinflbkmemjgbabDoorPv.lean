/-
  Far and Short of package path: they answer as is asked (PathOk).
-/
import Derived.Test.YtinflbkmemjgbabDoorPs
namespace Go.Proofs.YtinflbkmemjgbabDoor.Pt
open Go.RowKit Go.Deep Go.Proofs.YtinflbkmemjgbabDoor.Br
open Go.RowKit (Below)
set_option linter.unusedVariables false

variable {w w' : World} {f : Nat → Int × Int}

theorem one_at (w : World) (a : Int) : NumsAt (w.alloc (.cells #[.int .i64 a] 3)) (some ⟨w.heap.size, 0, none⟩) 1 (fun _ => a) := fun i hi => by
  obtain rfl : i = 0 := by omega
  exact ⟨_, 0, rfl, by simp⟩

theorem two_at (w : World) (a b : Int) : NumsAt (w.alloc (.cells #[.int .i64 a, .int .i64 b] 3)) (some ⟨w.heap.size, 0, none⟩) 2 (fun i => if i = 0 then a else b) := fun i hi => by
  match i, hi with
  | 0, _ => exact ⟨_, 0, rfl, by simp⟩
  | 1, _ => exact ⟨_, 0, rfl, by simp⟩

theorem NodesTold.no {n : Int} {q : Nat} {g : Nat → Int} {v : Value} (h : NodesTold n q g v) (hn : ∃ i, i < q ∧ ¬ Node n (g i)) : v = .iface 23 (.int .i64 1) := by
  rcases h with ⟨_, h⟩ | ⟨h, _⟩
  · exact h
  · obtain ⟨i, hi, hx⟩ := hn
    exact absurd (h i hi) hx

theorem NodesTold.yes {n : Int} {q : Nat} {g : Nat → Int} {v : Value} (h : NodesTold n q g v) (hn : ∀ i, i < q → Node n (g i)) : v = .nilIface := by
  rcases h with ⟨⟨i, hi, hx⟩, _⟩ | ⟨_, h⟩
  · exact absurd (hn i hi) hx
  · exact h

set_option maxRecDepth 100000 in
set_option maxHeartbeats 1000000 in
theorem far_tells {ad : Option Addr} {m c : Nat} (n a x : Int) (hc : Calls Tryd.prog 47 #[.int .i64 n, .slice ad m c, .slice (some ⟨w.heap.size, 0, none⟩) 1 1] (w.alloc (.cells #[.int .i64 a] 3)) fun e w' => e = .returned (.iface 23 (.int .i64 x)) ∧ Below (w.alloc (.cells #[.int .i64 a] 3)).heap.size (w.alloc (.cells #[.int .i64 a] 3)) w') :
    Calls Tryd.prog 34 #[.int .i64 n, .slice ad m c, .int .i64 a] w fun e w' => ∃ (a' : Option Addr) (c' : Nat), e = .returned (.tuple #[.slice a' 0 c', .iface 23 (.int .i64 x)]) ∧ Below w.heap.size w w' := by
  have hb0 := below_box w (.cells #[.int .i64 a] 3)
  go_enter Tryd.func34, Tryd.ntmps34
  go_wp2_with fail
  refine hc.mono ?_
  rintro e w1 ⟨rfl, hb1⟩
  clear hc
  go_wp2_with fail
  go_ret2
  exact ⟨none, 0, rfl, below_step hb0 hb1⟩

set_option maxRecDepth 100000 in
set_option maxHeartbeats 1000000 in
theorem short_tells {ad : Option Addr} {m c : Nat} (n a b x : Int) (hc : Calls Tryd.prog 47 #[.int .i64 n, .slice ad m c, .slice (some ⟨w.heap.size, 0, none⟩) 2 2] (w.alloc (.cells #[.int .i64 a, .int .i64 b] 3)) fun e w' => e = .returned (.iface 23 (.int .i64 x)) ∧ Below (w.alloc (.cells #[.int .i64 a, .int .i64 b] 3)).heap.size (w.alloc (.cells #[.int .i64 a, .int .i64 b] 3)) w') :
    Calls Tryd.prog 29 #[.int .i64 n, .slice ad m c, .int .i64 a, .int .i64 b] w fun e w' => ∃ (a' : Option Addr) (c' : Nat), e = .returned (.tuple #[.slice a' 0 c', .iface 23 (.int .i64 x)]) ∧ Below w.heap.size w w' := by
  have hb0 := below_box w (.cells #[.int .i64 a, .int .i64 b] 3)
  go_enter Tryd.func29, Tryd.ntmps29
  go_wp2_with fail
  refine hc.mono ?_
  rintro e w1 ⟨rfl, hb1⟩
  clear hc
  go_wp2_with fail
  go_ret2
  exact ⟨none, 0, rfl, below_step hb0 hb1⟩

set_option maxRecDepth 100000 in
set_option maxHeartbeats 1000000 in
theorem far_goes {ad : Option Addr} {m c n a : Nat} (h : EgAt w ad m f) (hv : Valid (n : Nat) m f) (ha : a < n) : Calls Tryd.prog 34 #[.int .i64 (n : Nat), .slice ad m c, .int .i64 (a : Nat)] w fun e w' => ∃ (a' : Option Addr) (c' : Nat) (d : Nat → Int), e = .returned (.tuple #[.slice a' n c', .nilIface]) ∧ NumsAt w' a' n d ∧ (∀ i, i < n → Far (edges f m) a i (d i)) ∧ Below w.heap.size w w' := by
  have hb0 := below_box w (.cells #[.int .i64 (a : Nat)] 3)
  have hc := pcheck_ok (c := c) (c' := 1) (h.below hb0) (n : Nat) hv (one_at w (a : Nat)) (by omega)
  have HV : Hid (Valid (n : Nat) m f) := hv
  have HH : Hid (EgAt w ad m f) := h
  clear h hv
  go_enter Tryd.func34, Tryd.ntmps34
  go_wp2_with fail
  refine hc.mono ?_
  rintro e w1 ⟨v, rfl, hT, hb1⟩
  obtain rfl := hT.yes fun i hi => by unfold Node; omega
  have HB1 : Hid (Below w.heap.size w w1) := below_step hb0 hb1
  clear hc hT hb1 hb0
  go_wp2_with fail
  refine (neighbours_any (HH.out.below HB1.out) HV.out).mono ?_
  rintro e w2 ⟨kn, V, rfl, hN, hb2⟩
  have HN : Hid (NearAt w2 kn n V (nbl (edges f m))) := hN
  have HB2 : Hid (Below w.heap.size w w2) := below_step HB1.out hb2
  clear hN hb2
  go_wp2_with fail
  refine (far_walk HN.out (valid_fine HV.out) ha).mono ?_
  rintro e w3 ⟨k, d, rfl, hcell, hd, hb3⟩
  have HX : Hid ((∀ i, i < n → w3.cell? ⟨k, i, none⟩ = some (.int .i64 (d i))) ∧ (∀ i, Far (edges f m) a i (d i)) ∧ Below w.heap.size w w3) := ⟨hcell, hd, below_step HB2.out hb3⟩
  clear hcell hd hb3
  go_wp2_with fail
  go_ret2
  exact ⟨_, _, d, rfl, fun i hi => ⟨k, 0, rfl, by rw [Nat.zero_add]; exact HX.out.1 i hi⟩, fun i _ => HX.out.2.1 i, HX.out.2.2⟩

set_option maxRecDepth 100000 in
set_option maxHeartbeats 1000000 in
theorem short_told {ad : Option Addr} {m c n a b : Nat} (h : EgAt w ad m f) (hv : Valid (n : Nat) m f) (ha : a < n) (hb : b < n) (hno : ∀ k, ¬ Walk (edges f m) b a k) :
    Calls Tryd.prog 29 #[.int .i64 (n : Nat), .slice ad m c, .int .i64 (a : Nat), .int .i64 (b : Nat)] w fun e w' => ∃ (a' : Option Addr) (c' : Nat), e = .returned (.tuple #[.slice a' 0 c', .iface 23 (.int .i64 4)]) ∧ Below w.heap.size w w' := by
  have hb0 := below_box w (.cells #[.int .i64 (a : Nat), .int .i64 (b : Nat)] 3)
  have hc := pcheck_ok (c := c) (c' := 2) (h.below hb0) (n : Nat) hv (two_at w (a : Nat) (b : Nat)) (by omega)
  have HV : Hid (Valid (n : Nat) m f) := hv
  have HH : Hid (EgAt w ad m f) := h
  have HN0 : Hid (∀ k, ¬ Walk (edges f m) b a k) := hno
  clear h hv hno
  go_enter Tryd.func29, Tryd.ntmps29
  go_wp2_with fail
  refine hc.mono ?_
  rintro e w1 ⟨v, rfl, hT, hb1⟩
  obtain rfl := hT.yes fun i hi => by
    show Node _ (if i = 0 then _ else _)
    split
    · unfold Node; omega
    · unfold Node; omega
  have HB1 : Hid (Below w.heap.size w w1) := below_step hb0 hb1
  clear hc hT hb1 hb0
  go_wp2_with fail
  refine (neighbours_any (HH.out.below HB1.out) HV.out).mono ?_
  rintro e w2 ⟨kn, V, rfl, hN, hb2⟩
  have HN : Hid (NearAt w2 kn n V (nbl (edges f m))) := hN
  have HB2 : Hid (Below w.heap.size w w2) := below_step HB1.out hb2
  clear hN hb2
  go_wp2_with fail
  refine (steps_none HN.out (valid_fine HV.out) ha hb HN0.out).mono ?_
  rintro e w3 ⟨rfl, hb3⟩
  have HX : Hid (Below w.heap.size w w3) := below_step HB2.out hb3
  clear hb3
  go_wp2_with fail
  go_ret2
  exact ⟨_, _, rfl, HX.out⟩

set_option maxRecDepth 100000 in
set_option maxHeartbeats 1000000 in
theorem short_goes {ad : Option Addr} {m c n a b k : Nat} (h : EgAt w ad m f) (hv : Valid (n : Nat) m f) (ha : a < n) (hb : b < n) (hd : Dist (edges f m) b a k) :
    Calls Tryd.prog 29 #[.int .i64 (n : Nat), .slice ad m c, .int .i64 (a : Nat), .int .i64 (b : Nat)] w fun e w' => ∃ (a' : Option Addr) (c' : Nat) (L : List Nat), e = .returned (.tuple #[.slice a' (k + 1) c', .nilIface]) ∧ Way (edges f m) b a k L ∧ IntsAt w' a' (k + 1) L ∧ k + 1 ≤ c' ∧ c' ≤ maxLen ∧ Below w.heap.size w w' := by
  have hb0 := below_box w (.cells #[.int .i64 (a : Nat), .int .i64 (b : Nat)] 3)
  have hc := pcheck_ok (c := c) (c' := 2) (h.below hb0) (n : Nat) hv (two_at w (a : Nat) (b : Nat)) (by omega)
  have HV : Hid (Valid (n : Nat) m f) := hv
  have HH : Hid (EgAt w ad m f) := h
  have HD : Hid (Dist (edges f m) b a k) := hd
  clear h hv hd
  go_enter Tryd.func29, Tryd.ntmps29
  go_wp2_with fail
  refine hc.mono ?_
  rintro e w1 ⟨v, rfl, hT, hb1⟩
  obtain rfl := hT.yes fun i hi => by
    show Node _ (if i = 0 then _ else _)
    split
    · unfold Node; omega
    · unfold Node; omega
  have HB1 : Hid (Below w.heap.size w w1) := below_step hb0 hb1
  clear hc hT hb1 hb0
  go_wp2_with fail
  refine (neighbours_any (HH.out.below HB1.out) HV.out).mono ?_
  rintro e w2 ⟨kn, V, rfl, hN, hb2⟩
  have HN : Hid (NearAt w2 kn n V (nbl (edges f m))) := hN
  have HB2 : Hid (Below w.heap.size w w2) := below_step HB1.out hb2
  clear hN hb2
  go_wp2_with fail
  refine (steps_some HN.out (valid_fine HV.out) ha hb HD.out).mono ?_
  rintro e w3 ⟨a', c', L, rfl, q1, q2, q3, q4, hb3⟩
  have HX : Hid (Way (edges f m) b a k L ∧ IntsAt w3 a' (k + 1) L ∧ k + 1 ≤ c' ∧ c' ≤ maxLen ∧ Below w.heap.size w w3) := ⟨q1, q2, q3, q4, below_step HB2.out hb3⟩
  clear hb3 q1 q2 q3 q4
  go_wp2_with fail
  go_ret2
  exact ⟨_, _, L, rfl, HX.out⟩

/-- Package path answers as is asked of Far and Short. -/
theorem path_ok : PathOk where
  far_no := fun {w ad m c f} n a x h hF => by
    have hb0 := below_box w (.cells #[.int .i64 a] 3)
    rcases hF with ⟨k, h1, h2⟩ | ⟨hv, hna, rfl⟩
    · exact far_tells n a x (pcheck_no (h.below hb0) n k x h1 h2 _)
    · refine far_tells n a 1 ((pcheck_ok (h.below hb0) n hv (one_at w a) (by omega)).mono ?_)
      rintro e w1 ⟨v, rfl, hT, hb1⟩
      exact ⟨by rw [hT.no ⟨0, by omega, hna⟩], hb1⟩
  far_ok := fun {w ad m c n a f} h _ _ hv ha => far_goes h hv ha
  short_no := fun {w ad m c f} n a b x h hF => by
    have hb0 := below_box w (.cells #[.int .i64 a, .int .i64 b] 3)
    rcases hF with ⟨k, h1, h2⟩ | ⟨hv, hna, rfl⟩ | ⟨hv, ha, hb, hno, rfl⟩
    · exact short_tells n a b x (pcheck_no (h.below hb0) n k x h1 h2 _)
    · refine short_tells n a b 1 ((pcheck_ok (h.below hb0) n hv (two_at w a b) (by omega)).mono ?_)
      rintro e w1 ⟨v, rfl, hT, hb1⟩
      have hx : ∃ i, i < 2 ∧ ¬ Node n (if i = 0 then a else b) := by
        by_cases q : Node n a
        · exact ⟨1, by omega, fun z => hna ⟨q, z⟩⟩
        · exact ⟨0, by omega, q⟩
      exact ⟨by rw [hT.no hx], hb1⟩
    · obtain ⟨N, rfl⟩ := Int.eq_ofNat_of_zero_le (show 0 ≤ n by have := hv.1; omega)
      obtain ⟨A, rfl⟩ := Int.eq_ofNat_of_zero_le ha.1
      obtain ⟨B, rfl⟩ := Int.eq_ofNat_of_zero_le hb.1
      exact short_told h hv (by have := ha.2; omega) (by have := hb.2; omega) hno
  short_ok := fun {w ad m c n a b k f} h _ _ hv ha hb hd => short_goes h hv ha hb hd

end Go.Proofs.YtinflbkmemjgbabDoor.Pt
