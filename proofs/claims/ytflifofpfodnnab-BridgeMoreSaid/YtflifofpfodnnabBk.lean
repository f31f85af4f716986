/-
  BridgeMore, where it ends early.
-/
import Derived.Test.YtflifofpfodnnabBj
namespace Go.Proofs.Ytflifofpfodnnab.Br
open Go.RowKit Go.Deep
open Go.RowKit (Below)
set_option linter.unusedVariables false

variable {w w' : World} {f : Nat → Int × Int}

theorem cells_one (w : World) (x y : Int) : Below w.heap.size w (w.alloc (.cells #[.int .i64 x, .int .i64 y] 38)) := (Below.refl _ _).alloc (Nat.le_refl _) _

set_option maxRecDepth 1000000 in
set_option maxHeartbeats 1000000 in
theorem more_no (H : PlainOk) {a : Option Addr} {m c : Nat} (h : EgAt w a m f) (n : Int) (x y : Int) (hv : ¬ Valid n m f) :
    Calls Try.prog 4 #[.int .i64 n, .slice a m c, .int .i64 x, .int .i64 y] w fun e w' => e = .returned (.bool true) ∧ Below w.heap.size w w' := by
  have HH : Hid (EgAt w a m f) := h
  have HV : Hid (¬ Valid n m f) := hv
  have HA : Hid PlainOk := H
  have hbuild : ∀ (x y : Int) (W : World), (Instr.build 38 #[(0, .int .i64 x), (1, .int .i64 y)]).run Try.prog W = .ok (.agg #[.int .i64 x, .int .i64 y]) W := fun x y W => run_build W 38 _ _ (by kernel_rfl)
  have hp1 := H.parts_ok (c := 1) (n := 3) (one_at w) (by decide) (by decide) one_valid (p := pOne) one_rest
  rw [one_parts] at hp1
  have hbA := cells_one w 1 2
  clear h hv H
  go_enter Try.func4, Try.ntmps4
  go_wp2_with fail
  refine hp1.mono ?_
  rintro e w1 ⟨a1, c1, rfl, hI1, hb1⟩
  have hbB : Below w1.heap.size w1 (w1.alloc (.cells #[.int .i64 0, .int .i64 1, .int .i64 1] 3)) := (Below.refl _ _).alloc (Nat.le_refl _) _
  have hs := ints_same (c := c1) (c' := 3) (hI1.below hbB) (three_at w1) (by decide)
  have HB1 : Hid (Below w.heap.size w (w1.alloc (.cells #[.int .i64 0, .int .i64 1, .int .i64 1] 3))) := below_step (below_step hbA hb1) hbB
  clear hp1 hI1 hb1 hbB hbA
  go_wp2_with fail
  refine hs.mono ?_
  rintro e w2 ⟨rfl, hb2⟩
  have HB2 : Hid (Below w.heap.size w w2) := below_step HB1.out hb2
  have hbr := HA.out.bridges_no (c := c) n (HH.out.below HB2.out) HV.out
  clear hs hb2 HB1
  go_wp2_with fail
  refine hbr.mono ?_
  rintro e w3 ⟨v3, t3, y3, rfl, hb3⟩
  have HB3 : Hid (Below w.heap.size w w3) := below_step HB2.out hb3
  have hpa := HA.out.parts_no (c := c) n (HH.out.below HB3.out) HV.out
  clear hbr hb3 HB2
  go_wp2_with fail
  refine hpa.mono ?_
  rintro e w4 ⟨v4, t4, y4, rfl, hb4⟩
  have HB4 : Hid (Below w.heap.size w w4) := below_step HB3.out hb4
  clear hpa hb4 HB3
  go_wp2_with fail
  go_quiet (fail)
  go_wp2_with fail
  go_ret
  exact ⟨rfl, below_step HB4.out (below_drewN rfl)⟩

/-- The statement ends early. -/
def Early (n : Nat) (E : List (Nat × Nat)) (x y : Int) : Prop := x < 0 ∨ y ≤ x ∨ (n : Int) ≤ y ∨ (∃ e ∈ E, IsOf e x y) ∨ 200 ≤ E.length

set_option maxRecDepth 1000000 in
set_option maxHeartbeats 1000000 in
theorem more_early (H : PlainOk) {a : Option Addr} {m c n : Nat} (h : EgAt w a m f) (hmc : m ≤ c) (hcm : c ≤ maxLen) (x y : Int) (hv : Valid (n : Nat) m f) (he : Early n (edges f m) x y) :
    Calls Try.prog 4 #[.int .i64 (n : Nat), .slice a m c, .int .i64 x, .int .i64 y] w fun e w' => e = .returned (.bool true) ∧ Below w.heap.size w w' := by
  have hmay : ∀ j, j < m → May n f j := by simpa using hv.2.2
  have hm200 : m ≤ 200 := hv.2.1
  obtain ⟨p, hp⟩ := rest_of (edges f m)
  have HH : Hid (EgAt w a m f) := h
  have HV : Hid (Valid (n : Nat) m f) := hv
  have HA : Hid PlainOk := H
  have HP : Hid (Rest (edges f m) p) := hp
  have HEd : Hid (∀ W, Below w.heap.size w W → EdgesAt W a (edges f m)) := fun W hW => (HH.out.below hW).list hmay
  have HE : Hid (Early n (edges f m) x y) := he
  have hbuild : ∀ (x y : Int) (W : World), (Instr.build 38 #[(0, .int .i64 x), (1, .int .i64 y)]).run Try.prog W = .ok (.agg #[.int .i64 x, .int .i64 y]) W := fun x y W => run_build W 38 _ _ (by kernel_rfl)
  have hp1 := H.parts_ok (c := 1) (n := 3) (one_at w) (by decide) (by decide) one_valid (p := pOne) one_rest
  rw [one_parts] at hp1
  have hbA := cells_one w 1 2
  clear h hv H hmay hp he
  go_enter Try.func4, Try.ntmps4
  go_wp2_with fail
  refine hp1.mono ?_
  rintro e w1 ⟨a1, c1, rfl, hI1, hb1⟩
  have hbB : Below w1.heap.size w1 (w1.alloc (.cells #[.int .i64 0, .int .i64 1, .int .i64 1] 3)) := (Below.refl _ _).alloc (Nat.le_refl _) _
  have hs := ints_same (c := c1) (c' := 3) (hI1.below hbB) (three_at w1) (by decide)
  have HB1 : Hid (Below w.heap.size w (w1.alloc (.cells #[.int .i64 0, .int .i64 1, .int .i64 1] 3))) := below_step (below_step hbA hb1) hbB
  clear hp1 hI1 hb1 hbB hbA
  go_wp2_with fail
  refine hs.mono ?_
  rintro e w2 ⟨rfl, hb2⟩
  have HB2 : Hid (Below w.heap.size w w2) := below_step HB1.out hb2
  have hbr := HA.out.bridges_ok (HH.out.below HB2.out) hmc hcm HV.out
  clear hs hb2 HB1
  go_wp2_with fail
  refine hbr.mono ?_
  rintro e w3 ⟨a3, c3, N3, L3, rfl, -, -, -, hb3⟩
  have HB3 : Hid (Below w.heap.size w w3) := below_step HB2.out hb3
  have hpa := HA.out.parts_ok (HH.out.below HB3.out) hmc hcm HV.out HP.out
  clear hbr hb3 HB2
  go_wp2_with fail
  refine hpa.mono ?_
  rintro e w4 ⟨a4, c4, rfl, -, hb4⟩
  have HB4 : Hid (Below w.heap.size w w4) := below_step HB3.out hb4
  clear hpa hb4 HB3
  by_cases h1 : x < 0
  · go_wp2_with fail
    go_quiet (fail)
    go_wp2_with fail
    go_ret
    exact ⟨rfl, below_step HB4.out (below_drewN rfl)⟩
  by_cases h2 : y ≤ x
  · go_wp2_with fail
    go_quiet (fail)
    go_wp2_with fail
    go_ret
    exact ⟨rfl, below_step HB4.out (below_drewN rfl)⟩
  by_cases h3 : (n : Int) ≤ y
  · go_wp2_with fail
    go_quiet (fail)
    go_wp2_with fail
    go_ret
    exact ⟨rfl, below_step HB4.out (below_drewN rfl)⟩
  have hpl := place_ref (c := c) (HEd.out _ HB4.out) (edges_len f m) (by omega) x y
  have HEE : Hid ((∃ e ∈ edges f m, IsOf e x y) ∨ 200 ≤ m) := by
    rcases HE.out with q | q | q | q | q
    · exact absurd q h1
    · exact absurd q h2
    · exact absurd q h3
    · exact Or.inl q
    · rw [edges_len] at q; exact Or.inr q
  go_wp2_with fail
  refine hpl.mono ?_
  rintro e w5 ⟨r, rfl, hb5, hr⟩
  have HB5 : Hid (Below w.heap.size w w5) := below_step HB4.out hb5
  clear hpl hb5 HB4
  rcases hr with ⟨j, hj, rfl, hof⟩ | ⟨rfl, hno⟩
  · have hj0 : (0 : Int) ≤ (j : Int) := by omega
    clear hof
    go_wp2_with fail
    go_quiet (fail)
    go_wp2_with fail
    go_ret
    exact ⟨rfl, below_step HB5.out (below_drewN rfl)⟩
  · have hm : 200 ≤ m := by
      rcases HEE.out with ⟨e, he, hi⟩ | q
      · exact absurd hi (hno e he)
      · exact q
    obtain rfl : m = 200 := by omega
    clear hno
    go_wp2_with fail
    go_quiet (fail)
    go_wp2_with fail
    go_ret
    exact ⟨rfl, below_step HB5.out (below_drewN rfl)⟩

end Go.Proofs.Ytflifofpfodnnab.Br
