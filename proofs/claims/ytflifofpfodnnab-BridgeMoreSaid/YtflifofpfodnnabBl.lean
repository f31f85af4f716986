/-
  BridgeMore, to its end.
-/
import Derived.Test.YtflifofpfodnnabBk
namespace Go.Proofs.Ytflifofpfodnnab.Br
open Go.RowKit Go.Deep
open Go.RowKit (Below)
set_option linter.unusedVariables false

variable {w w' : World} {f : Nat → Int × Int} {A B : List (Nat × Nat)} {p : Nat → Nat}

theorem parts_get {n i : Nat} (h : i < n) : (parts n p).getD i 0 = p i := by simp [parts, List.getD_eq_getElem?_getD, h]

theorem isOf_self {e : Nat × Nat} (h : e.1 < e.2) : IsOf e (e.1 : Nat) (e.2 : Nat) := ⟨by omega, by omega⟩
theorem isOf_one {e : Nat × Nat} {x y : Nat} (h : x < y) (hi : IsOf e (x : Nat) (y : Nat)) : e = (x, y) := by
  obtain ⟨h1, h2⟩ := hi
  exact Prod.ext (by show e.1 = x; omega) (by show e.2 = y; omega)

/-- Where an edge is found that is there, or that it is not there. -/
theorem place_in {a : Option Addr} {N c x y : Nat} {L : List (Nat × Nat)} (hE : EdgesAt w a L) (hn : L.length = N) (hn2 : N < 1000000) (hxy : x < y) (hin : (x, y) ∈ L) :
    Calls Try.prog 11 #[.slice a N c, .int .i64 (x : Nat), .int .i64 (y : Nat)] w fun e w' => (∃ j : Nat, e = .returned (.int .i64 (j : Nat))) ∧ Below w.heap.size w w' := by
  refine (place_ref hE hn hn2 x y).mono ?_
  rintro e w1 ⟨r, rfl, hb, ⟨j, _, rfl, _⟩ | ⟨rfl, hno⟩⟩
  · exact ⟨⟨j, rfl⟩, hb⟩
  · exact absurd (isOf_self (e := (x, y)) hxy) (hno _ hin)

theorem place_no {a : Option Addr} {N c x y : Nat} {L : List (Nat × Nat)} (hE : EdgesAt w a L) (hn : L.length = N) (hn2 : N < 1000000) (hxy : x < y) (hin : (x, y) ∉ L) :
    Calls Try.prog 11 #[.slice a N c, .int .i64 (x : Nat), .int .i64 (y : Nat)] w fun e w' => e = .returned (.int .i64 (-1)) ∧ Below w.heap.size w w' := by
  refine (place_ref hE hn hn2 x y).mono ?_
  rintro e w1 ⟨r, rfl, hb, ⟨j, hj, rfl, hi⟩ | ⟨rfl, hno⟩⟩
  · refine absurd ?_ hin
    rw [← isOf_one hxy hi, List.getD_eq_getElem?_getD, List.getElem?_eq_getElem (by omega)]
    exact List.getElem_mem _
  · exact ⟨rfl, hb⟩

set_option maxRecDepth 1000000 in
set_option maxHeartbeats 4000000 in
theorem more_go (H : PlainOk) {a : Option Addr} {m c n : Nat} (h : EgAt w a m f) (hmc : m ≤ c) (hcm : c ≤ maxLen) (x y : Nat) (hv : Valid (n : Nat) m f) (hm : m < 200) (hxy : x < y) (hyn : y < n) (hE : edges f m = A ++ B) (hup : Up (A ++ (x, y) :: B)) :
    Calls Try.prog 4 #[.int .i64 (n : Nat), .slice a m c, .int .i64 (x : Nat), .int .i64 (y : Nat)] w fun e w' => e = .returned (.bool true) ∧ Below w.heap.size w w' := by
  have hmay : ∀ j, j < m → May n f j := by simpa using hv.2.2
  have hlen : (A ++ B).length = m := by rw [← hE, edges_len]
  have hnin : (x, y) ∉ A ++ B := (List.nodup_cons.1 ((List.perm_middle (a := (x, y)) (l₁ := A) (l₂ := B)).nodup_iff.1 hup.nodup)).1
  obtain ⟨p, hp⟩ := rest_of (A ++ B)
  obtain ⟨q, hq⟩ := rest_of (A ++ (x, y) :: B)
  have hal : ∀ e ∈ A ++ (x, y) :: B, e.1 < e.2 ∧ e.2 < n := fun e he => by
    have hold : ∀ z ∈ A ++ B, z.1 < z.2 ∧ z.2 < n := fun z hz => by
      rw [← hE] at hz
      obtain ⟨i, hi, rfl⟩ := List.mem_map.1 hz
      have := (hmay i (List.mem_range.1 hi)).1
      unfold Sane at this
      show (f i).1.toNat < (f i).2.toNat ∧ (f i).2.toNat < n
      omega
    rcases List.mem_append.1 he with z | z
    · exact hold e (List.mem_append_left _ z)
    · rcases List.mem_cons.1 z with rfl | z
      · exact ⟨hxy, hyn⟩
      · exact hold e (List.mem_append_right _ z)
  have hAB : (A ++ (x, y) :: B).length = m + 1 := by rw [← hlen]; simp; omega
  have hn60 : n ≤ 60 := by have := hv.1; omega
  have HH : Hid (EgAt w a m f) := h
  have HV : Hid (Valid (n : Nat) m f) := hv
  have HA : Hid PlainOk := H
  have HP : Hid (Rest (A ++ B) p) := hp
  have HQ : Hid (Rest (A ++ (x, y) :: B) q) := hq
  have HE : Hid (edges f m = A ++ B ∧ (A ++ B).length = m ∧ Up (A ++ (x, y) :: B) ∧ (A ++ (x, y) :: B).length = m + 1 ∧ (x, y) ∉ A ++ B) := ⟨hE, hlen, hup, hAB, hnin⟩
  have HAl : Hid (∀ e ∈ A ++ (x, y) :: B, e.1 < e.2 ∧ e.2 < n) := hal
  have HEd : Hid (∀ W, Below w.heap.size w W → EdgesAt W a (A ++ B)) := fun W hW => by rw [← hE]; exact (HH.out.below hW).list hmay
  have HV2 : Hid (Valid (n : Nat) (m + 1) (fn (A ++ (x, y) :: B))) := by
    have := fn_may hup hal
    rw [hAB] at this
    exact ⟨hv.1, by omega, by simpa using this⟩
  have HF : Hid (edges (fn (A ++ (x, y) :: B)) (m + 1) = A ++ (x, y) :: B) := by have := fn_edges (A ++ (x, y) :: B); rw [hAB] at this; exact this
  clear hq hnin
  have hbuild : ∀ (x y : Int) (W : World), (Instr.build 38 #[(0, .int .i64 x), (1, .int .i64 y)]).run Try.prog W = .ok (.agg #[.int .i64 x, .int .i64 y]) W := fun x y W => run_build W 38 _ _ (by kernel_rfl)
  have hp1 := H.parts_ok (c := 1) (n := 3) (one_at w) (by decide) (by decide) one_valid (p := pOne) one_rest
  rw [one_parts] at hp1
  have hbA := cells_one w 1 2
  clear h hv H hmay hp hE hAB hlen hup hal
  go_enter Try.func4, Try.ntmps4
  go_wp2_with fail
  refine hp1.mono ?_
  rintro e w1 ⟨a1, c1, rfl, hI1, hb1⟩
  have hbB : Below w1.heap.size w1 (w1.alloc (.cells #[.int .i64 0, .int .i64 1, .int .i64 1] 3)) := (Below.refl _ _).alloc (Nat.le_refl _) _
  have hs := ints_same (c := c1) (c' := 3) (hI1.below hbB) (three_at w1) (by decide)
  have HB1 : Hid (Below w.heap.size w (w1.alloc (.cells #[.int .i64 0, .int .i64 1, .int .i64 1] 3))) := below_step (below_step hbA hb1) hbB
  clear hp1 hI1 hb1 hbB hbA
  go_wp2_with fail
  refine hs.mono ?_
  rintro e w2 ⟨rfl, hb2⟩
  have HB2 : Hid (Below w.heap.size w w2) := below_step HB1.out hb2
  have hbr := HA.out.bridges_ok (HH.out.below HB2.out) hmc hcm HV.out
  clear hs hb2 HB1
  go_wp2_with fail
  refine hbr.mono ?_
  rintro e w3 ⟨a3, c3, N3, L3, rfl, hL3, hN3, hE3, hb3⟩
  rw [HE.out.1] at hL3
  have HL3 : Hid (Brs (A ++ B) L3 ∧ L3.length = N3 ∧ EdgesAt w3 a3 L3) := ⟨hL3, hN3, hE3⟩
  have hN3m : N3 ≤ m := by
    obtain ⟨t, -, hL⟩ := hL3
    rw [← hN3, hL, ← HE.out.2.1]
    exact List.length_filter_le _ _
  clear hL3 hN3 hE3
  have HB3 : Hid (Below w.heap.size w w3) := below_step HB2.out hb3
  have hpa := HA.out.parts_ok (HH.out.below HB3.out) hmc hcm HV.out (by rw [HE.out.1]; exact HP.out)
  clear hbr hb3 HB2
  go_wp2_with fail
  refine hpa.mono ?_
  rintro e w4 ⟨a4, c4, rfl, hI4, hb4⟩
  have HI4 : Hid (IntsAt w4 a4 n (parts n p)) := hI4
  have HL4 : Hid (EdgesAt w4 a3 L3) := HL3.out.2.2.below hb4
  clear hI4
  have HB4 : Hid (Below w.heap.size w w4) := below_step HB3.out hb4
  clear hpa hb4 HB3
  have hpl := place_no (c := c) (HEd.out _ HB4.out) HE.out.2.1 (by omega) hxy HE.out.2.2.2.2
  have x0 : ¬ ((x : Nat) : Int) < 0 := by omega
  have y0 : ¬ ((y : Nat) : Int) ≤ ((x : Nat) : Int) := by omega
  have n0 : ¬ ((n : Nat) : Int) ≤ ((y : Nat) : Int) := by omega
  have m0 : ¬ (200 : Int) ≤ ((m : Nat) : Int) := by omega
  go_wp2_with fail
  refine hpl.mono ?_
  rintro e w5 ⟨rfl, hb5⟩
  have HB5 : Hid (Below w.heap.size w w5) := below_step HB4.out hb5
  have HI5 : Hid (IntsAt w5 a4 n (parts n p)) := HI4.out.below hb5
  have HL5 : Hid (EdgesAt w5 a3 L3) := HL4.out.below hb5
  have hput := put_any (c := c) (HEd.out _ HB5.out) HE.out.2.1 (by omega) (x : Nat) (y : Nat) (x := x) (y := y) (by omega) (by omega) HE.out.2.2.1
  clear hpl hb5 HB4 HI4 HL4
  go_wp2_with fail
  clear x0 y0 n0 m0
  refine hput.mono ?_
  rintro e w6 ⟨v6, rfl, hb6, hown6⟩
  obtain ⟨a6, c6, rfl, hE6, hle6, hmx6⟩ := own_edges hown6 HE.out.2.2.2.1
  have HB6 : Hid (Below w.heap.size w w6) := below_step HB5.out hb6
  have HI6 : Hid (IntsAt w6 a4 n (parts n p)) := HI5.out.below hb6
  have HL6 : Hid (EdgesAt w6 a3 L3) := HL5.out.below hb6
  have hg6 := fn_at hE6
  rw [HE.out.2.2.2.1] at hg6
  have HG6 : Hid (EgAt w6 a6 (m + 1) (fn (A ++ (x, y) :: B))) := hg6
  have hbr := HA.out.bridges_ok (c := c6) hg6 hle6 hmx6 HV2.out
  obtain ⟨m1, hm1⟩ : ∃ m1, m + 1 = m1 := ⟨_, rfl⟩
  rw [hm1] at hbr HG6 hle6 HV2 HF
  rw [hm1]
  clear hput hb6 hown6 hE6 hg6 HB5 HI5 HL5
  go_wp2_with fail
  refine hbr.mono ?_
  rintro e w7 ⟨a7, c7, N7, L7, rfl, hL7, hN7, hE7, hb7⟩
  rw [HF.out] at hL7
  have hN7m : N7 ≤ m1 := by
    obtain ⟨t, -, hL⟩ := hL7
    rw [← hN7, hL, ← hm1, ← HE.out.2.2.2.1]
    exact List.length_filter_le _ _
  have HL7 : Hid (Brs (A ++ (x, y) :: B) L7 ∧ L7.length = N7) := ⟨hL7, hN7⟩
  have HE7 : Hid (EdgesAt w7 a7 L7) := hE7
  have HB7 : Hid (Below w.heap.size w w7) := below_step HB6.out hb7
  have HI7 : Hid (IntsAt w7 a4 n (parts n p)) := HI6.out.below hb7
  have HK7 : Hid (EdgesAt w7 a3 L3) := HL6.out.below hb7
  have hpa := HA.out.parts_ok (c := c6) (p := q) (HG6.out.below hb7) hle6 hmx6 HV2.out (by rw [HF.out]; exact HQ.out)
  clear hbr hb7 hL7 hN7 hE7 HB6 HI6 HL6
  go_wp2_with fail
  refine hpa.mono ?_
  rintro e w8 ⟨a8, c8, rfl, hI8, hb8⟩
  have HB8 : Hid (Below w.heap.size w w8) := below_step HB7.out hb8
  have HI8 : Hid (IntsAt w8 a4 n (parts n p) ∧ IntsAt w8 a8 n (parts n q)) := ⟨HI7.out.below hb8, hI8⟩
  have HK8 : Hid (EdgesAt w8 a3 L3) := HK7.out.below hb8
  have HE8 : Hid (EdgesAt w8 a7 L7) := HE7.out.below hb8
  have hm1b : m1 ≤ 200 := by omega
  have hN3b : N3 ≤ 200 := by omega
  clear hpa hb8 hI8 HB7 HI7 HK7 HE7 hm1
  go_wp2_with fail
  go_loopw [21] (fun i wr => ∃ j : Nat, j ≤ N7 ∧ i = .int .i64 (j : Nat) ∧ Below w8.heap.size w8 wr) (fun i _ => N7 - (intOf i).toNat)
  case atStart => exact ⟨0, Nat.zero_le _, rfl, Below.refl _ _⟩
  case round =>
    obtain ⟨i, hi, rfl, hb⟩ := hrel
    have HB : Hid (Below w8.heap.size w8 wr) := hb
    by_cases hlt : i < N7
    · obtain ⟨b7, o7, rfl, -, -⟩ := HE8.out.cell i (by rw [HL7.out.2]; exact hlt)
      obtain ⟨⟨u, v⟩, hs⟩ : ∃ s, L7[i]? = some s := ⟨L7[i]'(by rw [HL7.out.2]; exact hlt), List.getElem?_eq_getElem (by rw [HL7.out.2]; exact hlt)⟩
      have HC7 : Hid (∀ W, Below w8.heap.size w8 W → (W.cell? ⟨b7, o7 + i * 2, none⟩ = some (.int .i64 (u : Nat)) ∧ W.cell? ⟨b7, o7 + i * 2 + 1, none⟩ = some (.int .i64 (v : Nat)))) := fun W hW => by
        obtain ⟨b', o', ea, q1, q2⟩ := (HE8.out.below hW).cell i (by rw [HL7.out.2]; exact hlt)
        simp only [Option.some.injEq, Addr.mk.injEq, and_true] at ea
        obtain ⟨rfl, rfl⟩ := ea
        rw [show L7.getD i (0, 0) = (u, v) by rw [List.getD_eq_getElem?_getD, hs]; rfl] at q1 q2
        exact ⟨q1, q2⟩
      have hmem : (u, v) ∈ L7 := List.mem_of_getElem? hs
      have hin7 : (u, v) ∈ A ++ (x, y) :: B := by
        obtain ⟨t, -, hL⟩ := HL7.out.1
        rw [hL] at hmem
        exact (List.mem_filter.1 hmem).1
      have huv : u < v := (HAl.out _ hin7).1
      have hwas := more_was HL3.out.1 HL7.out.1 HE.out.2.2.1 hmem
      have k12 := HC7.out _ HB.out
      have i0 : (0 : Int) ≤ (i : Int) := by omega
      have i1 : (i : Int) < (N7 : Int) := by omega
      clear hb hs hmem hin7
      by_cases hin : (u, v) ∈ L3
      · have hpj : Calls Try.prog 11 #[.slice a3 N3 c3, .int .i64 (u : Nat), .int .i64 (v : Nat)] wr.drew fun e w' => (∃ j : Nat, e = .returned (.int .i64 (j : Nat))) ∧ Below wr.drew.heap.size wr.drew w' := place_in (HK8.out.below (below_step HB.out (Below.refl _ _).drew)) HL3.out.2.1 (by omega) huv hin
        clear hin hwas huv
        go_wp2_with fail
        refine wp_region_noPanic ?_
        refine wp_region_held_drew (S := fun W => W.cell? ⟨b7, o7 + i * 2, none⟩ = some (.int .i64 (u : Nat)) ∧ W.cell? ⟨b7, o7 + i * 2 + 1, none⟩ = some (.int .i64 (v : Nat))) (by kernel_rfl) ?hss (fun hHeld => ?_)
        case hss => exact k12
        refine wpAnyH_take (i := 0) (oi := { dst := some 116, op := Go.Op.move (Go.Operand.tmp 12), type := 33, pos := _, after := #[], guard := none }) (v := ?vs0) rfl (by kernel_rfl) (by kernel_rfl) (by kernel_rfl) (fun _ _ _ h => h) (Or.inl ⟨by rfl, ?ys0⟩) (by assumption) ?_
        case ys0 =>
          intro w hSw
          (try dsimp only at hSw)
          go_simp
          (try with_reducible rfl)
        simp only [Act.put, List.setIfInBounds_toArray, List.set_cons_zero, List.set_cons_succ]
        refine wpAnyH_take (i := 1) (oi := { dst := some 117, op := Go.Op.move (Go.Operand.tmp 17), type := 33, pos := _, after := #[], guard := none }) (v := ?vs1) rfl (by kernel_rfl) (by kernel_rfl) (by kernel_rfl) (fun _ _ _ h => h) (Or.inl ⟨by rfl, ?ys1⟩) (by assumption) ?_
        case ys1 =>
          intro w hSw
          (try dsimp only at hSw)
          go_simp
          (try with_reducible rfl)
        simp only [Act.put, List.setIfInBounds_toArray, List.set_cons_zero, List.set_cons_succ]
        refine wpAnyH_take (i := 2) (oi := { dst := some 118, op := Go.Op.move (Go.Operand.tmp 21), type := 3, pos := _, after := #[], guard := none }) (v := ?vs2) rfl (by kernel_rfl) (by kernel_rfl) (by kernel_rfl) (fun _ _ _ h => h) (Or.inl ⟨by rfl, ?ys2⟩) (by assumption) ?_
        case ys2 =>
          intro w hSw
          (try dsimp only at hSw)
          go_simp
          (try with_reducible rfl)
        simp only [Act.put, List.setIfInBounds_toArray, List.set_cons_zero, List.set_cons_succ]
        refine wpAnyH_take (i := 3) (oi := { dst := some 119, op := Go.Op.indexAddr 33 (Go.Operand.tmp 117) (Go.Operand.tmp 118), type := 0, pos := _, after := #[{ on := 1, ground := Go.Ground.data }, { on := 2, ground := Go.Ground.data }], guard := none }) (v := ?vs3) rfl (by kernel_rfl) (by kernel_rfl) (by kernel_rfl) (fun _ _ _ h => h) (Or.inl ⟨by rfl, ?ys3⟩) (by assumption) ?_
        case ys3 =>
          intro w hSw
          (try dsimp only at hSw)
          go_simp
          (try with_reducible rfl)
        simp only [Act.put, List.setIfInBounds_toArray, List.set_cons_zero, List.set_cons_succ]
        refine wpAnyH_take (i := 4) (oi := { dst := some 120, op := Go.Op.fieldAddr 38 (Go.Operand.tmp 119) 0, type := 0, pos := _, after := #[{ on := 3, ground := Go.Ground.data }], guard := none }) (v := ?vs4) rfl (by kernel_rfl) (by kernel_rfl) (by kernel_rfl) (fun _ _ _ h => h) (Or.inl ⟨by rfl, ?ys4⟩) (by assumption) ?_
        case ys4 =>
          intro w hSw
          (try dsimp only at hSw)
          go_simp
          (try with_reducible rfl)
        simp only [Act.put, List.setIfInBounds_toArray, List.set_cons_zero, List.set_cons_succ]
        refine wpAnyH_take (i := 5) (oi := { dst := some 121, op := Go.Op.load 3 (Go.Operand.tmp 120), type := 3, pos := _, after := #[{ on := 4, ground := Go.Ground.data }], guard := none }) (v := ?vs5) rfl (by kernel_rfl) (by kernel_rfl) (by kernel_rfl) (fun _ _ _ h => h) (Or.inl ⟨by rfl, ?ys5⟩) (by assumption) ?_
        case ys5 =>
          intro w hSw
          (try dsimp only at hSw)
          go_simp
          (try with_reducible rfl)
        simp only [Act.put, List.setIfInBounds_toArray, List.set_cons_zero, List.set_cons_succ]
        refine wpAnyH_take (i := 6) (oi := { dst := some 122, op := Go.Op.move (Go.Operand.tmp 17), type := 33, pos := _, after := #[], guard := none }) (v := ?vs6) rfl (by kernel_rfl) (by kernel_rfl) (by kernel_rfl) (fun _ _ _ h => h) (Or.inl ⟨by rfl, ?ys6⟩) (by assumption) ?_
        case ys6 =>
          intro w hSw
          (try dsimp only at hSw)
          go_simp
          (try with_reducible rfl)
        simp only [Act.put, List.setIfInBounds_toArray, List.set_cons_zero, List.set_cons_succ]
        refine wpAnyH_take (i := 7) (oi := { dst := some 123, op := Go.Op.move (Go.Operand.tmp 21), type := 3, pos := _, after := #[], guard := none }) (v := ?vs7) rfl (by kernel_rfl) (by kernel_rfl) (by kernel_rfl) (fun _ _ _ h => h) (Or.inl ⟨by rfl, ?ys7⟩) (by assumption) ?_
        case ys7 =>
          intro w hSw
          (try dsimp only at hSw)
          go_simp
          (try with_reducible rfl)
        simp only [Act.put, List.setIfInBounds_toArray, List.set_cons_zero, List.set_cons_succ]
        refine wpAnyH_take (i := 8) (oi := { dst := some 124, op := Go.Op.indexAddr 33 (Go.Operand.tmp 122) (Go.Operand.tmp 123), type := 0, pos := _, after := #[{ on := 6, ground := Go.Ground.data }, { on := 7, ground := Go.Ground.data }], guard := none }) (v := ?vs8) rfl (by kernel_rfl) (by kernel_rfl) (by kernel_rfl) (fun _ _ _ h => h) (Or.inl ⟨by rfl, ?ys8⟩) (by assumption) ?_
        case ys8 =>
          intro w hSw
          (try dsimp only at hSw)
          go_simp
          (try with_reducible rfl)
        simp only [Act.put, List.setIfInBounds_toArray, List.set_cons_zero, List.set_cons_succ]
        refine wpAnyH_take (i := 9) (oi := { dst := some 125, op := Go.Op.fieldAddr 38 (Go.Operand.tmp 124) 1, type := 0, pos := _, after := #[{ on := 8, ground := Go.Ground.data }], guard := none }) (v := ?vs9) rfl (by kernel_rfl) (by kernel_rfl) (by kernel_rfl) (fun _ _ _ h => h) (Or.inl ⟨by rfl, ?ys9⟩) (by assumption) ?_
        case ys9 =>
          intro w hSw
          (try dsimp only at hSw)
          go_simp
          (try with_reducible rfl)
        simp only [Act.put, List.setIfInBounds_toArray, List.set_cons_zero, List.set_cons_succ]
        refine wpAnyH_take (i := 10) (oi := { dst := some 126, op := Go.Op.load 3 (Go.Operand.tmp 125), type := 3, pos := _, after := #[{ on := 9, ground := Go.Ground.data }], guard := none }) (v := ?vs10) rfl (by kernel_rfl) (by kernel_rfl) (by kernel_rfl) (fun _ _ _ h => h) (Or.inl ⟨by rfl, ?ys10⟩) (by assumption) ?_
        case ys10 =>
          intro w hSw
          (try dsimp only at hSw)
          go_simp
          (try with_reducible rfl)
        simp only [Act.put, List.setIfInBounds_toArray, List.set_cons_zero, List.set_cons_succ]
        refine wpAnyH_ready (rs := [11]) (by kernel_rfl) (by simp) ?_
        refine AllReadyH.cons rfl (fun K9 hK9 => ?_) AllReadyH.nil
        go_simp
        go_wp2_with (first | (go_at_call 11; refine hpj.mono ?_; rintro e wp ⟨⟨jj, rfl⟩, hbp⟩; have k9 : ¬ ((jj : Nat) : Int) < 0 := (by omega); have k8 : decide (((jj : Nat) : Int) < 0) = false := (by simp)))
        refine hK9.out _ _ ?ks11 (fun hHeld => ?_)
        case ks11 => exact HC7.out _ (below_step HB.out (below_step (Below.refl _ _).drew hbp))
        clear hK9
        refine wpAnyH_take (i := 12) (oi := { dst := some 128, op := Go.Op.binOp Go.BinOp.lss 3 (Go.Operand.tmp 127) (Go.Operand.const (Go.Value.int Go.IntKind.i64 0)) 3, type := 4, pos := _, after := #[{ on := 11, ground := Go.Ground.data }], guard := none }) (v := ?vs12) rfl (by kernel_rfl) (by kernel_rfl) (by kernel_rfl) (fun _ _ _ h => h) (Or.inl ⟨by rfl, ?ys12⟩) (by assumption) ?_
        case ys12 =>
          intro w hSw
          (try dsimp only at hSw)
          go_simp
          (try with_reducible rfl)
        simp only [Act.put, List.setIfInBounds_toArray, List.set_cons_zero, List.set_cons_succ]
        refine wpAnyH_take (i := 13) (oi := { dst := some 129, op := Go.Op.move (Go.Operand.tmp 128), type := 4, pos := _, after := #[{ on := 12, ground := Go.Ground.data }, { on := 11, ground := Go.Ground.chain }], guard := none }) (v := ?vs13) rfl (by kernel_rfl) (by kernel_rfl) (by kernel_rfl) (fun _ _ _ h => h) (Or.inl ⟨by rfl, ?ys13⟩) (by assumption) ?_
        case ys13 =>
          intro w hSw
          (try dsimp only at hSw)
          go_simp
          (try with_reducible rfl)
        simp only [Act.put, List.setIfInBounds_toArray, List.set_cons_zero, List.set_cons_succ]
        refine wpAnyH_take (i := 14) (oi := { dst := some 130, op := Go.Op.move (Go.Operand.tmp 17), type := 33, pos := _, after := #[{ on := 13, ground := Go.Ground.guard }], guard := some (13, true) }) (v := undef) rfl (by kernel_rfl) (by kernel_rfl) (by kernel_rfl) (fun _ _ _ h => h) (Or.inr ⟨by rfl, rfl⟩) (by assumption) ?_
        simp only [Act.put, List.setIfInBounds_toArray, List.set_cons_zero, List.set_cons_succ]
        refine wpAnyH_take (i := 15) (oi := { dst := some 131, op := Go.Op.move (Go.Operand.tmp 21), type := 3, pos := _, after := #[{ on := 13, ground := Go.Ground.guard }], guard := some (13, true) }) (v := undef) rfl (by kernel_rfl) (by kernel_rfl) (by kernel_rfl) (fun _ _ _ h => h) (Or.inr ⟨by rfl, rfl⟩) (by assumption) ?_
        simp only [Act.put, List.setIfInBounds_toArray, List.set_cons_zero, List.set_cons_succ]
        refine wpAnyH_take (i := 16) (oi := { dst := some 132, op := Go.Op.indexAddr 33 (Go.Operand.tmp 130) (Go.Operand.tmp 131), type := 0, pos := _, after := #[{ on := 14, ground := Go.Ground.data }, { on := 15, ground := Go.Ground.data }, { on := 13, ground := Go.Ground.guard }], guard := some (13, true) }) (v := undef) rfl (by kernel_rfl) (by kernel_rfl) (by kernel_rfl) (fun _ _ _ h => h) (Or.inr ⟨by rfl, rfl⟩) (by assumption) ?_
        simp only [Act.put, List.setIfInBounds_toArray, List.set_cons_zero, List.set_cons_succ]
        refine wpAnyH_take (i := 17) (oi := { dst := some 133, op := Go.Op.fieldAddr 38 (Go.Operand.tmp 132) 0, type := 0, pos := _, after := #[{ on := 16, ground := Go.Ground.data }, { on := 13, ground := Go.Ground.guard }], guard := some (13, true) }) (v := undef) rfl (by kernel_rfl) (by kernel_rfl) (by kernel_rfl) (fun _ _ _ h => h) (Or.inr ⟨by rfl, rfl⟩) (by assumption) ?_
        simp only [Act.put, List.setIfInBounds_toArray, List.set_cons_zero, List.set_cons_succ]
        refine wpAnyH_take (i := 18) (oi := { dst := some 134, op := Go.Op.load 3 (Go.Operand.tmp 133), type := 3, pos := _, after := #[{ on := 17, ground := Go.Ground.data }, { on := 13, ground := Go.Ground.guard }], guard := some (13, true) }) (v := undef) rfl (by kernel_rfl) (by kernel_rfl) (by kernel_rfl) (fun _ _ _ h => h) (Or.inr ⟨by rfl, rfl⟩) (by assumption) ?_
        simp only [Act.put, List.setIfInBounds_toArray, List.set_cons_zero, List.set_cons_succ]
        refine wpAnyH_take (i := 19) (oi := { dst := some 135, op := Go.Op.move (Go.Operand.tmp 2), type := 3, pos := _, after := #[{ on := 13, ground := Go.Ground.guard }], guard := some (13, true) }) (v := undef) rfl (by kernel_rfl) (by kernel_rfl) (by kernel_rfl) (fun _ _ _ h => h) (Or.inr ⟨by rfl, rfl⟩) (by assumption) ?_
        simp only [Act.put, List.setIfInBounds_toArray, List.set_cons_zero, List.set_cons_succ]
        refine wpAnyH_take (i := 20) (oi := { dst := some 136, op := Go.Op.binOp Go.BinOp.neq 3 (Go.Operand.tmp 134) (Go.Operand.tmp 135) 3, type := 4, pos := _, after := #[{ on := 18, ground := Go.Ground.data }, { on := 19, ground := Go.Ground.data }, { on := 13, ground := Go.Ground.guard }], guard := some (13, true) }) (v := undef) rfl (by kernel_rfl) (by kernel_rfl) (by kernel_rfl) (fun _ _ _ h => h) (Or.inr ⟨by rfl, rfl⟩) (by assumption) ?_
        simp only [Act.put, List.setIfInBounds_toArray, List.set_cons_zero, List.set_cons_succ]
        refine wpAnyH_take (i := 21) (oi := { dst := some 137, op := Go.Op.move (Go.Operand.tmp 136), type := 4, pos := _, after := #[{ on := 20, ground := Go.Ground.data }, { on := 13, ground := Go.Ground.chain }, { on := 13, ground := Go.Ground.guard }], guard := some (13, true) }) (v := undef) rfl (by kernel_rfl) (by kernel_rfl) (by kernel_rfl) (fun _ _ _ h => h) (Or.inr ⟨by rfl, rfl⟩) (by assumption) ?_
        simp only [Act.put, List.setIfInBounds_toArray, List.set_cons_zero, List.set_cons_succ]
        refine wpAnyH_take (i := 22) (oi := { dst := some 138, op := Go.Op.move (Go.Operand.tmp 17), type := 33, pos := _, after := #[{ on := 21, ground := Go.Ground.guard }], guard := some (21, false) }) (v := undef) rfl (by kernel_rfl) (by kernel_rfl) (by kernel_rfl) (fun _ _ _ h => h) (Or.inr ⟨by rfl, rfl⟩) (by assumption) ?_
        simp only [Act.put, List.setIfInBounds_toArray, List.set_cons_zero, List.set_cons_succ]
        refine wpAnyH_take (i := 23) (oi := { dst := some 139, op := Go.Op.move (Go.Operand.tmp 21), type := 3, pos := _, after := #[{ on := 21, ground := Go.Ground.guard }], guard := some (21, false) }) (v := undef) rfl (by kernel_rfl) (by kernel_rfl) (by kernel_rfl) (fun _ _ _ h => h) (Or.inr ⟨by rfl, rfl⟩) (by assumption) ?_
        simp only [Act.put, List.setIfInBounds_toArray, List.set_cons_zero, List.set_cons_succ]
        refine wpAnyH_take (i := 24) (oi := { dst := some 140, op := Go.Op.indexAddr 33 (Go.Operand.tmp 138) (Go.Operand.tmp 139), type := 0, pos := _, after := #[{ on := 22, ground := Go.Ground.data }, { on := 23, ground := Go.Ground.data }, { on := 21, ground := Go.Ground.guard }], guard := some (21, false) }) (v := undef) rfl (by kernel_rfl) (by kernel_rfl) (by kernel_rfl) (fun _ _ _ h => h) (Or.inr ⟨by rfl, rfl⟩) (by assumption) ?_
        simp only [Act.put, List.setIfInBounds_toArray, List.set_cons_zero, List.set_cons_succ]
        refine wpAnyH_take (i := 25) (oi := { dst := some 141, op := Go.Op.fieldAddr 38 (Go.Operand.tmp 140) 1, type := 0, pos := _, after := #[{ on := 24, ground := Go.Ground.data }, { on := 21, ground := Go.Ground.guard }], guard := some (21, false) }) (v := undef) rfl (by kernel_rfl) (by kernel_rfl) (by kernel_rfl) (fun _ _ _ h => h) (Or.inr ⟨by rfl, rfl⟩) (by assumption) ?_
        simp only [Act.put, List.setIfInBounds_toArray, List.set_cons_zero, List.set_cons_succ]
        refine wpAnyH_take (i := 26) (oi := { dst := some 142, op := Go.Op.load 3 (Go.Operand.tmp 141), type := 3, pos := _, after := #[{ on := 25, ground := Go.Ground.data }, { on := 21, ground := Go.Ground.guard }], guard := some (21, false) }) (v := undef) rfl (by kernel_rfl) (by kernel_rfl) (by kernel_rfl) (fun _ _ _ h => h) (Or.inr ⟨by rfl, rfl⟩) (by assumption) ?_
        simp only [Act.put, List.setIfInBounds_toArray, List.set_cons_zero, List.set_cons_succ]
        refine wpAnyH_take (i := 27) (oi := { dst := some 143, op := Go.Op.move (Go.Operand.tmp 3), type := 3, pos := _, after := #[{ on := 21, ground := Go.Ground.guard }], guard := some (21, false) }) (v := undef) rfl (by kernel_rfl) (by kernel_rfl) (by kernel_rfl) (fun _ _ _ h => h) (Or.inr ⟨by rfl, rfl⟩) (by assumption) ?_
        simp only [Act.put, List.setIfInBounds_toArray, List.set_cons_zero, List.set_cons_succ]
        refine wpAnyH_take (i := 28) (oi := { dst := some 144, op := Go.Op.binOp Go.BinOp.neq 3 (Go.Operand.tmp 142) (Go.Operand.tmp 143) 3, type := 4, pos := _, after := #[{ on := 26, ground := Go.Ground.data }, { on := 27, ground := Go.Ground.data }, { on := 21, ground := Go.Ground.guard }], guard := some (21, false) }) (v := undef) rfl (by kernel_rfl) (by kernel_rfl) (by kernel_rfl) (fun _ _ _ h => h) (Or.inr ⟨by rfl, rfl⟩) (by assumption) ?_
        simp only [Act.put, List.setIfInBounds_toArray, List.set_cons_zero, List.set_cons_succ]
        refine wpAnyH_take (i := 29) (oi := { dst := some 145, op := Go.Op.pick (Go.Operand.tmp 137) (Go.Operand.const (Go.Value.bool true)) (Go.Operand.tmp 144), type := 4, pos := _, after := #[{ on := 21, ground := Go.Ground.data }, { on := 28, ground := Go.Ground.data }, { on := 13, ground := Go.Ground.guard }], guard := some (13, true) }) (v := undef) rfl (by kernel_rfl) (by kernel_rfl) (by kernel_rfl) (fun _ _ _ h => h) (Or.inr ⟨by rfl, rfl⟩) (by assumption) ?_
        simp only [Act.put, List.setIfInBounds_toArray, List.set_cons_zero, List.set_cons_succ]
        refine wpAnyH_take (i := 30) (oi := { dst := some 146, op := Go.Op.pick (Go.Operand.tmp 129) (Go.Operand.tmp 145) (Go.Operand.const (Go.Value.bool false)), type := 4, pos := _, after := #[{ on := 13, ground := Go.Ground.data }, { on := 29, ground := Go.Ground.data }], guard := none }) (v := ?vs30) rfl (by kernel_rfl) (by kernel_rfl) (by kernel_rfl) (fun _ _ _ h => h) (Or.inl ⟨by rfl, ?ys30⟩) (by assumption) ?_
        case ys30 =>
          intro w hSw
          (try dsimp only at hSw)
          go_simp
          (try with_reducible rfl)
        simp only [Act.put, List.setIfInBounds_toArray, List.set_cons_zero, List.set_cons_succ]
        refine wpAnyH_done (by kernel_rfl) ?_ _
        refine NoPanic.normal ?_
        have HR : Hid (Below w8.heap.size w8 wp) := below_step HB.out (below_step (Below.refl _ _).drew hbp)
        clear hpj hbp
        go_wp2_with fail
        go_roundw
        case rel => exact ⟨i + 1, by omega, by go_num, HR.out⟩
        case measure => simp [intOf]; omega
      · have hpj : Calls Try.prog 11 #[.slice a3 N3 c3, .int .i64 (u : Nat), .int .i64 (v : Nat)] wr.drew fun e w' => e = .returned (.int .i64 (-1)) ∧ Below wr.drew.heap.size wr.drew w' := place_no (HK8.out.below (below_step HB.out (Below.refl _ _).drew)) HL3.out.2.1 (by omega) huv hin
        obtain ⟨rfl, rfl⟩ : u = x ∧ v = y := by
          rcases hwas with z | z
          · exact absurd z hin
          · exact ⟨congrArg Prod.fst z, congrArg Prod.snd z⟩
        clear hin hwas huv
        go_wp2_with fail
        go_region_held3 (fun W => W.cell? ⟨b7, o7 + i * 2, none⟩ = some (.int .i64 (u : Nat)) ∧ W.cell? ⟨b7, o7 + i * 2 + 1, none⟩ = some (.int .i64 (v : Nat))) (first | (go_keep; done) | exact k12 | exact HC7.out _ (below_step HB.out (below_step (Below.refl _ _).drew hbp)))
          (first | (go_at_call 11; refine hpj.mono ?_; rintro e wp ⟨rfl, hbp⟩))
        have HR : Hid (Below w8.heap.size w8 wp) := below_step HB.out (below_step (Below.refl _ _).drew hbp)
        clear hpj hbp
        go_wp2_with fail
        go_roundw
        case rel => exact ⟨i + 1, by omega, by go_num, HR.out⟩
        case measure => simp [intOf]; omega
    · obtain rfl : i = N7 := by omega
      obtain ⟨Wo, rfl⟩ : ∃ W : World, W = wr := ⟨_, rfl⟩
      have HBx : Hid (Below w.heap.size w Wo) := below_step HB8.out HB.out
      have HIx : Hid (IntsAt Wo a4 n (parts n p) ∧ IntsAt Wo a8 n (parts n q)) := ⟨HI8.out.1.below HB.out, HI8.out.2.below HB.out⟩
      have hEx := HE8.out.below HB.out
      have hnew := more_is HL7.out.1 HE.out.2.2.1 HP.out
      have hqq := (more_rest HP.out HQ.out).1
      have hrest := (more_rest HP.out HQ.out).2
      have HRest : Hid (∀ i, q i ≤ p i ∧ q i = q (p i)) := hrest
      have HPle : Hid (∀ i, p i ≤ i) := HP.out.le
      obtain ⟨P1, hP1⟩ : ∃ P1, p x = P1 := ⟨_, rfl⟩
      obtain ⟨P2, hP2⟩ : ∃ P2, p y = P2 := ⟨_, rfl⟩
      obtain ⟨Q1, hQ1⟩ : ∃ Q1, q x = Q1 := ⟨_, rfl⟩
      have hnew' : (x, y) ∈ L7 ↔ P1 ≠ P2 := by rw [← hP1, ← hP2]; exact hnew
      have HCx : Hid (∀ W, Below Wo.heap.size Wo W → ∃ b4 o4 b8 o8, a4 = some ⟨b4, o4, none⟩ ∧ a8 = some ⟨b8, o8, none⟩ ∧ W.cell? ⟨b4, o4 + x, none⟩ = some (.int .i64 (P1 : Nat)) ∧ W.cell? ⟨b4, o4 + y, none⟩ = some (.int .i64 (P2 : Nat)) ∧ W.cell? ⟨b8, o8 + x, none⟩ = some (.int .i64 (Q1 : Nat)) ∧ W.cell? ⟨b8, o8 + y, none⟩ = some (.int .i64 (Q1 : Nat))) := fun W hW => by
        obtain ⟨b4, o4, e4, c4x⟩ := (HIx.out.1.below hW).cell x (by omega)
        obtain ⟨b4', o4', e4', c4y⟩ := (HIx.out.1.below hW).cell y (by omega)
        obtain ⟨b8, o8, e8, c8x⟩ := (HIx.out.2.below hW).cell x (by omega)
        obtain ⟨b8', o8', e8', c8y⟩ := (HIx.out.2.below hW).cell y (by omega)
        rw [e4] at e4'
        rw [e8] at e8'
        simp only [Option.some.injEq, Addr.mk.injEq, and_true] at e4' e8'
        obtain ⟨rfl, rfl⟩ := e4'
        obtain ⟨rfl, rfl⟩ := e8'
        rw [parts_get (by omega)] at c4x c4y c8x c8y
        rw [hP1] at c4x
        rw [hP2] at c4y
        rw [hQ1] at c8x
        have hqy : q y = Q1 := by rw [← hQ1]; exact hqq.symm
        rw [hqy] at c8y
        exact ⟨b4, o4, b8, o8, e4, e8, c4x, c4y, c8x, c8y⟩
      have j0 : (0 : Int) ≤ ((x : Nat) : Int) := by omega
      have j1 : ((x : Nat) : Int) < ((n : Nat) : Int) := by omega
      have j2 : (0 : Int) ≤ ((y : Nat) : Int) := by omega
      have j3 : ((y : Nat) : Int) < ((n : Nat) : Int) := by omega
      have HLast : Hid (∀ W, Below Wo.heap.size Wo W → ∀ i, i < n → ∃ b4 o4 b8 o8 u v, a4 = some ⟨b4, o4, none⟩ ∧ a8 = some ⟨b8, o8, none⟩ ∧ W.cell? ⟨b4, o4 + i, none⟩ = some (.int .i64 (u : Nat)) ∧ W.cell? ⟨b8, o8 + i, none⟩ = some (.int .i64 (v : Nat)) ∧ W.cell? ⟨b8, o8 + u, none⟩ = some (.int .i64 (v : Nat)) ∧ v ≤ u ∧ u < n) := fun W hW i hi => by
        obtain ⟨b4, o4, e4, c4⟩ := (HIx.out.1.below hW).cell i hi
        obtain ⟨b8, o8, e8, c8⟩ := (HIx.out.2.below hW).cell i hi
        have hpn : p i < n := by have := HPle.out i; omega
        obtain ⟨b8', o8', e8', c9⟩ := (HIx.out.2.below hW).cell (p i) hpn
        rw [e8] at e8'
        simp only [Option.some.injEq, Addr.mk.injEq, and_true] at e8'
        obtain ⟨rfl, rfl⟩ := e8'
        rw [parts_get hi] at c4 c8
        rw [parts_get hpn, ← (HRest.out i).2] at c9
        exact ⟨b4, o4, b8, o8, _, _, e4, e8, c4, c8, c9, (HRest.out i).1, hpn⟩
      clear hb hnew hqq hrest hP1 hP2 hQ1
      by_cases hPP : P1 = P2
      · have hpl := place_no (c := c7) hEx HL7.out.2 (by omega) hxy (fun z => hnew'.1 z hPP)
        clear hEx hnew'
        subst hPP
        go_wp2_with fail
        refine hpl.mono ?_
        rintro e wp ⟨rfl, hbp⟩
        have HBp : Hid (Below Wo.heap.size Wo wp) := hbp
        obtain ⟨b4, o4, b8, o8, rfl, rfl, q1, q2, q3, q4⟩ := HCx.out _ hbp
        clear hpl hbp
        go_wp2_with fail
        go_quiet (fail)
        obtain ⟨W9, hW9⟩ : ∃ W9, wp.drewN nq = W9 := ⟨_, rfl⟩
        have HB9 : Hid (Below Wo.heap.size Wo W9) := by rw [← hW9]; exact below_step HBp.out (below_drewN rfl)
        rw [hW9]
        clear hW9 q1 q2 q3 q4 HBp
        go_wp2_with fail
        go_loopw [23] (fun i wi => ∃ j : Nat, j ≤ n ∧ i = .int .i64 (j : Nat) ∧ Below Wo.heap.size Wo wi) (fun i _ => n - (intOf i).toNat)
        case atStart => exact ⟨0, Nat.zero_le _, rfl, HB9.out⟩
        case round =>
          obtain ⟨i, hi, rfl, hb⟩ := hrel
          by_cases hlt : i < n
          · obtain ⟨b4', o4', b8', o8', u, v, e4, e8, c1, c2, c3, hvu, hun⟩ := HLast.out _ hb i hlt
            simp only [Option.some.injEq, Addr.mk.injEq, and_true] at e4 e8
            obtain ⟨rfl, rfl⟩ := e4
            obtain ⟨rfl, rfl⟩ := e8
            have HBi : Hid (Below Wo.heap.size Wo wr) := hb
            have s0 : (0 : Int) ≤ (i : Int) := by omega
            have s1 : (i : Int) < (n : Int) := by omega
            have s2 : (0 : Int) ≤ (u : Int) := by omega
            have s3 : (u : Int) < (n : Int) := by omega
            have s4 : ¬ (u : Int) < (v : Int) := by omega
            have s5 : ¬ u < v := by omega
            clear hb hvu hun
            go_wp2_with fail
            go_quiet (fail)
            go_wp2_with fail
            go_roundw
            case rel => exact ⟨i + 1, by omega, by go_num, below_step HBi.out (below_drewN rfl)⟩
            case measure => simp [intOf]; omega
          · obtain rfl : i = n := by omega
            have HBf : Hid (Below w.heap.size w wr) := below_step HBx.out hb
            clear hb
            go_wp2_with fail
            go_ret
            exact ⟨rfl, HBf.out⟩
      · have hpl := place_in (c := c7) hEx HL7.out.2 (by omega) hxy (hnew'.2 hPP)
        clear hEx hnew'
        have tp : ((P1 : Int) != (P2 : Int)) = true := by rw [bne_iff_ne]; omega
        have tpn : (P1 != P2) = true := by rw [bne_iff_ne]; exact hPP
        clear hPP
        go_wp2_with fail
        refine hpl.mono ?_
        rintro e wp ⟨⟨jj, rfl⟩, hbp⟩
        have HBp : Hid (Below Wo.heap.size Wo wp) := hbp
        obtain ⟨b4, o4, b8, o8, rfl, rfl, q1, q2, q3, q4⟩ := HCx.out _ hbp
        have jj0 : (0 : Int) ≤ (jj : Int) := by omega
        clear hpl hbp
        go_wp2_with fail
        go_quiet (fail)
        obtain ⟨W9, hW9⟩ : ∃ W9, wp.drewN nq = W9 := ⟨_, rfl⟩
        have HB9 : Hid (Below Wo.heap.size Wo W9) := by rw [← hW9]; exact below_step HBp.out (below_drewN rfl)
        rw [hW9]
        clear hW9 q1 q2 q3 q4 HBp
        go_wp2_with fail
        go_loopw [23] (fun i wi => ∃ j : Nat, j ≤ n ∧ i = .int .i64 (j : Nat) ∧ Below Wo.heap.size Wo wi) (fun i _ => n - (intOf i).toNat)
        case atStart => exact ⟨0, Nat.zero_le _, rfl, HB9.out⟩
        case round =>
          obtain ⟨i, hi, rfl, hb⟩ := hrel
          by_cases hlt : i < n
          · obtain ⟨b4', o4', b8', o8', u, v, e4, e8, c1, c2, c3, hvu, hun⟩ := HLast.out _ hb i hlt
            simp only [Option.some.injEq, Addr.mk.injEq, and_true] at e4 e8
            obtain ⟨rfl, rfl⟩ := e4
            obtain ⟨rfl, rfl⟩ := e8
            have HBi : Hid (Below Wo.heap.size Wo wr) := hb
            have s0 : (0 : Int) ≤ (i : Int) := by omega
            have s1 : (i : Int) < (n : Int) := by omega
            have s2 : (0 : Int) ≤ (u : Int) := by omega
            have s3 : (u : Int) < (n : Int) := by omega
            have s4 : ¬ (u : Int) < (v : Int) := by omega
            have s5 : ¬ u < v := by omega
            clear hb hvu hun
            go_wp2_with fail
            go_quiet (fail)
            go_wp2_with fail
            go_roundw
            case rel => exact ⟨i + 1, by omega, by go_num, below_step HBi.out (below_drewN rfl)⟩
            case measure => simp [intOf]; omega
          · obtain rfl : i = n := by omega
            have HBf : Hid (Below w.heap.size w wr) := below_step HBx.out hb
            clear hb
            go_wp2_with fail
            go_ret
            exact ⟨rfl, HBf.out⟩

theorem bridge_more (H : PlainOk) {a : Option Addr} {m c : Nat} (h : EgAt w a m f) (hmc : m ≤ c) (hcm : c ≤ maxLen) (n x y : Int) :
    Calls Try.prog 4 #[.int .i64 n, .slice a m c, .int .i64 x, .int .i64 y] w fun e w' => e = .returned (.bool true) ∧ Below w.heap.size w w' := by
  by_cases hv : Valid n m f
  · obtain ⟨nn, rfl⟩ := Int.eq_ofNat_of_zero_le (show 0 ≤ n by have := hv.1; omega)
    by_cases he : Early nn (edges f m) x y
    · exact more_early H h hmc hcm x y hv he
    · have h1 : 0 ≤ x ∧ x < y ∧ y < nn := by
        refine ⟨Int.not_lt.1 fun q => he (Or.inl q), Int.not_le.1 fun q => he (Or.inr (Or.inl q)), Int.not_le.1 fun q => he (Or.inr (Or.inr (Or.inl q)))⟩
      have hm : m < 200 := Nat.lt_of_not_le fun q => he (Or.inr (Or.inr (Or.inr (Or.inr (by rw [edges_len]; exact q)))))
      obtain ⟨xx, rfl⟩ := Int.eq_ofNat_of_zero_le h1.1
      obtain ⟨yy, rfl⟩ := Int.eq_ofNat_of_zero_le (show 0 ≤ y by omega)
      have hmay : ∀ j, j < m → May nn f j := by simpa using hv.2.2
      have hno : (xx, yy) ∉ edges f m := fun q => he (Or.inr (Or.inr (Or.inr (Or.inl ⟨_, q, isOf_self (e := (xx, yy)) (by show xx < yy; omega)⟩))))
      obtain ⟨A, B, hE, hup⟩ := up_put (edges_up hmay) hno
      exact more_go H h hmc hcm xx yy hv hm (by omega) (by omega) hE hup
  · exact more_no H h n x y hv

end Go.Proofs.Ytflifofpfodnnab.Br
