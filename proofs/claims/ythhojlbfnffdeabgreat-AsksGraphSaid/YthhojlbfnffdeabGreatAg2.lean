/-
  AsksGraph, whatever it is called with.
-/
import Derived.Test.YthhojlbfnffdeabGreatAg1
namespace Go.Proofs.YthhojlbfnffdeabGreat.As
open Go.RowKit Go.Deep
open Go.RowKit (Below)
set_option linter.unusedVariables false

variable {w w' w0 : World} {f : Nat → Int × Int × Int}

set_option maxRecDepth 1000000 in
set_option maxHeartbeats 1000000 in
theorem graph_no {a : Option Addr} {m c : Nat} (h : EvAt w a m f) (hfit : Fits f m) (n : Int) (hv : ¬ Valid n m f) :
    Calls Tryz.prog 5 #[.int .i64 n, .slice a m c] w fun e w' => e = .returned (.bool true) ∧ Below w.heap.size w w' := by
  have HH : Hid (EvAt w a m f) := h
  have HV : Hid (¬ Valid n m f) := hv
  have HFit : Hid (Fits f m) := hfit
  have hbuild : ∀ (x y z : Int) (W : World), (Instr.build 55 #[(0, .int .i64 x), (1, .int .i64 y), (2, .int .i64 z)]).run Tryz.prog W = .ok (.agg #[.int .i64 x, .int .i64 y, .int .i64 z]) W := fun x y z W => run_build W 55 _ _ (by kernel_rfl)
  have hfour := four_at w
  have hbA : Below w.heap.size w (w.alloc (.cells #[.int .i64 1, .int .i64 0, .int .i64 1, .int .i64 3, .int .i64 1, .int .i64 0, .int .i64 2, .int .i64 1, .int .i64 0, .int .i64 3, .int .i64 0, .int .i64 1] 55)) := (Below.refl _ _).alloc (Nat.le_refl _) _
  have hA1 := ans_ok.ok (c := 4) 3 hfour four_valid
  clear h hv hfit hfour
  go_enter Tryz.func5, Tryz.ntmps5
  go_wp2_with fail
  refine hA1.mono ?_
  rintro e w1 ⟨v1, l1, rfl, hans, hown, hb1⟩
  obtain rfl := four_ans hans
  obtain ⟨a1, c1, rfl, hbo, -, -⟩ := own_bools (n := 2) hown rfl
  have hs := bools_same (c := c1) (c' := 2) (hbo.below ((Below.refl _ _).alloc (Nat.le_refl _) (.cells #[.bool true, .bool false] 4))) (bools_two w1 true false) (by decide)
  have HB1 : Hid (Below w.heap.size w (w1.alloc (.cells #[.bool true, .bool false] 4))) := (below_step hbA hb1).alloc (by have := (below_step hbA hb1).size; exact this) _
  clear hA1 hans hbo hb1 hbA hown
  go_wp2_with fail
  refine hs.mono ?_
  rintro e w2 ⟨rfl, hb2⟩
  have HB2 : Hid (Below w.heap.size w w2) := below_step HB1.out hb2
  have hA2 := ans_ok.no (c := c) n (HH.out.below HB2.out) HFit.out HV.out
  clear hs hb2 HB1
  go_wp2_with fail
  refine hA2.mono ?_
  rintro e w3 ⟨v3, t3, y3, rfl, hb3⟩
  have HB3 : Hid (Below w.heap.size w w3) := below_step HB2.out hb3
  clear hb3 HB2 hA2
  go_wp2_with fail
  go_ret
  exact ⟨rfl, HB3.out⟩

set_option maxRecDepth 1000000 in
set_option maxHeartbeats 2000000 in
theorem graph_ok {a : Option Addr} {m c : Nat} (h : EvAt w a m f) (n : Nat) (hv : Valid (n : Nat) m f) :
    Calls Tryz.prog 5 #[.int .i64 (n : Nat), .slice a m c] w fun e w' => e = .returned (.bool true) ∧ Below w.heap.size w w' := by
  have HH : Hid (EvAt w a m f) := h
  have HV : Hid (Valid (n : Nat) m f) := hv
  have HMay : Hid (∀ k, k < m → May n f k) := show ∀ k, k < m → May n f k by simpa using hv.2.2
  have h1 : 1 ≤ n := by have := hv.1; omega
  have h60 : n ≤ 60 := by have := hv.1; omega
  have hm120 : m ≤ 120 := hv.2.1
  have hbuild : ∀ (x y z : Int) (W : World), (Instr.build 55 #[(0, .int .i64 x), (1, .int .i64 y), (2, .int .i64 z)]).run Tryz.prog W = .ok (.agg #[.int .i64 x, .int .i64 y, .int .i64 z]) W := fun x y z W => run_build W 55 _ _ (by kernel_rfl)
  have hfour := four_at w
  have hbA : Below w.heap.size w (w.alloc (.cells #[.int .i64 1, .int .i64 0, .int .i64 1, .int .i64 3, .int .i64 1, .int .i64 0, .int .i64 2, .int .i64 1, .int .i64 0, .int .i64 3, .int .i64 0, .int .i64 1] 55)) := (Below.refl _ _).alloc (Nat.le_refl _) _
  have hA1 := ans_ok.ok (c := 4) 3 hfour four_valid
  clear h hv hfour
  go_enter Tryz.func5, Tryz.ntmps5
  go_wp2_with fail
  refine hA1.mono ?_
  rintro e w1 ⟨v1, l1, rfl, hans, hown, hb1⟩
  obtain rfl := four_ans hans
  obtain ⟨a1, c1, rfl, hbo, -, -⟩ := own_bools (n := 2) hown rfl
  have hs := bools_same (c := c1) (c' := 2) (hbo.below ((Below.refl _ _).alloc (Nat.le_refl _) (.cells #[.bool true, .bool false] 4))) (bools_two w1 true false) (by decide)
  have HB1 : Hid (Below w.heap.size w (w1.alloc (.cells #[.bool true, .bool false] 4))) := (below_step hbA hb1).alloc (by have := (below_step hbA hb1).size; exact this) _
  clear hA1 hans hbo hb1 hbA hown
  go_wp2_with fail
  refine hs.mono ?_
  rintro e w2 ⟨rfl, hb2⟩
  have HB2 : Hid (Below w.heap.size w w2) := below_step HB1.out hb2
  have hA2 := ans_ok.ok (c := c) (n : Nat) (HH.out.below HB2.out) HV.out
  clear hs hb2 HB1
  go_wp2_with fail
  refine hA2.mono ?_
  rintro e w3 ⟨v3, l3, rfl, hans, hown, hb3⟩
  obtain ⟨N, hN⟩ : ∃ N, l3.length = N := ⟨_, rfl⟩
  rw [hN] at hown
  obtain ⟨a3, c3, rfl, hbo, -, -⟩ := own_bools hown hN
  have hN120 : N ≤ 120 := by
    have q1 := hans.len
    have q2 := places_len f 3 m
    omega
  have HAns : Hid (Ans f m l3 ∧ l3.length = N) := ⟨hans, hN⟩
  have HBo : Hid (BoolsAt w3 a3 N l3) := hbo
  have HB3 : Hid (Below w.heap.size w w3) := below_step HB2.out hb3
  have hnew := Gr.gnew_any (w := w3) n h1 h60
  clear hans hown hbo hb3 HB2 hA2 hN
  go_wp2_with fail
  refine hnew.mono ?_
  rintro e w4 ⟨G, rfl, hb4, hG, hGn, hGf⟩
  have HE : Hid (EW w3 G f 0 w4) := ⟨[], _, _, ⟨hG, hb4, hGf⟩, fun e => by simp [here]⟩
  have HGn : Hid (G.n = n) := hGn
  clear hnew hG hGf hb4 hGn
  go_wp2_with fail
  go_loopw [11, 12, 13, 14, 15] (fun er k i _ _ wr => ∃ j : Nat, j ≤ m ∧ i = .int .i64 (j : Nat) ∧ k = .int .i64 (((places f 3 j).length : Nat) : Int) ∧ er = .nilIface ∧ EW w3 G f j wr) (fun _ _ i _ _ _ => m - (intOf i).toNat)
  case atStart => exact ⟨0, Nat.zero_le _, rfl, rfl, rfl, HE.out⟩
  case round =>
    clear HE
    obtain ⟨j, hj, rfl, rfl, rfl, hE⟩ := hrel
    have HE : Hid (EW w3 G f j wr) := hE
    obtain ⟨K, hK⟩ : ∃ K, (places f 3 j).length = K := ⟨_, rfl⟩
    have HK : Hid ((places f 3 j).length = K) := hK
    have hKj : K ≤ j := by rw [← hK]; exact places_len f 3 j
    rw [hK]
    clear hE hK
    by_cases hlt : j < m
    · obtain ⟨b, o, rfl, c1, c2, c3⟩ := HH.out.below (below_step HB3.out HE.out.below) j hlt
      have hmj := HMay.out j hlt
      have HM : Hid (∀ k, k < j + 1 → May G.n f k) := fun k hk => by rw [HGn.out]; exact HMay.out k (by omega)
      have HCells : Hid (∀ W, Below w3.heap.size w3 W → (W.cell? ⟨b, o + j * 3 + 1, none⟩ = some (.int .i64 (f j).2.1) ∧ W.cell? ⟨b, o + j * 3 + 2, none⟩ = some (.int .i64 (f j).2.2))) := fun W hW => by
        obtain ⟨b', o', e, q1, q2, q3⟩ := HH.out.below (below_step HB3.out hW) j hlt
        simp only [Option.some.injEq, Addr.mk.injEq, and_true] at e
        obtain ⟨rfl, rfl⟩ := e
        exact ⟨q2, q3⟩
      have HAdd : Hid ((f j).1 = 1 → ∀ W, Below wr.heap.size wr W → Calls Tryz.prog 7 #[.pointer (some ⟨G.g, 0, none⟩), .int .i64 (f j).2.1, .int .i64 (f j).2.2] W fun e w' => e = .returned .nilIface ∧ EW w3 G f (j + 1) w') := fun hq W hW => ew_add (HE.out.step hW) HM.out (by omega) hq
      have HDrop : Hid ((f j).1 = 2 → ∀ W, Below wr.heap.size wr W → Calls Tryz.prog 8 #[.pointer (some ⟨G.g, 0, none⟩), .int .i64 (f j).2.1, .int .i64 (f j).2.2] W fun e w' => e = .returned .nilIface ∧ EW w3 G f (j + 1) w') := fun hq W hW => ew_drop (HE.out.step hW) HM.out hq
      have HJ : Hid ((f j).1 = 3 → ∃ q : Bool, l3[K]? = some q ∧ ∀ W, Below wr.heap.size wr W → Calls Tryz.prog 9 #[.pointer (some ⟨G.g, 0, none⟩), .int .i64 (f j).2.1, .int .i64 (f j).2.2] W fun e w' => e = .returned (.tuple #[.bool q, .nilIface]) ∧ EW w3 G f j w') := fun hq => by
        obtain ⟨q, q1, q2⟩ := HAns.out.1.next hlt hq
        rw [HK.out] at q1
        exact ⟨q, q1, fun W hW => ew_joined (HE.out.step hW) (HM.out j (by omega)) q q2⟩
      have hwhat := hmj.what
      obtain ⟨q, hq⟩ : ∃ q, (f j).1 = q := ⟨_, rfl⟩
      obtain ⟨x, hx⟩ : ∃ x, (f j).2.1 = x := ⟨_, rfl⟩
      obtain ⟨y, hy⟩ : ∃ y, (f j).2.2 = y := ⟨_, rfl⟩
      rw [hq] at c1 hwhat
      rw [hx] at c2
      rw [hy] at c3
      rw [hx, hy] at HCells
      rw [hx, hy, hq] at HAdd HDrop HJ
      have HQ : Hid ((f j).1 = q) := hq
      have i0 : (0 : Int) ≤ (j : Int) := by omega
      have i1 : (j : Int) < (m : Int) := by omega
      have HPl : Hid ((places f 3 (j + 1)).length = if q = 3 then K + 1 else K) := show _ = _ by
        rw [places_succ, hq, List.length_append, HK.out]
        by_cases q3 : q = 3
        · simp [q3]
        · simp [q3]
      clear hmj hq hx hy
      rcases (by omega : q = 1 ∨ q = 2 ∨ q = 3) with rfl | rfl | rfl
      · have hadd := HAdd.out rfl
        have HR : Hid (∀ W, EW w3 G f (j + 1) W → (places f 3 (j + 1)).length = K) := fun _ _ => by have := HPl.out; simpa using this
        clear HAdd HDrop HJ HE hwhat
        have k12 : wr.cell? ⟨b, o + j * 3 + 1, none⟩ = some (.int .i64 x) ∧ wr.cell? ⟨b, o + j * 3 + 2, none⟩ = some (.int .i64 y) := ⟨c2, c3⟩
        clear c2 c3
        go_wp2_with fail
        go_region_held3 (fun V => V.cell? ⟨b, o + j * 3 + 1, none⟩ = some (.int .i64 x) ∧ V.cell? ⟨b, o + j * 3 + 2, none⟩ = some (.int .i64 y)) (first | (go_keep; done) | exact k12 | exact HCells.out _ hE5.below)
          (first
            | (go_at_call 7; refine (hadd wr (Below.refl _ _)).mono ?_; rintro e w5 ⟨rfl, hE5⟩)
            | (go_at_call 7; refine (hadd wr.drew (Below.refl _ _).drew).mono ?_; rintro e w5 ⟨rfl, hE5⟩))
        have HE5 : Hid (EW w3 G f (j + 1) w5) := hE5
        clear hadd hE5 k12
        go_wp2_with fail
        go_roundw
        case rel => exact ⟨j + 1, by omega, by go_num, by rw [HR.out _ HE5.out], rfl, HE5.out⟩
        case measure => simp [intOf]; omega
      · have hdrop := HDrop.out rfl
        have HR : Hid (∀ W, EW w3 G f (j + 1) W → (places f 3 (j + 1)).length = K) := fun _ _ => by have := HPl.out; simpa using this
        clear HAdd HDrop HJ HE hwhat
        have k12 : wr.cell? ⟨b, o + j * 3 + 1, none⟩ = some (.int .i64 x) ∧ wr.cell? ⟨b, o + j * 3 + 2, none⟩ = some (.int .i64 y) := ⟨c2, c3⟩
        clear c2 c3
        go_wp2_with fail
        go_region_held3 (fun V => V.cell? ⟨b, o + j * 3 + 1, none⟩ = some (.int .i64 x) ∧ V.cell? ⟨b, o + j * 3 + 2, none⟩ = some (.int .i64 y)) (first | (go_keep; done) | exact k12 | exact HCells.out _ hE5.below)
          (first
            | (go_at_call 8; refine (hdrop wr (Below.refl _ _)).mono ?_; rintro e w5 ⟨rfl, hE5⟩)
            | (go_at_call 8; refine (hdrop wr.drew (Below.refl _ _).drew).mono ?_; rintro e w5 ⟨rfl, hE5⟩))
        have HE5 : Hid (EW w3 G f (j + 1) w5) := hE5
        clear hdrop hE5 k12
        go_wp2_with fail
        go_roundw
        case rel => exact ⟨j + 1, by omega, by go_num, by rw [HR.out _ HE5.out], rfl, HE5.out⟩
        case measure => simp [intOf]; omega
      · obtain ⟨d, hd, hjoin⟩ := HJ.out rfl
        have hKN : K < N := by rw [← HAns.out.2]; exact (List.getElem?_eq_some_iff.1 hd).1
        have HR : Hid ((places f 3 (j + 1)).length = K + 1) := show _ = _ by have := HPl.out; simpa using this
        have hbc : ∃ b3 o3, a3 = some ⟨b3, o3, none⟩ ∧ w3.cell? ⟨b3, o3 + K, none⟩ = some (.bool d) := by
          obtain ⟨b3, o3, e, q⟩ := HBo.out.cell K hKN
          rw [List.getD_eq_getElem?_getD, hd] at q
          exact ⟨b3, o3, e, q⟩
        obtain ⟨b3, o3, rfl, hc3⟩ := hbc
        have HC3 : Hid (w3.cell? ⟨b3, o3 + K, none⟩ = some (.bool d)) := hc3
        clear HAdd HDrop HJ HE hwhat hd hc3
        have k12 : wr.cell? ⟨b, o + j * 3 + 1, none⟩ = some (.int .i64 x) ∧ wr.cell? ⟨b, o + j * 3 + 2, none⟩ = some (.int .i64 y) := ⟨c2, c3⟩
        clear c2 c3
        go_wp2_with fail
        go_region_held3 (fun V => V.cell? ⟨b, o + j * 3 + 1, none⟩ = some (.int .i64 x) ∧ V.cell? ⟨b, o + j * 3 + 2, none⟩ = some (.int .i64 y)) (first | (go_keep; done) | exact k12 | exact HCells.out _ hE5.below)
          (first
            | (go_at_call 9; refine (hjoin wr (Below.refl _ _)).mono ?_; rintro e w5 ⟨rfl, hE5⟩)
            | (go_at_call 9; refine (hjoin wr.drew (Below.refl _ _).drew).mono ?_; rintro e w5 ⟨rfl, hE5⟩))
        have hcd := cell_keep hE5.below HC3.out
        have HE5 : Hid (EW w3 G f (j + 1) w5) := ew_same hE5 (by rw [HQ.out]; decide) (by rw [HQ.out]; decide)
        have n1 : ¬ ((N : Int) ≤ (K : Int)) := by omega
        have i2 : (0 : Int) ≤ (K : Int) := by omega
        have i3 : (K : Int) < (N : Int) := by omega
        clear hjoin hE5 k12
        cases d
        · go_wp2_with fail
          go_roundw
          case rel => exact ⟨j + 1, by omega, by go_num, by rw [HR.out]; go_num, rfl, HE5.out⟩
          case measure => simp [intOf]; omega
        · go_wp2_with fail
          go_roundw
          case rel => exact ⟨j + 1, by omega, by go_num, by rw [HR.out]; go_num, rfl, HE5.out⟩
          case measure => simp [intOf]; omega
    · obtain rfl : j = m := by omega
      have HR : Hid (Below w.heap.size w wr) := below_step HB3.out HE.out.below
      have hKN : K = N := by rw [← HK.out, ← HAns.out.1.len]; exact HAns.out.2
      subst hKN
      go_wp2_with fail
      go_ret
      exact ⟨by simp, HR.out⟩

theorem asks_graph {a : Option Addr} {m c : Nat} (h : EvAt w a m f) (hfit : Fits f m) (n : Int) :
    Calls Tryz.prog 5 #[.int .i64 n, .slice a m c] w fun e w' => e = .returned (.bool true) ∧ Below w.heap.size w w' := by
  by_cases hv : Valid n m f
  · obtain ⟨k, rfl⟩ := Int.eq_ofNat_of_zero_le (show 0 ≤ n by have := hv.1; omega)
    exact graph_ok h k hv
  · exact graph_no h hfit n hv

end Go.Proofs.YthhojlbfnffdeabGreat.As
