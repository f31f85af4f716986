/-
  DeskKeeps returns true, whatever packages desk and disk that answer as they are to.
-/
import Derived.Test.YtcfemppdeidjmacGreatDoorYl
import Derived.Test.YtcfemppdeidjmacGreatDoorYe
import Derived.Test.YtcfemppdeidjmacGreatDoorYk
namespace Go.Proofs.YtcfemppdeidjmacGreatDoor.Ds
open Go.RowKit Go.Deep Go.Proofs.YtcfemppdeidjmacGreatDoor.Br
open Go.Proofs.YtcfemppdeidjmacGreatDoor.Dk (EvAt NumAt ScAt Stp StpAt Er Same)
open Go.Proofs.YtcfemppdeidjmacGreatDoor.Sk (SW Apart given)
open Go.RowKit (Below)
set_option linter.unusedVariables false

variable {w w' wr : World} {D : DFace} {B n t : Nat} {d k : Value} {A S : List (Nat × Nat)} {g : Option Nat} {X : Nat → Prop} {a : Option Addr} {m c : Nat} {f : Nat → Stp}

set_option maxRecDepth 100000 in
set_option maxHeartbeats 4000000 in
theorem dkeeps_no (O : DeskOk D) (h0 : ErrType w) (p : Int) (hp : p < 1 ∨ 60 < p) :
    Calls Tryz.prog 4 #[.int .i64 p, .slice a m c] w fun e w' => e = .returned (.bool true) ∧ Below w.heap.size w w' := by
  have HP : Hid (p < 1 ∨ 60 < p) := hp
  have HO : Hid (DeskOk D) := O
  clear hp O
  go_enter Tryz.func4, Tryz.ntmps4
  go_wp2_with fail
  refine (dw_new HO.out (Below.refl _ w)).mono ?_
  rintro e w1 ⟨d, rfl, hz, -⟩
  have HZ1 : Hid (SW (raw D d) w w.heap.size (fun _ => False) w1) := hz
  clear hz
  go_wp2_with fail
  refine (dw_format (n := 3) HO.out HZ1.out (by decide) (by decide)).mono ?_
  rintro e w2 ⟨rfl, hz, -⟩
  have HZ2 : Hid (SW (kept D d 3 [] 1) w w.heap.size (fun _ => False) w2) := hz
  clear hz HZ1
  go_wp2_with fail
  refine (dw_open HO.out HZ2.out (by decide)).mono ?_
  rintro e w3 ⟨k, rfl, hz, -⟩
  have hbl : Below w3.heap.size w3 (w3.alloc (.cells #[.int .i64 1, .int .i64 0, .int .i64 1, .int .i64 3, .int .i64 1, .int .i64 0] 56)) := (Below.refl _ _).alloc (Nat.le_refl _) _
  have hap := sw_since (P := on D d 3 k [] [] 1 none) HO.out.on_k HO.out.on_o hz hbl
  have hev := fact_at w3
  have hX : (fun b => False ∨ (w3.heap.size ≤ b ∧ b < (w3.alloc (.cells #[.int .i64 1, .int .i64 0, .int .i64 1, .int .i64 3, .int .i64 1, .int .i64 0] 56)).heap.size)) w3.heap.size := Or.inr ⟨Nat.le_refl _, by simp⟩
  obtain ⟨W4, hW4⟩ : ∃ W4, w3.alloc (.cells #[.int .i64 1, .int .i64 0, .int .i64 1, .int .i64 3, .int .i64 1, .int .i64 0] 56) = W4 := ⟨_, rfl⟩
  obtain ⟨E4, hE4⟩ : ∃ E4, w3.heap.size = E4 := ⟨_, rfl⟩
  rw [hW4] at hbl hap hev hX
  rw [hE4] at hap hev hX
  obtain ⟨X4, hX4⟩ : ∃ X4 : Nat → Prop, (fun b => False ∨ (E4 ≤ b ∧ b < W4.heap.size)) = X4 := ⟨_, rfl⟩
  have hX2 : X4 E4 := by rw [← hX4]; exact hX
  rw [hX4] at hap
  have HZ4 : Hid (SW (on D d 3 k [] [] 1 none) w w.heap.size X4 W4 ∧ EvAt W4 (some ⟨E4, 0, none⟩) 2 fact2 ∧ X4 E4) := ⟨hap, hev, hX2⟩
  clear hz hbl hap hev hX hX2 hX4 HZ2
  go_wp2_with (first | rw [hW4, hE4] | rw [hW4])
  refine (dw_do HO.out HZ4.out.1 HZ4.out.2.1 (Nat.le_refl 2) (by decide) (fun _ b o e => Or.inr (by simp at e; rw [← e.1]; exact HZ4.out.2.2))).mono ?_
  rintro e w5 ⟨v, x, A1, out, oa, oc, rfl, her, hdo, hbl, -, -, hz, -⟩
  obtain ⟨rfl, rfl, rfl⟩ := fact_only hdo
  obtain rfl := Dk.Er.nil her
  have hb6 : Below w5.heap.size w5 (w5.alloc (.cells #[.bool true] 4)) := (Below.refl _ _).alloc (Nat.le_refl _) _
  have HZ6 : Hid (SW (on D d 3 k [(0, 1)] [] 1 none) w w.heap.size X4 (w5.alloc (.cells #[.bool true] 4)) ∧ BlAt (w5.alloc (.cells #[.bool true] 4)) oa [true] ∧ BlAt (w5.alloc (.cells #[.bool true] 4)) (some ⟨w5.heap.size, 0, none⟩) [true]) := ⟨SW.step (P := on D d 3 k [(0, 1)] [] 1 none) HO.out.on_k HO.out.on_o hz hb6, hbl.below hb6, yes_at w5⟩
  clear her hdo hbl hz hb6 HZ4 hW4 hE4
  go_wp2_with fail
  refine (As.bools_same (bl_at HZ6.out.2.1 rfl) (bl_at HZ6.out.2.2 rfl) (by decide)).mono ?_
  rintro e w7 ⟨rfl, hb⟩
  obtain ⟨X7, hX7⟩ : ∃ X7, X4 = X7 := ⟨_, rfl⟩
  have HZ7 : Hid (SW (on D d 3 k [(0, 1)] [] 1 none) w w.heap.size X7 w7) := hX7 ▸ SW.step (P := on D d 3 k [(0, 1)] [] 1 none) HO.out.on_k HO.out.on_o HZ6.out.1 hb
  clear hb HZ6
  go_wp2_with fail
  refine (dw_save HO.out HZ7.out (by decide)).mono ?_
  rintro e w9 ⟨hor, -⟩
  replace hor := hor.resolve_right fun q => q.2.1 rfl
  obtain ⟨g', rfl, hz, hg⟩ := hor
  obtain rfl := hg rfl
  have HZ9 : Hid (SW (on D d 3 k [(0, 1)] [(0, 1)] 2 none) w w.heap.size X7 w9) := hz
  clear hz hg HZ7
  go_wp2_with fail
  refine (dw_again_bad HO.out HZ9.out p HP.out).mono ?_
  rintro e w10 ⟨rfl, hb⟩
  have HB : Hid (Below w.heap.size w w10) := hb
  clear hb
  by_cases h1 : p < 1
  · go_wp2_with fail
    go_ret
    exact ⟨rfl, HB.out⟩
  · have h2 : 60 < p := by have := HP.out; omega
    go_wp2_with fail
    go_ret
    exact ⟨rfl, HB.out⟩

set_option maxRecDepth 100000 in
set_option maxHeartbeats 64000000 in
theorem dkeeps_ok (O : DeskOk D) (h0 : ErrType w) (hs : ScAt w a m f) (hn1 : 1 ≤ n) (hn60 : n ≤ 60) :
    Calls Tryz.prog 4 #[.int .i64 (n : Nat), .slice a m c] w fun e w' => e = .returned (.bool true) ∧ Below w.heap.size w w' := by
  have HP : Hid (1 ≤ n ∧ n ≤ 60) := ⟨hn1, hn60⟩
  have HO : Hid (DeskOk D) := O
  have HH : Hid (ScAt w a m f) := hs
  clear hn1 hn60 O hs
  go_enter Tryz.func4, Tryz.ntmps4
  go_wp2_with fail
  refine (dw_new HO.out (Below.refl _ w)).mono ?_
  rintro e w1 ⟨d, rfl, hz, -⟩
  have HZ1 : Hid (SW (raw D d) w w.heap.size (fun _ => False) w1) := hz
  clear hz
  go_wp2_with fail
  refine (dw_format (n := 3) HO.out HZ1.out (by decide) (by decide)).mono ?_
  rintro e w2 ⟨rfl, hz, -⟩
  have HZ2 : Hid (SW (kept D d 3 [] 1) w w.heap.size (fun _ => False) w2) := hz
  clear hz HZ1
  go_wp2_with fail
  refine (dw_open HO.out HZ2.out (by decide)).mono ?_
  rintro e w3 ⟨k, rfl, hz, -⟩
  have hbl : Below w3.heap.size w3 (w3.alloc (.cells #[.int .i64 1, .int .i64 0, .int .i64 1, .int .i64 3, .int .i64 1, .int .i64 0] 56)) := (Below.refl _ _).alloc (Nat.le_refl _) _
  have hap := sw_since (P := on D d 3 k [] [] 1 none) HO.out.on_k HO.out.on_o hz hbl
  have hev := fact_at w3
  have hX : (fun b => False ∨ (w3.heap.size ≤ b ∧ b < (w3.alloc (.cells #[.int .i64 1, .int .i64 0, .int .i64 1, .int .i64 3, .int .i64 1, .int .i64 0] 56)).heap.size)) w3.heap.size := Or.inr ⟨Nat.le_refl _, by simp⟩
  obtain ⟨W4, hW4⟩ : ∃ W4, w3.alloc (.cells #[.int .i64 1, .int .i64 0, .int .i64 1, .int .i64 3, .int .i64 1, .int .i64 0] 56) = W4 := ⟨_, rfl⟩
  obtain ⟨E4, hE4⟩ : ∃ E4, w3.heap.size = E4 := ⟨_, rfl⟩
  rw [hW4] at hbl hap hev hX
  rw [hE4] at hap hev hX
  obtain ⟨X4, hX4⟩ : ∃ X4 : Nat → Prop, (fun b => False ∨ (E4 ≤ b ∧ b < W4.heap.size)) = X4 := ⟨_, rfl⟩
  have hX2 : X4 E4 := by rw [← hX4]; exact hX
  rw [hX4] at hap
  have HZ4 : Hid (SW (on D d 3 k [] [] 1 none) w w.heap.size X4 W4 ∧ EvAt W4 (some ⟨E4, 0, none⟩) 2 fact2 ∧ X4 E4) := ⟨hap, hev, hX2⟩
  clear hz hbl hap hev hX hX2 hX4 HZ2
  go_wp2_with (first | rw [hW4, hE4] | rw [hW4])
  refine (dw_do HO.out HZ4.out.1 HZ4.out.2.1 (Nat.le_refl 2) (by decide) (fun _ b o e => Or.inr (by simp at e; rw [← e.1]; exact HZ4.out.2.2))).mono ?_
  rintro e w5 ⟨v, x, A1, out, oa, oc, rfl, her, hdo, hbl, -, -, hz, -⟩
  obtain ⟨rfl, rfl, rfl⟩ := fact_only hdo
  obtain rfl := Dk.Er.nil her
  have hb6 : Below w5.heap.size w5 (w5.alloc (.cells #[.bool true] 4)) := (Below.refl _ _).alloc (Nat.le_refl _) _
  have HZ6 : Hid (SW (on D d 3 k [(0, 1)] [] 1 none) w w.heap.size X4 (w5.alloc (.cells #[.bool true] 4)) ∧ BlAt (w5.alloc (.cells #[.bool true] 4)) oa [true] ∧ BlAt (w5.alloc (.cells #[.bool true] 4)) (some ⟨w5.heap.size, 0, none⟩) [true]) := ⟨SW.step (P := on D d 3 k [(0, 1)] [] 1 none) HO.out.on_k HO.out.on_o hz hb6, hbl.below hb6, yes_at w5⟩
  clear her hdo hbl hz hb6 HZ4 hW4 hE4
  go_wp2_with fail
  refine (As.bools_same (bl_at HZ6.out.2.1 rfl) (bl_at HZ6.out.2.2 rfl) (by decide)).mono ?_
  rintro e w7 ⟨rfl, hb⟩
  obtain ⟨X7, hX7⟩ : ∃ X7, X4 = X7 := ⟨_, rfl⟩
  have HZ7 : Hid (SW (on D d 3 k [(0, 1)] [] 1 none) w w.heap.size X7 w7) := hX7 ▸ SW.step (P := on D d 3 k [(0, 1)] [] 1 none) HO.out.on_k HO.out.on_o HZ6.out.1 hb
  clear hb HZ6
  go_wp2_with fail
  refine (dw_save HO.out HZ7.out (by decide)).mono ?_
  rintro e w9 ⟨hor, -⟩
  replace hor := hor.resolve_right fun q => q.2.1 rfl
  obtain ⟨g', rfl, hz, hg⟩ := hor
  obtain rfl := hg rfl
  have HZ9 : Hid (SW (on D d 3 k [(0, 1)] [(0, 1)] 2 none) w w.heap.size X7 w9) := hz
  clear hz hg HZ7
  go_wp2_with fail
  refine (dw_again HO.out HZ9.out HP.out.1 HP.out.2).mono ?_
  rintro e w10 ⟨rfl, hz, -⟩
  have HZ10 : Hid (SW (kept D d n [] 1) w w.heap.size X7 w10) := hz
  clear hz HZ9
  go_wp2_with fail
  refine (dw_open HO.out HZ10.out (by decide)).mono ?_
  rintro e w11 ⟨k11, rfl, hz, -⟩
  have HZ11 : Hid (SW (on D d n k11 [] [] 1 none) w w.heap.size X7 w11) := hz
  clear hz HZ10
  go_wp2_with fail
  refine (dw_graph HO.out HZ11.out).mono ?_
  rintro e w12 ⟨gv, rfl, hgr, hz, -⟩
  have HZ12 : Hid (SW (on D d n k11 [] [] 1 none) w w.heap.size X7 w12 ∧ D.gr w12 gv n []) := ⟨hz, hgr⟩
  clear hz hgr HZ11
  go_wp2_with fail
  refine (dw_edges HO.out HZ12.out.1 HZ12.out.2).mono ?_
  rintro e w13 ⟨ea, ec, X13, rfl, -, -, hz, -, -, -⟩
  have HZ13 : Hid (SW (on D d n k11 [] [] 1 none) w w.heap.size X13 w13) := hz
  clear hz HZ12
  go_wp2_with fail
  go_loopw [7, 11, 12] (fun v7 v11 v12 wr => ∃ (j t : Nat) (A S : List (Nat × Nat)) (g : Option Nat) (X : Nat → Prop) (a2 : Option Addr) (N2 c2 : Nat), j ≤ m ∧ j ≤ 25 ∧ t ≤ j + 1 ∧ v12 = .int .i64 (j : Nat) ∧ v11 = .slice a2 N2 c2 ∧ Ls w wr X a2 N2 c2 S ∧ SW (on D d n v7 A S t g) w w.heap.size X wr) (fun _ _ i _ => 25 - (intOf i).toNat)
  case atStart => exact ⟨0, 1, [], [], none, X13, none, 0, 0, Nat.zero_le _, Nat.zero_le _, Nat.le_refl _, rfl, rfl, ⟨Ap.none _ _ _, rfl, Nat.le_refl _, Nat.zero_le _⟩, HZ13.out⟩
  case round =>
    clear HZ13
    obtain ⟨j, t, A, S, g, X, a2, N2, c2, hj, hj25, htj, rfl, rfl, hl2, hz⟩ := hrel
    by_cases hlt : j < m ∧ j < 25
    · obtain ⟨hlt, hlt25⟩ := hlt
      obtain ⟨b, o, rfl, hst⟩ := HH.out j hlt
      have hst' := hst.below hz.below
      have q0 := hst'.what
      have q1 := hst'.num
      have q2 := hst'.bytes
      have q3 := hst'.keep
      have q4 := hst'.evs
      have HSt : Hid (StpAt w b (o + j * 5) (f j)) := hst
      obtain ⟨what, hwh⟩ : ∃ what, (f j).what = what := ⟨_, rfl⟩
      rw [hwh] at q0
      have HJ : Hid (j ≤ 25 ∧ t ≤ j + 1 ∧ j < m) := ⟨hj25, htj, hlt⟩
      have i0 : (0 : Int) ≤ (j : Int) := by omega
      have i1 : (j : Int) < (m : Int) := by omega
      have i2 : (j : Int) < 25 := by omega
      have j5 : IntKind.i64.wrap ((j : Int) + 1) = (j : Int) + 1 := by rw [IntKind.wrap_i64]; omega
      obtain ⟨O1, hO1⟩ : ∃ O1, Obj.cells #[.int .i64 what, .int .i64 (f j).num, .slice (f j).ba (f j).bs.length (f j).bc, .slice (f j).ka (f j).kl (f j).kc, .slice (f j).ea (f j).el (f j).ec] 41 = O1 := ⟨_, rfl⟩
      have e1 : (wr.alloc O1).rowIs wr.heap.size 41 5 (fun i => if i = 0 then .int .i64 what else if i = 1 then .int .i64 (f j).num else if i = 2 then .slice (f j).ba (f j).bs.length (f j).bc else if i = 3 then .slice (f j).ka (f j).kl (f j).kc else .slice (f j).ea (f j).el (f j).ec) := by
        rw [← hO1]
        refine World.rowIs_alloc wr _ 41 _ fun i hi => ?_
        have : i = 0 ∨ i = 1 ∨ i = 2 ∨ i = 3 ∨ i = 4 := by simp at hi; omega
        rcases this with rfl | rfl | rfl | rfl | rfl <;> rfl
      have hbl : Below wr.heap.size wr (wr.alloc O1) := (Below.refl _ _).alloc (Nat.le_refl _) _
      have hap := sw_since (P := on D d n u7 A S t g) HO.out.on_k HO.out.on_o hz hbl
      have hl2' := (hl2.below hbl).more (Y := fun b => X b ∨ (wr.heap.size ≤ b ∧ b < (wr.alloc O1).heap.size)) fun b q => Or.inl q
      have hXE : (fun b => X b ∨ (wr.heap.size ≤ b ∧ b < (wr.alloc O1).heap.size)) wr.heap.size := Or.inr ⟨Nat.le_refl _, e1.lt⟩
      obtain ⟨Wl, hWl⟩ : ∃ Wl, wr.alloc O1 = Wl := ⟨_, rfl⟩
      obtain ⟨E, hE⟩ : ∃ E, wr.heap.size = E := ⟨_, rfl⟩
      rw [hWl] at e1 hbl hap hl2' hXE
      rw [hE] at e1 hap hl2' hXE
      obtain ⟨Y, hY⟩ : ∃ Y : Nat → Prop, (fun b => X b ∨ (E ≤ b ∧ b < Wl.heap.size)) = Y := ⟨_, rfl⟩
      have hXE2 : Y E := by rw [← hY]; exact hXE
      rw [hY] at hap hl2'
      have HW : Hid (SW (on D d n u7 A S t g) w w.heap.size Y Wl ∧ Ls w Wl Y a2 N2 c2 S ∧ Y E) := ⟨hap, hl2', hXE2⟩
      have HE : Hid (Wl.rowIs E 41 5 (fun i => if i = 0 then .int .i64 what else if i = 1 then .int .i64 (f j).num else if i = 2 then .slice (f j).ba (f j).bs.length (f j).bc else if i = 3 then .slice (f j).ka (f j).kl (f j).kc else .slice (f j).ea (f j).el (f j).ec)) := e1
      have g0 : Wl.cell? ⟨E, 0, none⟩ = some (.int .i64 what) := e1.cell (i := 0) (by omega)
      have HWh : Hid ((f j).what = what) := hwh
      clear hst hst' hwh hj hj25 htj hlt hlt25 hap e1 hz hl2 hl2' hXE hXE2 hY hbl
      by_cases t0 : what = 0
      · obtain rfl := t0
        have g4 : Wl.cell? ⟨E, 4, none⟩ = some (.slice (f j).ea (f j).el (f j).ec) := HE.out.cell (i := 4) (by omega)
        go_wp2_with (first | rw [hO1, hWl, hE] | rw [hO1, hWl])
        refine (dw_do HO.out HW.out.1 (HSt.out.et.below HW.out.1.below) HSt.out.ecap.1 HSt.out.ecap.2 (fun q => ev_apart HSt.out.et q)).mono ?_
        rintro e w3 ⟨v, x, A2, out2, oa2, oc2, rfl, -, -, -, -, -, hz3, hs3⟩
        have H3 : Hid (SW (on D d n u7 A2 S t g) w w.heap.size Y w3 ∧ Ls w w3 Y a2 N2 c2 S) := ⟨hz3, HW.out.2.1.same HW.out.1.below hz3.below hs3⟩
        clear hz3 hs3 HW HE g0 g4
        go_wp2_with fail
        go_roundw
        case rel => exact ⟨j + 1, t, A2, S, g, Y, a2, N2, c2, by have := HJ.out; omega, by have := HJ.out; omega, by have := HJ.out; omega, by go_num, rfl, H3.out.2, H3.out.1⟩
        case measure => simp [intOf]; omega
      · by_cases t1 : what = 1
        · obtain rfl := t1
          have g4 : Wl.cell? ⟨E, 4, none⟩ = some (.slice (f j).ea (f j).el (f j).ec) := HE.out.cell (i := 4) (by omega)
          go_wp2_with (first | rw [hO1, hWl, hE] | rw [hO1, hWl])
          refine (dw_do HO.out HW.out.1 (HSt.out.et.below HW.out.1.below) HSt.out.ecap.1 HSt.out.ecap.2 (fun q => ev_apart HSt.out.et q)).mono ?_
          rintro e w3 ⟨v, x, A2, out2, oa2, oc2, rfl, -, -, -, -, -, hz3, hs3⟩
          have H3 : Hid (SW (on D d n u7 A2 S t g) w w.heap.size Y w3 ∧ Ls w w3 Y a2 N2 c2 S) := ⟨hz3, HW.out.2.1.same HW.out.1.below hz3.below hs3⟩
          clear hz3 hs3 HW HE g0 g4
          go_wp2_with fail
          go_roundw
          case rel => exact ⟨j + 1, t, A2, S, g, Y, a2, N2, c2, by have := HJ.out; omega, by have := HJ.out; omega, by have := HJ.out; omega, by go_num, rfl, H3.out.2, H3.out.1⟩
          case measure => simp [intOf]; omega
        · by_cases t2 : what = 2
          · obtain rfl := t2
            have g4 : Wl.cell? ⟨E, 4, none⟩ = some (.slice (f j).ea (f j).el (f j).ec) := HE.out.cell (i := 4) (by omega)
            go_wp2_with (first | rw [hO1, hWl, hE] | rw [hO1, hWl])
            refine (dw_do HO.out HW.out.1 (HSt.out.et.below HW.out.1.below) HSt.out.ecap.1 HSt.out.ecap.2 (fun q => ev_apart HSt.out.et q)).mono ?_
            rintro e w3 ⟨v, x, A2, out2, oa2, oc2, rfl, -, -, -, -, -, hz3, hs3⟩
            have H3 : Hid (SW (on D d n u7 A2 S t g) w w.heap.size Y w3 ∧ Ls w w3 Y a2 N2 c2 S) := ⟨hz3, HW.out.2.1.same HW.out.1.below hz3.below hs3⟩
            clear hz3 hs3 HW HE g0 g4
            go_wp2_with fail
            go_roundw
            case rel => exact ⟨j + 1, t, A2, S, g, Y, a2, N2, c2, by have := HJ.out; omega, by have := HJ.out; omega, by have := HJ.out; omega, by go_num, rfl, H3.out.2, H3.out.1⟩
            case measure => simp [intOf]; omega
          · by_cases t3 : what = 3
            · obtain rfl := t3
              have g4 : Wl.cell? ⟨E, 4, none⟩ = some (.slice (f j).ea (f j).el (f j).ec) := HE.out.cell (i := 4) (by omega)
              go_wp2_with (first | rw [hO1, hWl, hE] | rw [hO1, hWl])
              refine (dw_do HO.out HW.out.1 (HSt.out.et.below HW.out.1.below) HSt.out.ecap.1 HSt.out.ecap.2 (fun q => ev_apart HSt.out.et q)).mono ?_
              rintro e w3 ⟨v, x, A2, out2, oa2, oc2, rfl, -, -, -, -, -, hz3, hs3⟩
              have H3 : Hid (SW (on D d n u7 A2 S t g) w w.heap.size Y w3 ∧ Ls w w3 Y a2 N2 c2 S) := ⟨hz3, HW.out.2.1.same HW.out.1.below hz3.below hs3⟩
              clear hz3 hs3 HW HE g0 g4
              go_wp2_with fail
              go_roundw
              case rel => exact ⟨j + 1, t, A2, S, g, Y, a2, N2, c2, by have := HJ.out; omega, by have := HJ.out; omega, by have := HJ.out; omega, by go_num, rfl, H3.out.2, H3.out.1⟩
              case measure => simp [intOf]; omega
            · by_cases t4 : what = 4
              · obtain rfl := t4
                go_wp2_with (first | rw [hO1, hWl, hE] | rw [hO1, hWl])
                refine (dw_graph HO.out HW.out.1).mono ?_
                rintro e w2 ⟨gv, rfl, hgr, hz2, hb2⟩
                have g3 : w2.cell? ⟨E, 3, none⟩ = some (.slice (f j).ka (f j).kl (f j).kc) := Br.cell_keep hb2 (HE.out.cell (i := 3) (by omega))
                have H2 : Hid (SW (on D d n u7 A S t g) w w.heap.size Y w2 ∧ Ls w w2 Y a2 N2 c2 S ∧ D.gr w2 gv n A) := ⟨hz2, HW.out.2.1.below hb2, hgr⟩
                have HFin : Hid (A.length ≤ 200 ∧ S.length ≤ 200) := by
                  obtain ⟨F, hF, _⟩ := hz2.at_
                  exact ⟨(HO.out.on_fine hF).1.len, (HO.out.on_fine hF).2.len⟩
                have HYE : Hid (Y E) := HW.out.2.2
                clear hgr hz2 hb2 HW HE g0
                go_wp2_with fail
                refine (dw_edges HO.out H2.out.1 H2.out.2.2).mono ?_
                rintro e w3 ⟨na, nc, Z, he, hn1, hn2, hz3, hap3, hY3, hb3⟩
                obtain ⟨M, hM⟩ : ∃ M, A.length = M := ⟨_, rfl⟩
                rw [hM] at he hn1
                subst he
                replace g3 := Br.cell_keep hb3 g3
                have H3 : Hid (SW (on D d n u7 A S t g) w w.heap.size Z w3 ∧ Ls w w3 Z a2 N2 c2 S ∧ Ls w w3 Z na M nc A ∧ Z E) := ⟨hz3, (H2.out.2.1.below hb3).more hY3, ⟨hap3, hM, hn1, hn2⟩, hY3 E HYE.out⟩
                clear hn1 hn2 hz3 hap3 hY3 hb3 hM H2 HYE
                go_wp2_with fail
                refine (dw_save HO.out H3.out.1 (by have := HJ.out; omega)).mono ?_
                rintro e w4 ⟨hor, hs4⟩
                rcases hor with ⟨g', rfl, hz4, hg⟩ | ⟨rfl, hg, hz4⟩
                · have H4 : Hid (SW (on D d n u7 A A (t + 1) g') w w.heap.size Z w4 ∧ Ls w w4 Z na M nc A) := ⟨hz4, H3.out.2.2.1.same H3.out.1.below hz4.below hs4⟩
                  clear hz4 hs4 hg H3 g3
                  go_wp2_with fail
                  go_roundw
                  case rel => exact ⟨j + 1, t + 1, A, A, g', Z, na, M, nc, by have := HJ.out; omega, by have := HJ.out; omega, by have := HJ.out; omega, by go_num, rfl, H4.out.2, H4.out.1⟩
                  case measure => simp [intOf]; omega
                · have g3 : w4.cell? ⟨E, 3, none⟩ = some (.slice (f j).ka (f j).kl (f j).kc) := (World.cell?_of_block (w := w3) (a := ⟨E, 3, none⟩) (hs4 E H3.out.2.2.2)).trans g3
                  have H4 : Hid (SW (off D d n A S t) w w.heap.size Z w4 ∧ Ls w w4 Z a2 N2 c2 S ∧ Ls w w4 Z na M nc A) := ⟨hz4, H3.out.2.1.same H3.out.1.below hz4.below hs4, H3.out.2.2.1.same H3.out.1.below hz4.below hs4⟩
                  clear hz4 hs4 hg H3
                  go_wp2_with fail
                  refine (error_any (n := 8) ⟨Or.inr rfl⟩ (h0.below H4.out.1.below)).mono ?_
                  rintro e w5 ⟨rfl, hb5⟩
                  have g3 := Br.cell_keep hb5 g3
                  have H5 : Hid (SW (off D d n A S t) w w.heap.size Z w5 ∧ Ls w w5 Z a2 N2 c2 S ∧ Ls w w5 Z na M nc A) := ⟨SW.step (P := off D d n A S t) HO.out.off_k HO.out.off_o H4.out.1 hb5, H4.out.2.1.below hb5, H4.out.2.2.below hb5⟩
                  clear hb5 H4
                  go_wp2_with fail
                  refine (dw_crash_off HO.out H5.out.1 (HSt.out.kt.below H5.out.1.below) HSt.out.kcap.1 HSt.out.kcap.2 (Sk.num_apart HSt.out.kt)).mono ?_
                  rintro e w6 ⟨rfl, hor, hs6⟩
                  clear g3
                  rcases hor with hz6 | hz6
                  · have H6 : Hid (SW (kept D d n S t) w w.heap.size Z w6 ∧ Ls w w6 Z a2 N2 c2 S ∧ Ls w w6 Z na M nc A) := ⟨hz6, H5.out.2.1.same H5.out.1.below hz6.below hs6, H5.out.2.2.same H5.out.1.below hz6.below hs6⟩
                    clear hz6 hs6 H5
                    go_wp2_with fail
                    refine (dw_open HO.out H6.out.1 (by have := HJ.out; omega)).mono ?_
                    rintro e w7 ⟨k7, rfl, hz7, hs7⟩
                    have H7 : Hid (SW (on D d n k7 S S t none) w w.heap.size Z w7 ∧ Ls w w7 Z a2 N2 c2 S ∧ Ls w w7 Z na M nc A) := ⟨hz7, H6.out.2.1.same H6.out.1.below hz7.below hs7, H6.out.2.2.same H6.out.1.below hz7.below hs7⟩
                    clear hz7 hs7 H6
                    go_wp2_with fail
                    refine (dw_graph HO.out H7.out.1).mono ?_
                    rintro e w8 ⟨gv8, rfl, hgr, hz8, hb8⟩
                    have H8 : Hid (SW (on D d n k7 S S t none) w w.heap.size Z w8 ∧ Ls w w8 Z a2 N2 c2 S ∧ Ls w w8 Z na M nc A ∧ D.gr w8 gv8 n S) := ⟨hz8, H7.out.2.1.below hb8, H7.out.2.2.below hb8, hgr⟩
                    clear hgr hz8 hb8 H7
                    go_wp2_with fail
                    refine (dw_edges HO.out H8.out.1 H8.out.2.2.2).mono ?_
                    rintro e w9 ⟨xa, xc, Z9, he, hx1, hx2, hz9, hap9, hY9, hb9⟩
                    obtain ⟨Q, hQ⟩ : ∃ Q, S.length = Q := ⟨_, rfl⟩
                    rw [hQ] at he hx1
                    subst he
                    have H9 : Hid (SW (on D d n k7 S S t none) w w.heap.size Z9 w9 ∧ Ls w w9 Z9 a2 N2 c2 S ∧ Ls w w9 Z9 na M nc A ∧ Ls w w9 Z9 xa Q xc S) := ⟨hz9, (H8.out.2.1.below hb9).more hY9, (H8.out.2.2.1.below hb9).more hY9, ⟨hap9, hQ, hx1, hx2⟩⟩
                    clear hx1 hx2 hz9 hap9 hY9 hb9 hQ H8
                    go_wp2_with fail
                    refine (edges_any H9.out.2.2.2.len H9.out.2.1.len H9.out.2.2.2.ap.edges H9.out.2.1.ap.edges (by have := H9.out.2.2.2.len; have := HFin.out; omega)).mono ?_
                    rintro e w10 ⟨q1, rfl, hq1, hb10⟩
                    have H10 : Hid (SW (on D d n k7 S S t none) w w.heap.size Z9 w10 ∧ Ls w w10 Z9 na M nc A ∧ Ls w w10 Z9 xa Q xc S) := ⟨SW.step (P := on D d n k7 S S t none) HO.out.on_k HO.out.on_o H9.out.1 hb10, H9.out.2.2.1.below hb10, H9.out.2.2.2.below hb10⟩
                    have HQ1 : Hid (q1 = true ↔ S = S) := hq1
                    clear hb10 hq1 H9
                    go_wp2_with fail
                    refine (edges_any H10.out.2.2.len H10.out.2.1.len H10.out.2.2.ap.edges H10.out.2.1.ap.edges (by have := H10.out.2.2.len; have := HFin.out; omega)).mono ?_
                    rintro e w11 ⟨q2, rfl, hq2, hb11⟩
                    have H11 : Hid (SW (on D d n k7 S S t none) w w.heap.size Z9 w11 ∧ Ls w w11 Z9 xa Q xc S) := ⟨SW.step (P := on D d n k7 S S t none) HO.out.on_k HO.out.on_o H10.out.1 hb11, H10.out.2.2.below hb11⟩
                    have HQ2 : Hid (q2 = true ↔ S = A) := hq2
                    clear hb11 hq2 H10
                    cases q1 with
                    | true =>
                      go_wp2_with fail
                      go_roundw
                      case rel => exact ⟨j + 1, t, S, S, none, Z9, xa, Q, xc, by have := HJ.out; omega, by have := HJ.out; omega, by have := HJ.out; omega, by go_num, rfl, H11.out.2, H11.out.1⟩
                      case measure => simp [intOf]; omega
                    | false =>
                      cases q2 with
                      | true =>
                        go_wp2_with fail
                        go_roundw
                        case rel => exact ⟨j + 1, t, S, S, none, Z9, xa, Q, xc, by have := HJ.out; omega, by have := HJ.out; omega, by have := HJ.out; omega, by go_num, rfl, H11.out.2, H11.out.1⟩
                        case measure => simp [intOf]; omega
                      | false =>
                        exfalso
                        have z1 := HQ1.out
                        have z2 := HQ2.out
                        first
                          | exact Bool.noConfusion (z1.2 rfl)
                          | exact Bool.noConfusion (z2.2 rfl)
                          | simp at z1
                          | simp at z2
                  · have H6 : Hid (SW (kept D d n A (t+1)) w w.heap.size Z w6 ∧ Ls w w6 Z a2 N2 c2 S ∧ Ls w w6 Z na M nc A) := ⟨hz6, H5.out.2.1.same H5.out.1.below hz6.below hs6, H5.out.2.2.same H5.out.1.below hz6.below hs6⟩
                    clear hz6 hs6 H5
                    go_wp2_with fail
                    refine (dw_open HO.out H6.out.1 (by have := HJ.out; omega)).mono ?_
                    rintro e w7 ⟨k7, rfl, hz7, hs7⟩
                    have H7 : Hid (SW (on D d n k7 A A (t+1) none) w w.heap.size Z w7 ∧ Ls w w7 Z a2 N2 c2 S ∧ Ls w w7 Z na M nc A) := ⟨hz7, H6.out.2.1.same H6.out.1.below hz7.below hs7, H6.out.2.2.same H6.out.1.below hz7.below hs7⟩
                    clear hz7 hs7 H6
                    go_wp2_with fail
                    refine (dw_graph HO.out H7.out.1).mono ?_
                    rintro e w8 ⟨gv8, rfl, hgr, hz8, hb8⟩
                    have H8 : Hid (SW (on D d n k7 A A (t+1) none) w w.heap.size Z w8 ∧ Ls w w8 Z a2 N2 c2 S ∧ Ls w w8 Z na M nc A ∧ D.gr w8 gv8 n A) := ⟨hz8, H7.out.2.1.below hb8, H7.out.2.2.below hb8, hgr⟩
                    clear hgr hz8 hb8 H7
                    go_wp2_with fail
                    refine (dw_edges HO.out H8.out.1 H8.out.2.2.2).mono ?_
                    rintro e w9 ⟨xa, xc, Z9, he, hx1, hx2, hz9, hap9, hY9, hb9⟩
                    obtain ⟨Q, hQ⟩ : ∃ Q, A.length = Q := ⟨_, rfl⟩
                    rw [hQ] at he hx1
                    subst he
                    have H9 : Hid (SW (on D d n k7 A A (t+1) none) w w.heap.size Z9 w9 ∧ Ls w w9 Z9 a2 N2 c2 S ∧ Ls w w9 Z9 na M nc A ∧ Ls w w9 Z9 xa Q xc A) := ⟨hz9, (H8.out.2.1.below hb9).more hY9, (H8.out.2.2.1.below hb9).more hY9, ⟨hap9, hQ, hx1, hx2⟩⟩
                    clear hx1 hx2 hz9 hap9 hY9 hb9 hQ H8
                    go_wp2_with fail
                    refine (edges_any H9.out.2.2.2.len H9.out.2.1.len H9.out.2.2.2.ap.edges H9.out.2.1.ap.edges (by have := H9.out.2.2.2.len; have := HFin.out; omega)).mono ?_
                    rintro e w10 ⟨q1, rfl, hq1, hb10⟩
                    have H10 : Hid (SW (on D d n k7 A A (t+1) none) w w.heap.size Z9 w10 ∧ Ls w w10 Z9 na M nc A ∧ Ls w w10 Z9 xa Q xc A) := ⟨SW.step (P := on D d n k7 A A (t+1) none) HO.out.on_k HO.out.on_o H9.out.1 hb10, H9.out.2.2.1.below hb10, H9.out.2.2.2.below hb10⟩
                    have HQ1 : Hid (q1 = true ↔ A = S) := hq1
                    clear hb10 hq1 H9
                    go_wp2_with fail
                    refine (edges_any H10.out.2.2.len H10.out.2.1.len H10.out.2.2.ap.edges H10.out.2.1.ap.edges (by have := H10.out.2.2.len; have := HFin.out; omega)).mono ?_
                    rintro e w11 ⟨q2, rfl, hq2, hb11⟩
                    have H11 : Hid (SW (on D d n k7 A A (t+1) none) w w.heap.size Z9 w11 ∧ Ls w w11 Z9 xa Q xc A) := ⟨SW.step (P := on D d n k7 A A (t+1) none) HO.out.on_k HO.out.on_o H10.out.1 hb11, H10.out.2.2.below hb11⟩
                    have HQ2 : Hid (q2 = true ↔ A = A) := hq2
                    clear hb11 hq2 H10
                    cases q1 with
                    | true =>
                      go_wp2_with fail
                      go_roundw
                      case rel => exact ⟨j + 1, (t+1), A, A, none, Z9, xa, Q, xc, by have := HJ.out; omega, by have := HJ.out; omega, by have := HJ.out; omega, by go_num, rfl, H11.out.2, H11.out.1⟩
                      case measure => simp [intOf]; omega
                    | false =>
                      cases q2 with
                      | true =>
                        go_wp2_with fail
                        go_roundw
                        case rel => exact ⟨j + 1, (t+1), A, A, none, Z9, xa, Q, xc, by have := HJ.out; omega, by have := HJ.out; omega, by have := HJ.out; omega, by go_num, rfl, H11.out.2, H11.out.1⟩
                        case measure => simp [intOf]; omega
                      | false =>
                        exfalso
                        have z1 := HQ1.out
                        have z2 := HQ2.out
                        first
                          | exact Bool.noConfusion (z1.2 rfl)
                          | exact Bool.noConfusion (z2.2 rfl)
                          | simp at z1
                          | simp at z2
              · by_cases t5 : what = 5
                · obtain rfl := t5
                  have g1 : Wl.cell? ⟨E, 1, none⟩ = some (.int .i64 (f j).num) := HE.out.cell (i := 1) (by omega)
                  go_wp2_with (first | rw [hO1, hWl, hE] | rw [hO1, hWl])
                  refine (dw_fail HO.out HW.out.1 (f j).num HSt.out.wide).mono ?_
                  rintro e w3 ⟨rfl, hz3, hs3⟩
                  have H3 : Hid (SW (on D d n u7 A S t (given (f j).num)) w w.heap.size Y w3 ∧ Ls w w3 Y a2 N2 c2 S) := ⟨hz3, HW.out.2.1.same HW.out.1.below hz3.below hs3⟩
                  clear hz3 hs3 HW HE g0 g1
                  go_wp2_with fail
                  go_roundw
                  case rel => exact ⟨j + 1, t, A, S, _, Y, a2, N2, c2, by have := HJ.out; omega, by have := HJ.out; omega, by have := HJ.out; omega, by go_num, rfl, H3.out.2, H3.out.1⟩
                  case measure => simp [intOf]; omega
                · by_cases t6 : what = 6
                  · obtain rfl := t6
                    have g3 : Wl.cell? ⟨E, 3, none⟩ = some (.slice (f j).ka (f j).kl (f j).kc) := HE.out.cell (i := 3) (by omega)
                    go_wp2_with (first | rw [hO1, hWl, hE] | rw [hO1, hWl])
                    refine (dw_crash HO.out HW.out.1 (HSt.out.kt.below HW.out.1.below) HSt.out.kcap.1 HSt.out.kcap.2 (Sk.num_apart HSt.out.kt)).mono ?_
                    rintro e w2 ⟨rfl, hz2, hs2⟩
                    have H2 : Hid (SW (kept D d n S t) w w.heap.size Y w2 ∧ Ls w w2 Y a2 N2 c2 S) := ⟨hz2, HW.out.2.1.same HW.out.1.below hz2.below hs2⟩
                    clear hz2 hs2 HW HE g0 g3
                    go_wp2_with fail
                    refine (dw_open HO.out H2.out.1 (by have := HJ.out; omega)).mono ?_
                    rintro e w3 ⟨k3, rfl, hz3, hs3⟩
                    have H3 : Hid (SW (on D d n k3 S S t none) w w.heap.size Y w3 ∧ Ls w w3 Y a2 N2 c2 S) := ⟨hz3, H2.out.2.same H2.out.1.below hz3.below hs3⟩
                    clear hz3 hs3 H2
                    go_wp2_with fail
                    refine (dw_graph HO.out H3.out.1).mono ?_
                    rintro e w6 ⟨gv, rfl, hgr, hz6, hb6⟩
                    have H6 : Hid (SW (on D d n k3 S S t none) w w.heap.size Y w6 ∧ Ls w w6 Y a2 N2 c2 S ∧ D.gr w6 gv n S) := ⟨hz6, H3.out.2.below hb6, hgr⟩
                    have HFA : Hid (S.length ≤ 200) := by
                      obtain ⟨F, hF, _⟩ := hz6.at_
                      exact (HO.out.on_fine hF).1.len
                    clear hgr hz6 hb6 H3
                    go_wp2_with fail
                    refine (dw_edges HO.out H6.out.1 H6.out.2.2).mono ?_
                    rintro e w7 ⟨ea, ec, Z7, he, -, -, hz7, hap7, hY7, hb7⟩
                    rw [H6.out.2.1.len] at he
                    subst he
                    have H7 : Hid (SW (on D d n k3 S S t none) w w.heap.size Z7 w7 ∧ Ls w w7 Z7 a2 N2 c2 S ∧ EdgesAt w7 ea S) := ⟨hz7, (H6.out.2.1.below hb7).more hY7, hap7.edges⟩
                    clear hz7 hap7 hY7 hb7 H6
                    go_wp2_with fail
                    refine (edges_same H7.out.2.1.len H7.out.2.2 H7.out.2.1.ap.edges (by have := H7.out.2.1.len; have := HFA.out; omega)).mono ?_
                    rintro e w8 ⟨rfl, hb8⟩
                    have H8 : Hid (SW (on D d n k3 S S t none) w w.heap.size Z7 w8 ∧ Ls w w8 Z7 a2 N2 c2 S) := ⟨SW.step (P := on D d n k3 S S t none) HO.out.on_k HO.out.on_o H7.out.1 hb8, H7.out.2.1.below hb8⟩
                    clear hb8 H7
                    go_wp2_with fail
                    go_roundw
                    case rel => exact ⟨j + 1, t, S, S, none, Z7, a2, N2, c2, by have := HJ.out; omega, by have := HJ.out; omega, by have := HJ.out; omega, by go_num, rfl, H8.out.2, H8.out.1⟩
                    case measure => simp [intOf]; omega
                  · go_wp2_with (first | rw [hO1, hWl, hE] | rw [hO1, hWl])
                    go_roundw
                    case rel => exact ⟨j + 1, t, A, S, g, Y, a2, N2, c2, by have := HJ.out; omega, by have := HJ.out; omega, by have := HJ.out; omega, by go_num, rfl, HW.out.2.1, HW.out.1⟩
                    case measure => simp [intOf]; omega
    · have HB : Hid (Below w.heap.size w wr) := hz.below
      clear hz hl2
      by_cases h1 : j < m
      · have i1 : (j : Int) < (m : Int) := by omega
        have i2 : ¬ (j : Int) < 25 := by omega
        go_wp2_with fail
        go_ret
        exact ⟨rfl, HB.out⟩
      · have i1 : ¬ (j : Int) < (m : Int) := by omega
        go_wp2_with fail
        go_ret
        exact ⟨rfl, HB.out⟩

theorem desk_keeps (O : DeskOk D) (h0 : ErrType w) (hs : ScAt w a m f) (p : Int) :
    Calls Tryz.prog 4 #[.int .i64 p, .slice a m c] w fun e w' => e = .returned (.bool true) ∧ Below w.heap.size w w' := by
  by_cases hp : p < 1 ∨ 60 < p
  · exact dkeeps_no O h0 p hp
  · obtain ⟨n, rfl⟩ := Int.eq_ofNat_of_zero_le (show 0 ≤ p by omega)
    exact dkeeps_ok O h0 hs (by omega) (by omega)

end Go.Proofs.YtcfemppdeidjmacGreatDoor.Ds
