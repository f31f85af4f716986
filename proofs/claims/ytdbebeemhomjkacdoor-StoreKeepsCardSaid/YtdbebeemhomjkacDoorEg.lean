/-
  StoreKeeps, whatever packages store and disk that answer as they are to.
-/
import Derived.Test.YtdbebeemhomjkacDoorEe
namespace Go.Proofs.YtdbebeemhomjkacDoor.Sk
open Go.RowKit Go.Deep Go.Proofs.YtdbebeemhomjkacDoor.Dk
open Go.RowKit (Below)
set_option linter.unusedVariables false

variable {w w' wr : World} {D : Face} {B n t : Nat} {d s : Value} {l x : List UInt8} {g : Option Nat} {X : Nat → Prop} {a : Option Addr} {m c : Nat} {f : Nat → Stp}

set_option maxRecDepth 100000 in
set_option maxHeartbeats 64000000 in
theorem keeps_go (O : StoreOk D) (h0 : ErrType w) (hs : ScAt w a m f) (n : Nat) (hn : 62 ≤ n ∧ n ≤ 80) :
    Calls Tryd.prog 5 #[.int .i64 (n : Nat), .slice a m c] w fun e w' => e = .returned (.bool true) ∧ Below w.heap.size w w' := by
  have HP : Hid (62 ≤ n ∧ n ≤ 80) := hn
  have HO : Hid (StoreOk D) := O
  have HH : Hid (ScAt w a m f) := hs
  clear hn O hs
  go_enter Tryd.func5, Tryd.ntmps5
  go_wp2_with fail
  refine (sw_new (n := 80) HO.out (Below.refl _ w) (by omega) (by omega)).mono ?_
  rintro e w1 ⟨z, rfl, hz⟩
  have HZ1 : Hid (SW (raw D z 80) w w.heap.size (fun _ => False) w1) := hz
  clear hz
  go_wp2_with fail
  refine (sw_format HO.out HZ1.out (by omega)).mono ?_
  rintro e w2 ⟨rfl, hz, -⟩
  have HZ2 : Hid (SW (kept D z 80 [] 0) w w.heap.size (fun _ => False) w2) := hz
  clear hz HZ1
  go_wp2_with fail
  refine (sw_open HO.out HZ2.out (by decide) (by decide)).mono ?_
  rintro e w3 ⟨s3, rfl, hz, -⟩
  have HZ3 : Hid (SW (on D z 80 s3 [] 0 none) w w.heap.size (fun b => False ∨ b = w3.heap.size) (w3.alloc (.cells #[.int .u8 104, .int .u8 105] 5 (2, 3)))) := SW.apart (P := on D z 80 s3 [] 0 none) HO.out.on_k HO.out.on_o hz _
  have hcv : (convert 31 31 (.slice (some ⟨w3.heap.size, 0, none⟩) 2 2)).run Tryd.prog (w3.alloc (.cells #[.int .u8 104, .int .u8 105] 5)) = .ok (.slice (some ⟨w3.heap.size, 0, none⟩) 2 2) (w3.alloc (.cells #[.int .u8 104, .int .u8 105] 5 (2, 3))) := Lib.run_convert_bytes_const w3 31 5 _ 2 2 Tryd.underlying31 Tryd.underlying5
  clear hz HZ2
  go_wp2_with fail
  clear hcv
  refine (sw_save (x := [104, 105]) (c := 2) HO.out HZ3.out (hi_bytes w3) (by decide) (by decide) (fun e => by cases e) (fun _ b o e => Or.inr (Or.inr (by simp at e; exact e.1.symm))) (by decide) (by decide) (by decide)).mono ?_
  rintro e w4 ⟨hor, -⟩
  replace hor := hor.resolve_right fun q => q.2.1 rfl
  obtain ⟨g4, rfl, hz, hg⟩ := hor
  obtain rfl := hg rfl
  have HZ4 : Hid (SW (on D z 80 s3 [104, 105] 1 none) w w.heap.size (fun _ => False) w4) := hz.less fun b q => q.elim
  clear hz hg HZ3
  go_wp2_with fail
  refine (sw_crash (a := none) (m := 0) (c := 0) (f := fun _ => 0) HO.out HZ4.out (fun i hi => absurd hi (Nat.not_lt_zero _)) (Nat.le_refl _) (Nat.zero_le _) (fun q => absurd q (by decide))).mono ?_
  rintro e w5 ⟨rfl, hz, -⟩
  have HZ5 : Hid (SW (kept D z 80 [104, 105] 1) w w.heap.size (fun _ => False) w5) := hz
  clear hz HZ4
  go_wp2_with fail
  refine (sw_open HO.out HZ5.out (by decide) (by decide)).mono ?_
  rintro e w6 ⟨s6, rfl, hz, -⟩
  have HZ6 : Hid (SW (on D z 80 s6 [104, 105] 1 none) w w.heap.size (fun _ => False) w6) := hz
  clear hz HZ5
  go_wp2_with fail
  refine (sw_load HO.out HZ6.out).mono ?_
  rintro e w7 ⟨a7, c7, rfl, hbt, hz, -⟩
  have HZ7 : Hid (SW (on D z 80 s6 [104, 105] 1 none) w w.heap.size (fun _ => False) w7) := hz
  have hcv : (convert 31 9 (.slice a7 2 c7)).run Tryd.prog w7 = .ok (.string ⟨#[104, 105]⟩) w7 := conv_any (l := [104, 105]) hbt
  clear hz HZ6 hbt
  go_wp2_with fail
  clear hcv
  refine (sw_turn HO.out HZ7.out).mono ?_
  rintro e w8 ⟨rfl, hz, -⟩
  have HB8 : Hid (Below w.heap.size w w8) := hz.below
  clear hz HZ7
  go_wp2_with fail
  refine (sw_new HO.out HB8.out (by have := HP.out.1; omega) HP.out.2).mono ?_
  rintro e w9 ⟨d, rfl, hz⟩
  obtain ⟨B, hB⟩ : ∃ B, w8.heap.size = B := ⟨_, rfl⟩
  rw [hB] at hz
  have HZ9 : Hid (SW (raw D d n) w B (fun _ => False) w9) := hz
  clear hz HB8 hB
  go_wp2_with fail
  refine (sw_open_no HO.out HZ9.out).mono ?_
  rintro e w10 ⟨v10, rfl, hz, -⟩
  have HZ10 : Hid (SW (raw D d n) w B (fun _ => False) w10) := hz
  clear hz HZ9
  go_wp2_with fail
  refine (error_any (n := 5) ⟨Or.inr rfl⟩ (h0.below HZ10.out.below)).mono ?_
  rintro e w11 ⟨rfl, hb⟩
  have HZ11 : Hid (SW (raw D d n) w B (fun _ => False) w11) := HZ10.out.step HO.out.raw_k HO.out.raw_o hb
  clear hb HZ10
  go_wp2_with fail
  refine (sw_format HO.out HZ11.out HP.out.1).mono ?_
  rintro e w12 ⟨rfl, hz, -⟩
  have HZ12 : Hid (SW (kept D d n [] 0) w B (fun _ => False) w12) := hz
  have hlt : ¬ (n : Int) < 62 := by have := HP.out.1; omega
  clear hz HZ11
  go_wp2_with fail
  clear hlt
  refine (sw_open HO.out HZ12.out (by decide) (by decide)).mono ?_
  rintro e w13 ⟨s13, rfl, hz, -⟩
  have HZ13 : Hid (SW (on D d n s13 [] 0 none) w B (fun _ => False) w13) := hz
  clear hz HZ12
  go_wp2_with fail
  refine (sw_load HO.out HZ13.out).mono ?_
  rintro e w14 ⟨a14, c14, rfl, -, hz, -⟩
  have HZ14 : Hid (SW (on D d n s13 [] 0 none) w B (fun _ => False) w14) := hz
  clear hz HZ13
  go_wp2_with fail
  refine (sw_turn HO.out HZ14.out).mono ?_
  rintro e w15 ⟨rfl, hz, -⟩
  have HZ15 : Hid (SW (on D d n s13 [] 0 none) w B (fun _ => False) w15) := hz
  clear hz HZ14
  go_wp2_with fail
  go_loopw [7, 11, 12, 13, 14] (fun v7 v11 v12 v13 v14 wr => ∃ (j t : Nat) (l : List UInt8) (g : Option Nat) (ar : Bool), j ≤ m ∧ j ≤ 20 ∧ v14 = .int .i64 (j : Nat) ∧ v11 = .string (str l) ∧ v12 = .int .i64 (t : Nat) ∧ v13 = .bool ar ∧ (g ≠ none → ar = true) ∧ l.length ≤ 960 ∧ t ≤ j ∧ SW (on D d n v7 l t g) w B (fun _ => False) wr) (fun _ _ _ _ i _ => 20 - (intOf i).toNat)
  case atStart => exact ⟨0, 0, [], none, false, Nat.zero_le _, Nat.zero_le _, rfl, rfl, rfl, rfl, fun q => absurd rfl q, Nat.zero_le _, Nat.le_refl _, HZ15.out⟩
  case round =>
    clear HZ15
    obtain ⟨j, t, l, g, ar, hj, hj20, rfl, rfl, rfl, rfl, har, hl, htj, hz⟩ := hrel
    have HJ : Hid ((g ≠ none → ar = true) ∧ l.length ≤ 960 ∧ t ≤ j ∧ j ≤ 20) := ⟨har, hl, htj, hj20⟩
    clear har hl htj
    by_cases hlt : j < m ∧ j < 20
    · obtain ⟨hlt, hlt20⟩ := hlt
      obtain ⟨b, o, rfl, hst⟩ := HH.out j hlt
      have hst' := hst.below hz.below
      have q0 := hst'.what
      have q1 := hst'.num
      have q2 := hst'.bytes
      have q3 := hst'.keep
      have q4 := hst'.evs
      have i0 : (0 : Int) ≤ (j : Int) := by omega
      have i1 : (j : Int) < (m : Int) := by omega
      have i2 : (j : Int) < 20 := by omega
      generalize hwh : (f j).what = what at q0
      generalize hnm : (f j).num = nm at q1
      generalize (f j).ea = ea at q4
      generalize (f j).el = el at q4
      generalize (f j).ec = ec at q4
      have HWN : Hid ((f j).what = what ∧ (f j).num = nm) := ⟨hwh, hnm⟩
      have HSt : Hid (StpAt w b (o + j * 5) (f j)) := hst
      obtain ⟨E, hE⟩ : ∃ E, wr.heap.size = E := ⟨_, rfl⟩
      have hap := SW.apart (P := on D d n _ l t g) HO.out.on_k HO.out.on_o hz (.cells #[.int .i64 what, .int .i64 nm, .slice (f j).ba (f j).bs.length (f j).bc, .slice (f j).ka (f j).kl (f j).kc, .slice ea el ec] 51)
      have e1 : (wr.alloc (.cells #[.int .i64 what, .int .i64 nm, .slice (f j).ba (f j).bs.length (f j).bc, .slice (f j).ka (f j).kl (f j).kc, .slice ea el ec] 51)).rowIs E 51 5 (fun i => if i = 0 then .int .i64 what else if i = 1 then .int .i64 nm else if i = 2 then .slice (f j).ba (f j).bs.length (f j).bc else if i = 3 then .slice (f j).ka (f j).kl (f j).kc else .slice ea el ec) := by
        rw [← hE]
        refine World.rowIs_alloc wr _ 51 _ fun i hi => ?_
        have : i = 0 ∨ i = 1 ∨ i = 2 ∨ i = 3 ∨ i = 4 := by simp at hi; omega
        rcases this with rfl | rfl | rfl | rfl | rfl <;> rfl
      rw [hE] at hap
      obtain ⟨Wl, hWl⟩ : ∃ Wl, wr.alloc (.cells #[.int .i64 what, .int .i64 nm, .slice (f j).ba (f j).bs.length (f j).bc, .slice (f j).ka (f j).kl (f j).kc, .slice ea el ec] 51) = Wl := ⟨_, rfl⟩
      rw [hWl] at hap e1
      have HW : Hid (SW (on D d n _ l t g) w B (fun b => b = E) Wl) := hap.less (fun _ z => Or.inr z)
      have HE : Hid (Wl.rowIs E 51 5 (fun i => if i = 0 then .int .i64 what else if i = 1 then .int .i64 nm else if i = 2 then .slice (f j).ba (f j).bs.length (f j).bc else if i = 3 then .slice (f j).ka (f j).kl (f j).kc else .slice ea el ec)) := e1
      have g0 : Wl.cell? ⟨E, 0, none⟩ = some (.int .i64 what) := e1.cell (i := 0) (by omega)
      have j5 : IntKind.i64.wrap ((j : Int) + 1) = (j : Int) + 1 := by rw [IntKind.wrap_i64]; omega
      clear hst hst' hwh hnm hj hj20 hap e1 hz
      by_cases t0 : what = 0
      · obtain rfl := t0
        as_aux_lemma =>
          have g2 : Wl.cell? ⟨E, 2, none⟩ = some (.slice (f j).ba (f j).bs.length (f j).bc) := HE.out.cell (i := 2) (by omega)
          by_cases hbig : 960 < (f j).bs.length
          · go_wp2_with (first | rw [hWl])
            refine (sw_save_full HO.out HW.out (HSt.out.bt.below HW.out.below) HSt.out.bcap.1 HSt.out.bcap.2.1 hbig).mono ?_
            rintro e w6 ⟨rfl, hz6, hE6⟩
            have HZ6 : Hid (SW (on D d n _ l t g) w B (fun b => b = E) w6) := hz6
            have r6 := HE.out.of_block (hE6 E rfl)
            have g4 : w6.cell? ⟨E, 2, none⟩ = some (.slice (f j).ba (f j).bs.length (f j).bc) := r6.cell (i := 2) (by omega)
            have i3 : (960 : Int) < ((f j).bs.length : Nat) := by omega
            clear hz6 hE6 r6 hbig
            go_wp2_with fail
            refine (error_any (n := 3) ⟨Or.inr rfl⟩ (h0.below HZ6.out.below)).mono ?_
            rintro e w7 ⟨rfl, hb7⟩
            have hz7 := SW.step (P := on D d n _ l t g) HO.out.on_k HO.out.on_o HZ6.out hb7
            have HZ7 : Hid (SW (on D d n _ l t g) w B (fun _ => False) w7) := hz7.less (fun _ z => z.elim)
            clear hb7 hz7
            go_wp2_with fail
            go_roundw
            case rel => exact ⟨j + 1, t, l, g, ar, by omega, by omega, by go_num, rfl, rfl, rfl, HJ.out.1, HJ.out.2.1, by have := HJ.out.2.2.1; omega, HZ7.out⟩
            case measure => simp [intOf]; omega
          · have i3 : ¬ (960 : Int) < ((f j).bs.length : Nat) := by omega
            have HX : Hid ((f j).bs.length ≤ 960) := show _ ≤ _ by omega
            obtain ⟨sl, hsl⟩ : ∃ sl, str l = sl := ⟨_, rfl⟩
            obtain ⟨sx, hsx⟩ : ∃ sx, str (f j).bs = sx := ⟨_, rfl⟩
            rw [hsl]
            have HSL : Hid (str l = sl ∧ str (f j).bs = sx) := ⟨hsl, hsx⟩
            have HT : Hid (t ≤ 20) := show _ ≤ _ by have := HJ.out; omega
            clear hsl hsx hbig
            go_wp2_with (first | rw [hWl])
            refine (sw_save HO.out HW.out (HSt.out.bt.below HW.out.below) HSt.out.bcap.1 HSt.out.bcap.2.1 HSt.out.bcap.2.2 (bt_apart HSt.out.bt) HX.out HJ.out.2.1 (by have := HT.out; omega)).mono ?_
            rintro e w6 ⟨hor, hE6⟩
            have r6 := HE.out.of_block (hE6 E rfl)
            have g4 : w6.cell? ⟨E, 2, none⟩ = some (.slice (f j).ba (f j).bs.length (f j).bc) := r6.cell (i := 2) (by omega)
            have c5 : IntKind.i64.wrap ((t : Int) + 1) = ((t + 1 : Nat) : Int) := by rw [IntKind.wrap_i64]; have := HT.out; omega
            rcases hor with ⟨g6, rfl, hz6, hg6⟩ | ⟨rfl, hne, hz6⟩
            · have HZ6 : Hid (SW (on D d n _ (f j).bs (t + 1) g6) w B (fun b => b = E) w6) := hz6
              have HG : Hid (g6 ≠ none → ar = true) := fun q => HJ.out.1 fun z => q (hg6 z)
              have hcv := conv_any (c := (f j).bc) (HSt.out.bt.below HZ6.out.below)
              rw [HSL.out.2] at hcv
              clear hz6 hg6 hE6 r6
              go_wp2_with fail
              refine (sw_load HO.out HZ6.out).mono ?_
              rintro e w7 ⟨a7, c7, rfl, hbt, hz7, -⟩
              have HZ7 : Hid (SW (on D d n _ (f j).bs (t + 1) g6) w B (fun b => b = E) w7) := hz7
              have hcv2 := conv_any (c := c7) hbt
              rw [HSL.out.2] at hcv2
              clear hcv hz7 hbt
              go_wp2_with fail
              refine (sw_turn HO.out HZ7.out).mono ?_
              rintro e w8 ⟨rfl, hz8, -⟩
              have HZ8 : Hid (SW (on D d n _ (f j).bs (t + 1) g6) w B (fun _ => False) w8) := hz8.less (fun _ z => z.elim)
              clear hcv2 hz8
              go_wp2_with fail
              go_roundw
              case rel => exact ⟨j + 1, t + 1, (f j).bs, g6, ar, by omega, by omega, by go_num, by rw [HSL.out.2], by go_num, rfl, HG.out, HX.out, by have := HJ.out.2.2.1; omega, HZ8.out⟩
              case measure => simp [intOf]; omega
            · obtain rfl := HJ.out.1 hne
              have HZ6 : Hid (SW (off D d n _ l t (f j).bs) w B (fun b => b = E) w6) := hz6
              have HS6 : Hid (Same (fun b => b = E) Wl w6) := hE6
              clear hz6 hE6 r6 hne
              go_wp2_with fail
              refine (error_any (n := 8) ⟨Or.inr rfl⟩ (h0.below HZ6.out.below)).mono ?_
              rintro e w7 ⟨rfl, hb7⟩
              have HZ7 : Hid (SW (off D d n _ l t (f j).bs) w B (fun b => b = E) w7) := HZ6.out.step HO.out.off_k HO.out.off_o hb7
              have HS7 : Hid (Same (fun b => b = E) Wl w7) := HS6.out.trans (HZ6.out.same hb7)
              clear hb7 HS6 HZ6
              go_wp2_with fail
              refine (sw_save_off HO.out HZ7.out).mono ?_
              rintro e w8 ⟨rfl, hz8, hE8⟩
              have HZ8 : Hid (SW (off D d n _ l t (f j).bs) w B (fun b => b = E) w8) := hz8
              have HS8 : Hid (Same (fun b => b = E) Wl w8) := HS7.out.trans hE8
              clear hz8 hE8 HS7 HZ7
              go_wp2_with fail
              refine (error_any (n := 8) ⟨Or.inr rfl⟩ (h0.below HZ8.out.below)).mono ?_
              rintro e w9 ⟨rfl, hb9⟩
              have HZ9 : Hid (SW (off D d n _ l t (f j).bs) w B (fun b => b = E) w9) := HZ8.out.step HO.out.off_k HO.out.off_o hb9
              have HS9 : Hid (Same (fun b => b = E) Wl w9) := HS8.out.trans (HZ8.out.same hb9)
              clear hb9 HS8 HZ8
              go_wp2_with fail
              refine (sw_load_off HO.out HZ9.out).mono ?_
              rintro e w10 ⟨a10, c10, rfl, hbt, hz10, hE10⟩
              have HZ10 : Hid (SW (off D d n _ l t (f j).bs) w B (fun b => b = E) w10) := hz10
              have HS10 : Hid (Same (fun b => b = E) Wl w10) := HS9.out.trans hE10
              have hcv := conv_any (c := c10) hbt
              rw [HSL.out.1] at hcv
              clear hbt hz10 hE10 HS9 HZ9
              go_wp2_with fail
              refine (sw_turn_off HO.out HZ10.out).mono ?_
              rintro e w11 ⟨rfl, hz11, hE11⟩
              have HZ11 : Hid (SW (off D d n _ l t (f j).bs) w B (fun b => b = E) w11) := hz11
              have HS11 : Hid (Same (fun b => b = E) Wl w11) := HS10.out.trans hE11
              have g5 : w11.cell? ⟨E, 3, none⟩ = some (.slice (f j).ka (f j).kl (f j).kc) := (HE.out.of_block (HS11.out E rfl)).cell (i := 3) (by omega)
              clear hcv hz11 hE11 HS10 HZ10
              go_wp2_with fail
              refine (sw_crash_off HO.out HZ11.out (HSt.out.kt.below HZ11.out.below) HSt.out.kcap.1 HSt.out.kcap.2 (num_apart HSt.out.kt)).mono ?_
              rintro e w12 ⟨rfl, hor, hE12⟩
              have HS12 : Hid (Same (fun b => b = E) Wl w12) := HS11.out.trans hE12
              clear hE12 HS11 HZ11 g4 g5
              have e0 : ((t : Int) == (t : Int)) = true := beq_self_eq_true _
              rcases hor with hz12 | hz12
              · have HZ12 : Hid (SW (kept D d n l t) w B (fun b => b = E) w12) := hz12
                clear hz12
                go_wp2_with fail
                refine (sw_open HO.out HZ12.out HJ.out.2.1 (by have := HT.out; omega)).mono ?_
                rintro e w13 ⟨s13, rfl, hz13, -⟩
                have HZ13 : Hid (SW (on D d n s13 l t none) w B (fun b => b = E) w13) := hz13
                clear hz13 HZ12
                go_wp2_with fail
                refine (sw_load HO.out HZ13.out).mono ?_
                rintro e w14 ⟨a14, c14, rfl, hbt, hz14, -⟩
                have HZ14 : Hid (SW (on D d n s13 l t none) w B (fun b => b = E) w14) := hz14
                have hcv := conv_any (c := c14) hbt
                rw [HSL.out.1] at hcv
                clear hbt hz14 HZ13
                go_wp2_with fail
                refine (sw_turn HO.out HZ14.out).mono ?_
                rintro e w15 ⟨rfl, hz15, -⟩
                have HZ15 : Hid (SW (on D d n s13 l t none) w B (fun _ => False) w15) := hz15.less (fun _ z => z.elim)
                clear hcv hz15 HZ14
                go_wp2_with fail
                go_roundw
                case rel => exact ⟨j + 1, t, l, none, false, by omega, by omega, by go_num, by rw [HSL.out.1], rfl, rfl, fun q => absurd rfl q, HJ.out.2.1, by have := HJ.out.2.2.1; omega, HZ15.out⟩
                case measure => simp [intOf]; omega
              · have HZ12 : Hid (SW (kept D d n (f j).bs (t + 1)) w B (fun b => b = E) w12) := hz12
                clear hz12
                go_wp2_with fail
                refine (sw_open HO.out HZ12.out HX.out (by have := HT.out; omega)).mono ?_
                rintro e w13 ⟨s13, rfl, hz13, hE13⟩
                have HZ13 : Hid (SW (on D d n s13 (f j).bs (t + 1) none) w B (fun b => b = E) w13) := hz13
                have HS13 : Hid (Same (fun b => b = E) Wl w13) := HS12.out.trans hE13
                clear hz13 hE13 HS12 HZ12
                go_wp2_with fail
                refine (sw_load HO.out HZ13.out).mono ?_
                rintro e w14 ⟨a14, c14, rfl, hbt, hz14, hE14⟩
                have HZ14 : Hid (SW (on D d n s13 (f j).bs (t + 1) none) w B (fun b => b = E) w14) := hz14
                have HS14 : Hid (Same (fun b => b = E) Wl w14) := HS13.out.trans hE14
                have hcv := conv_any (c := c14) hbt
                rw [HSL.out.2] at hcv
                clear hbt hz14 hE14 HS13 HZ13
                go_wp2_with fail
                refine (sw_turn HO.out HZ14.out).mono ?_
                rintro e w15 ⟨rfl, hz15, hE15⟩
                have HZ15 : Hid (SW (on D d n s13 (f j).bs (t + 1) none) w B (fun _ => False) w15) := hz15.less (fun _ z => z.elim)
                have HS15 : Hid (Same (fun b => b = E) Wl w15) := HS14.out.trans hE15
                have g6 : w15.cell? ⟨E, 2, none⟩ = some (.slice (f j).ba (f j).bs.length (f j).bc) := (HE.out.of_block (HS15.out E rfl)).cell (i := 2) (by omega)
                have hcv2 := conv_any (c := (f j).bc) (HSt.out.bt.below HZ15.out.below)
                rw [HSL.out.2] at hcv2
                clear hcv hz15 hE15 HS14 HZ14
                have e1 : (((t + 1 : Nat) : Int) == (t : Int)) = false := by rw [beq_eq_false_iff_ne]; omega
                have e2 : (((t : Int) + 1) == (t : Int)) = false := by rw [beq_eq_false_iff_ne]; omega
                by_cases hq : sx = sl
                · subst hq
                  go_wp2_with fail
                  go_roundw
                  case rel => exact ⟨j + 1, t + 1, (f j).bs, none, false, by omega, by omega, by go_num, by rw [HSL.out.2], by go_num, rfl, fun q => absurd rfl q, HX.out, by have := HJ.out.2.2.1; omega, HZ15.out⟩
                  case measure => simp [intOf]; omega
                · have hq2 := toList_ne hq
                  go_wp2_with fail
                  go_roundw
                  case rel => exact ⟨j + 1, t + 1, (f j).bs, none, false, by omega, by omega, by go_num, by rw [HSL.out.2], by go_num, rfl, fun q => absurd rfl q, HX.out, by have := HJ.out.2.2.1; omega, HZ15.out⟩
                  case measure => simp [intOf]; omega
      · by_cases t1 : what = 1
        · obtain rfl := t1
          as_aux_lemma =>
            have g2 : Wl.cell? ⟨E, 2, none⟩ = some (.slice (f j).ba (f j).bs.length (f j).bc) := HE.out.cell (i := 2) (by omega)
            by_cases hbig : 960 < (f j).bs.length
            · go_wp2_with (first | rw [hWl])
              refine (sw_save_full HO.out HW.out (HSt.out.bt.below HW.out.below) HSt.out.bcap.1 HSt.out.bcap.2.1 hbig).mono ?_
              rintro e w6 ⟨rfl, hz6, hE6⟩
              have HZ6 : Hid (SW (on D d n _ l t g) w B (fun b => b = E) w6) := hz6
              have r6 := HE.out.of_block (hE6 E rfl)
              have g4 : w6.cell? ⟨E, 2, none⟩ = some (.slice (f j).ba (f j).bs.length (f j).bc) := r6.cell (i := 2) (by omega)
              have i3 : (960 : Int) < ((f j).bs.length : Nat) := by omega
              clear hz6 hE6 r6 hbig
              go_wp2_with fail
              refine (error_any (n := 3) ⟨Or.inr rfl⟩ (h0.below HZ6.out.below)).mono ?_
              rintro e w7 ⟨rfl, hb7⟩
              have hz7 := SW.step (P := on D d n _ l t g) HO.out.on_k HO.out.on_o HZ6.out hb7
              have HZ7 : Hid (SW (on D d n _ l t g) w B (fun _ => False) w7) := hz7.less (fun _ z => z.elim)
              clear hb7 hz7
              go_wp2_with fail
              go_roundw
              case rel => exact ⟨j + 1, t, l, g, ar, by omega, by omega, by go_num, rfl, rfl, rfl, HJ.out.1, HJ.out.2.1, by have := HJ.out.2.2.1; omega, HZ7.out⟩
              case measure => simp [intOf]; omega
            · have i3 : ¬ (960 : Int) < ((f j).bs.length : Nat) := by omega
              have HX : Hid ((f j).bs.length ≤ 960) := show _ ≤ _ by omega
              obtain ⟨sl, hsl⟩ : ∃ sl, str l = sl := ⟨_, rfl⟩
              obtain ⟨sx, hsx⟩ : ∃ sx, str (f j).bs = sx := ⟨_, rfl⟩
              rw [hsl]
              have HSL : Hid (str l = sl ∧ str (f j).bs = sx) := ⟨hsl, hsx⟩
              have HT : Hid (t ≤ 20) := show _ ≤ _ by have := HJ.out; omega
              clear hsl hsx hbig
              go_wp2_with (first | rw [hWl])
              refine (sw_save HO.out HW.out (HSt.out.bt.below HW.out.below) HSt.out.bcap.1 HSt.out.bcap.2.1 HSt.out.bcap.2.2 (bt_apart HSt.out.bt) HX.out HJ.out.2.1 (by have := HT.out; omega)).mono ?_
              rintro e w6 ⟨hor, hE6⟩
              have r6 := HE.out.of_block (hE6 E rfl)
              have g4 : w6.cell? ⟨E, 2, none⟩ = some (.slice (f j).ba (f j).bs.length (f j).bc) := r6.cell (i := 2) (by omega)
              have c5 : IntKind.i64.wrap ((t : Int) + 1) = ((t + 1 : Nat) : Int) := by rw [IntKind.wrap_i64]; have := HT.out; omega
              rcases hor with ⟨g6, rfl, hz6, hg6⟩ | ⟨rfl, hne, hz6⟩
              · have HZ6 : Hid (SW (on D d n _ (f j).bs (t + 1) g6) w B (fun b => b = E) w6) := hz6
                have HG : Hid (g6 ≠ none → ar = true) := fun q => HJ.out.1 fun z => q (hg6 z)
                have hcv := conv_any (c := (f j).bc) (HSt.out.bt.below HZ6.out.below)
                rw [HSL.out.2] at hcv
                clear hz6 hg6 hE6 r6
                go_wp2_with fail
                refine (sw_load HO.out HZ6.out).mono ?_
                rintro e w7 ⟨a7, c7, rfl, hbt, hz7, -⟩
                have HZ7 : Hid (SW (on D d n _ (f j).bs (t + 1) g6) w B (fun b => b = E) w7) := hz7
                have hcv2 := conv_any (c := c7) hbt
                rw [HSL.out.2] at hcv2
                clear hcv hz7 hbt
                go_wp2_with fail
                refine (sw_turn HO.out HZ7.out).mono ?_
                rintro e w8 ⟨rfl, hz8, -⟩
                have HZ8 : Hid (SW (on D d n _ (f j).bs (t + 1) g6) w B (fun _ => False) w8) := hz8.less (fun _ z => z.elim)
                clear hcv2 hz8
                go_wp2_with fail
                go_roundw
                case rel => exact ⟨j + 1, t + 1, (f j).bs, g6, ar, by omega, by omega, by go_num, by rw [HSL.out.2], by go_num, rfl, HG.out, HX.out, by have := HJ.out.2.2.1; omega, HZ8.out⟩
                case measure => simp [intOf]; omega
              · obtain rfl := HJ.out.1 hne
                have HZ6 : Hid (SW (off D d n _ l t (f j).bs) w B (fun b => b = E) w6) := hz6
                have HS6 : Hid (Same (fun b => b = E) Wl w6) := hE6
                clear hz6 hE6 r6 hne
                go_wp2_with fail
                refine (error_any (n := 8) ⟨Or.inr rfl⟩ (h0.below HZ6.out.below)).mono ?_
                rintro e w7 ⟨rfl, hb7⟩
                have HZ7 : Hid (SW (off D d n _ l t (f j).bs) w B (fun b => b = E) w7) := HZ6.out.step HO.out.off_k HO.out.off_o hb7
                have HS7 : Hid (Same (fun b => b = E) Wl w7) := HS6.out.trans (HZ6.out.same hb7)
                clear hb7 HS6 HZ6
                go_wp2_with fail
                refine (sw_save_off HO.out HZ7.out).mono ?_
                rintro e w8 ⟨rfl, hz8, hE8⟩
                have HZ8 : Hid (SW (off D d n _ l t (f j).bs) w B (fun b => b = E) w8) := hz8
                have HS8 : Hid (Same (fun b => b = E) Wl w8) := HS7.out.trans hE8
                clear hz8 hE8 HS7 HZ7
                go_wp2_with fail
                refine (error_any (n := 8) ⟨Or.inr rfl⟩ (h0.below HZ8.out.below)).mono ?_
                rintro e w9 ⟨rfl, hb9⟩
                have HZ9 : Hid (SW (off D d n _ l t (f j).bs) w B (fun b => b = E) w9) := HZ8.out.step HO.out.off_k HO.out.off_o hb9
                have HS9 : Hid (Same (fun b => b = E) Wl w9) := HS8.out.trans (HZ8.out.same hb9)
                clear hb9 HS8 HZ8
                go_wp2_with fail
                refine (sw_load_off HO.out HZ9.out).mono ?_
                rintro e w10 ⟨a10, c10, rfl, hbt, hz10, hE10⟩
                have HZ10 : Hid (SW (off D d n _ l t (f j).bs) w B (fun b => b = E) w10) := hz10
                have HS10 : Hid (Same (fun b => b = E) Wl w10) := HS9.out.trans hE10
                have hcv := conv_any (c := c10) hbt
                rw [HSL.out.1] at hcv
                clear hbt hz10 hE10 HS9 HZ9
                go_wp2_with fail
                refine (sw_turn_off HO.out HZ10.out).mono ?_
                rintro e w11 ⟨rfl, hz11, hE11⟩
                have HZ11 : Hid (SW (off D d n _ l t (f j).bs) w B (fun b => b = E) w11) := hz11
                have HS11 : Hid (Same (fun b => b = E) Wl w11) := HS10.out.trans hE11
                have g5 : w11.cell? ⟨E, 3, none⟩ = some (.slice (f j).ka (f j).kl (f j).kc) := (HE.out.of_block (HS11.out E rfl)).cell (i := 3) (by omega)
                clear hcv hz11 hE11 HS10 HZ10
                go_wp2_with fail
                refine (sw_crash_off HO.out HZ11.out (HSt.out.kt.below HZ11.out.below) HSt.out.kcap.1 HSt.out.kcap.2 (num_apart HSt.out.kt)).mono ?_
                rintro e w12 ⟨rfl, hor, hE12⟩
                have HS12 : Hid (Same (fun b => b = E) Wl w12) := HS11.out.trans hE12
                clear hE12 HS11 HZ11 g4 g5
                have e0 : ((t : Int) == (t : Int)) = true := beq_self_eq_true _
                rcases hor with hz12 | hz12
                · have HZ12 : Hid (SW (kept D d n l t) w B (fun b => b = E) w12) := hz12
                  clear hz12
                  go_wp2_with fail
                  refine (sw_open HO.out HZ12.out HJ.out.2.1 (by have := HT.out; omega)).mono ?_
                  rintro e w13 ⟨s13, rfl, hz13, -⟩
                  have HZ13 : Hid (SW (on D d n s13 l t none) w B (fun b => b = E) w13) := hz13
                  clear hz13 HZ12
                  go_wp2_with fail
                  refine (sw_load HO.out HZ13.out).mono ?_
                  rintro e w14 ⟨a14, c14, rfl, hbt, hz14, -⟩
                  have HZ14 : Hid (SW (on D d n s13 l t none) w B (fun b => b = E) w14) := hz14
                  have hcv := conv_any (c := c14) hbt
                  rw [HSL.out.1] at hcv
                  clear hbt hz14 HZ13
                  go_wp2_with fail
                  refine (sw_turn HO.out HZ14.out).mono ?_
                  rintro e w15 ⟨rfl, hz15, -⟩
                  have HZ15 : Hid (SW (on D d n s13 l t none) w B (fun _ => False) w15) := hz15.less (fun _ z => z.elim)
                  clear hcv hz15 HZ14
                  go_wp2_with fail
                  go_roundw
                  case rel => exact ⟨j + 1, t, l, none, false, by omega, by omega, by go_num, by rw [HSL.out.1], rfl, rfl, fun q => absurd rfl q, HJ.out.2.1, by have := HJ.out.2.2.1; omega, HZ15.out⟩
                  case measure => simp [intOf]; omega
                · have HZ12 : Hid (SW (kept D d n (f j).bs (t + 1)) w B (fun b => b = E) w12) := hz12
                  clear hz12
                  go_wp2_with fail
                  refine (sw_open HO.out HZ12.out HX.out (by have := HT.out; omega)).mono ?_
                  rintro e w13 ⟨s13, rfl, hz13, hE13⟩
                  have HZ13 : Hid (SW (on D d n s13 (f j).bs (t + 1) none) w B (fun b => b = E) w13) := hz13
                  have HS13 : Hid (Same (fun b => b = E) Wl w13) := HS12.out.trans hE13
                  clear hz13 hE13 HS12 HZ12
                  go_wp2_with fail
                  refine (sw_load HO.out HZ13.out).mono ?_
                  rintro e w14 ⟨a14, c14, rfl, hbt, hz14, hE14⟩
                  have HZ14 : Hid (SW (on D d n s13 (f j).bs (t + 1) none) w B (fun b => b = E) w14) := hz14
                  have HS14 : Hid (Same (fun b => b = E) Wl w14) := HS13.out.trans hE14
                  have hcv := conv_any (c := c14) hbt
                  rw [HSL.out.2] at hcv
                  clear hbt hz14 hE14 HS13 HZ13
                  go_wp2_with fail
                  refine (sw_turn HO.out HZ14.out).mono ?_
                  rintro e w15 ⟨rfl, hz15, hE15⟩
                  have HZ15 : Hid (SW (on D d n s13 (f j).bs (t + 1) none) w B (fun _ => False) w15) := hz15.less (fun _ z => z.elim)
                  have HS15 : Hid (Same (fun b => b = E) Wl w15) := HS14.out.trans hE15
                  have g6 : w15.cell? ⟨E, 2, none⟩ = some (.slice (f j).ba (f j).bs.length (f j).bc) := (HE.out.of_block (HS15.out E rfl)).cell (i := 2) (by omega)
                  have hcv2 := conv_any (c := (f j).bc) (HSt.out.bt.below HZ15.out.below)
                  rw [HSL.out.2] at hcv2
                  clear hcv hz15 hE15 HS14 HZ14
                  have e1 : (((t + 1 : Nat) : Int) == (t : Int)) = false := by rw [beq_eq_false_iff_ne]; omega
                  have e2 : (((t : Int) + 1) == (t : Int)) = false := by rw [beq_eq_false_iff_ne]; omega
                  by_cases hq : sx = sl
                  · subst hq
                    go_wp2_with fail
                    go_roundw
                    case rel => exact ⟨j + 1, t + 1, (f j).bs, none, false, by omega, by omega, by go_num, by rw [HSL.out.2], by go_num, rfl, fun q => absurd rfl q, HX.out, by have := HJ.out.2.2.1; omega, HZ15.out⟩
                    case measure => simp [intOf]; omega
                  · have hq2 := toList_ne hq
                    go_wp2_with fail
                    go_roundw
                    case rel => exact ⟨j + 1, t + 1, (f j).bs, none, false, by omega, by omega, by go_num, by rw [HSL.out.2], by go_num, rfl, fun q => absurd rfl q, HX.out, by have := HJ.out.2.2.1; omega, HZ15.out⟩
                    case measure => simp [intOf]; omega
        · by_cases t2 : what = 2
          · obtain rfl := t2
            as_aux_lemma =>
              have g2 : Wl.cell? ⟨E, 2, none⟩ = some (.slice (f j).ba (f j).bs.length (f j).bc) := HE.out.cell (i := 2) (by omega)
              by_cases hbig : 960 < (f j).bs.length
              · go_wp2_with (first | rw [hWl])
                refine (sw_save_full HO.out HW.out (HSt.out.bt.below HW.out.below) HSt.out.bcap.1 HSt.out.bcap.2.1 hbig).mono ?_
                rintro e w6 ⟨rfl, hz6, hE6⟩
                have HZ6 : Hid (SW (on D d n _ l t g) w B (fun b => b = E) w6) := hz6
                have r6 := HE.out.of_block (hE6 E rfl)
                have g4 : w6.cell? ⟨E, 2, none⟩ = some (.slice (f j).ba (f j).bs.length (f j).bc) := r6.cell (i := 2) (by omega)
                have i3 : (960 : Int) < ((f j).bs.length : Nat) := by omega
                clear hz6 hE6 r6 hbig
                go_wp2_with fail
                refine (error_any (n := 3) ⟨Or.inr rfl⟩ (h0.below HZ6.out.below)).mono ?_
                rintro e w7 ⟨rfl, hb7⟩
                have hz7 := SW.step (P := on D d n _ l t g) HO.out.on_k HO.out.on_o HZ6.out hb7
                have HZ7 : Hid (SW (on D d n _ l t g) w B (fun _ => False) w7) := hz7.less (fun _ z => z.elim)
                clear hb7 hz7
                go_wp2_with fail
                go_roundw
                case rel => exact ⟨j + 1, t, l, g, ar, by omega, by omega, by go_num, rfl, rfl, rfl, HJ.out.1, HJ.out.2.1, by have := HJ.out.2.2.1; omega, HZ7.out⟩
                case measure => simp [intOf]; omega
              · have i3 : ¬ (960 : Int) < ((f j).bs.length : Nat) := by omega
                have HX : Hid ((f j).bs.length ≤ 960) := show _ ≤ _ by omega
                obtain ⟨sl, hsl⟩ : ∃ sl, str l = sl := ⟨_, rfl⟩
                obtain ⟨sx, hsx⟩ : ∃ sx, str (f j).bs = sx := ⟨_, rfl⟩
                rw [hsl]
                have HSL : Hid (str l = sl ∧ str (f j).bs = sx) := ⟨hsl, hsx⟩
                have HT : Hid (t ≤ 20) := show _ ≤ _ by have := HJ.out; omega
                clear hsl hsx hbig
                go_wp2_with (first | rw [hWl])
                refine (sw_save HO.out HW.out (HSt.out.bt.below HW.out.below) HSt.out.bcap.1 HSt.out.bcap.2.1 HSt.out.bcap.2.2 (bt_apart HSt.out.bt) HX.out HJ.out.2.1 (by have := HT.out; omega)).mono ?_
                rintro e w6 ⟨hor, hE6⟩
                have r6 := HE.out.of_block (hE6 E rfl)
                have g4 : w6.cell? ⟨E, 2, none⟩ = some (.slice (f j).ba (f j).bs.length (f j).bc) := r6.cell (i := 2) (by omega)
                have c5 : IntKind.i64.wrap ((t : Int) + 1) = ((t + 1 : Nat) : Int) := by rw [IntKind.wrap_i64]; have := HT.out; omega
                rcases hor with ⟨g6, rfl, hz6, hg6⟩ | ⟨rfl, hne, hz6⟩
                · have HZ6 : Hid (SW (on D d n _ (f j).bs (t + 1) g6) w B (fun b => b = E) w6) := hz6
                  have HG : Hid (g6 ≠ none → ar = true) := fun q => HJ.out.1 fun z => q (hg6 z)
                  have hcv := conv_any (c := (f j).bc) (HSt.out.bt.below HZ6.out.below)
                  rw [HSL.out.2] at hcv
                  clear hz6 hg6 hE6 r6
                  go_wp2_with fail
                  refine (sw_load HO.out HZ6.out).mono ?_
                  rintro e w7 ⟨a7, c7, rfl, hbt, hz7, -⟩
                  have HZ7 : Hid (SW (on D d n _ (f j).bs (t + 1) g6) w B (fun b => b = E) w7) := hz7
                  have hcv2 := conv_any (c := c7) hbt
                  rw [HSL.out.2] at hcv2
                  clear hcv hz7 hbt
                  go_wp2_with fail
                  refine (sw_turn HO.out HZ7.out).mono ?_
                  rintro e w8 ⟨rfl, hz8, -⟩
                  have HZ8 : Hid (SW (on D d n _ (f j).bs (t + 1) g6) w B (fun _ => False) w8) := hz8.less (fun _ z => z.elim)
                  clear hcv2 hz8
                  go_wp2_with fail
                  go_roundw
                  case rel => exact ⟨j + 1, t + 1, (f j).bs, g6, ar, by omega, by omega, by go_num, by rw [HSL.out.2], by go_num, rfl, HG.out, HX.out, by have := HJ.out.2.2.1; omega, HZ8.out⟩
                  case measure => simp [intOf]; omega
                · obtain rfl := HJ.out.1 hne
                  have HZ6 : Hid (SW (off D d n _ l t (f j).bs) w B (fun b => b = E) w6) := hz6
                  have HS6 : Hid (Same (fun b => b = E) Wl w6) := hE6
                  clear hz6 hE6 r6 hne
                  go_wp2_with fail
                  refine (error_any (n := 8) ⟨Or.inr rfl⟩ (h0.below HZ6.out.below)).mono ?_
                  rintro e w7 ⟨rfl, hb7⟩
                  have HZ7 : Hid (SW (off D d n _ l t (f j).bs) w B (fun b => b = E) w7) := HZ6.out.step HO.out.off_k HO.out.off_o hb7
                  have HS7 : Hid (Same (fun b => b = E) Wl w7) := HS6.out.trans (HZ6.out.same hb7)
                  clear hb7 HS6 HZ6
                  go_wp2_with fail
                  refine (sw_save_off HO.out HZ7.out).mono ?_
                  rintro e w8 ⟨rfl, hz8, hE8⟩
                  have HZ8 : Hid (SW (off D d n _ l t (f j).bs) w B (fun b => b = E) w8) := hz8
                  have HS8 : Hid (Same (fun b => b = E) Wl w8) := HS7.out.trans hE8
                  clear hz8 hE8 HS7 HZ7
                  go_wp2_with fail
                  refine (error_any (n := 8) ⟨Or.inr rfl⟩ (h0.below HZ8.out.below)).mono ?_
                  rintro e w9 ⟨rfl, hb9⟩
                  have HZ9 : Hid (SW (off D d n _ l t (f j).bs) w B (fun b => b = E) w9) := HZ8.out.step HO.out.off_k HO.out.off_o hb9
                  have HS9 : Hid (Same (fun b => b = E) Wl w9) := HS8.out.trans (HZ8.out.same hb9)
                  clear hb9 HS8 HZ8
                  go_wp2_with fail
                  refine (sw_load_off HO.out HZ9.out).mono ?_
                  rintro e w10 ⟨a10, c10, rfl, hbt, hz10, hE10⟩
                  have HZ10 : Hid (SW (off D d n _ l t (f j).bs) w B (fun b => b = E) w10) := hz10
                  have HS10 : Hid (Same (fun b => b = E) Wl w10) := HS9.out.trans hE10
                  have hcv := conv_any (c := c10) hbt
                  rw [HSL.out.1] at hcv
                  clear hbt hz10 hE10 HS9 HZ9
                  go_wp2_with fail
                  refine (sw_turn_off HO.out HZ10.out).mono ?_
                  rintro e w11 ⟨rfl, hz11, hE11⟩
                  have HZ11 : Hid (SW (off D d n _ l t (f j).bs) w B (fun b => b = E) w11) := hz11
                  have HS11 : Hid (Same (fun b => b = E) Wl w11) := HS10.out.trans hE11
                  have g5 : w11.cell? ⟨E, 3, none⟩ = some (.slice (f j).ka (f j).kl (f j).kc) := (HE.out.of_block (HS11.out E rfl)).cell (i := 3) (by omega)
                  clear hcv hz11 hE11 HS10 HZ10
                  go_wp2_with fail
                  refine (sw_crash_off HO.out HZ11.out (HSt.out.kt.below HZ11.out.below) HSt.out.kcap.1 HSt.out.kcap.2 (num_apart HSt.out.kt)).mono ?_
                  rintro e w12 ⟨rfl, hor, hE12⟩
                  have HS12 : Hid (Same (fun b => b = E) Wl w12) := HS11.out.trans hE12
                  clear hE12 HS11 HZ11 g4 g5
                  have e0 : ((t : Int) == (t : Int)) = true := beq_self_eq_true _
                  rcases hor with hz12 | hz12
                  · have HZ12 : Hid (SW (kept D d n l t) w B (fun b => b = E) w12) := hz12
                    clear hz12
                    go_wp2_with fail
                    refine (sw_open HO.out HZ12.out HJ.out.2.1 (by have := HT.out; omega)).mono ?_
                    rintro e w13 ⟨s13, rfl, hz13, -⟩
                    have HZ13 : Hid (SW (on D d n s13 l t none) w B (fun b => b = E) w13) := hz13
                    clear hz13 HZ12
                    go_wp2_with fail
                    refine (sw_load HO.out HZ13.out).mono ?_
                    rintro e w14 ⟨a14, c14, rfl, hbt, hz14, -⟩
                    have HZ14 : Hid (SW (on D d n s13 l t none) w B (fun b => b = E) w14) := hz14
                    have hcv := conv_any (c := c14) hbt
                    rw [HSL.out.1] at hcv
                    clear hbt hz14 HZ13
                    go_wp2_with fail
                    refine (sw_turn HO.out HZ14.out).mono ?_
                    rintro e w15 ⟨rfl, hz15, -⟩
                    have HZ15 : Hid (SW (on D d n s13 l t none) w B (fun _ => False) w15) := hz15.less (fun _ z => z.elim)
                    clear hcv hz15 HZ14
                    go_wp2_with fail
                    go_roundw
                    case rel => exact ⟨j + 1, t, l, none, false, by omega, by omega, by go_num, by rw [HSL.out.1], rfl, rfl, fun q => absurd rfl q, HJ.out.2.1, by have := HJ.out.2.2.1; omega, HZ15.out⟩
                    case measure => simp [intOf]; omega
                  · have HZ12 : Hid (SW (kept D d n (f j).bs (t + 1)) w B (fun b => b = E) w12) := hz12
                    clear hz12
                    go_wp2_with fail
                    refine (sw_open HO.out HZ12.out HX.out (by have := HT.out; omega)).mono ?_
                    rintro e w13 ⟨s13, rfl, hz13, hE13⟩
                    have HZ13 : Hid (SW (on D d n s13 (f j).bs (t + 1) none) w B (fun b => b = E) w13) := hz13
                    have HS13 : Hid (Same (fun b => b = E) Wl w13) := HS12.out.trans hE13
                    clear hz13 hE13 HS12 HZ12
                    go_wp2_with fail
                    refine (sw_load HO.out HZ13.out).mono ?_
                    rintro e w14 ⟨a14, c14, rfl, hbt, hz14, hE14⟩
                    have HZ14 : Hid (SW (on D d n s13 (f j).bs (t + 1) none) w B (fun b => b = E) w14) := hz14
                    have HS14 : Hid (Same (fun b => b = E) Wl w14) := HS13.out.trans hE14
                    have hcv := conv_any (c := c14) hbt
                    rw [HSL.out.2] at hcv
                    clear hbt hz14 hE14 HS13 HZ13
                    go_wp2_with fail
                    refine (sw_turn HO.out HZ14.out).mono ?_
                    rintro e w15 ⟨rfl, hz15, hE15⟩
                    have HZ15 : Hid (SW (on D d n s13 (f j).bs (t + 1) none) w B (fun _ => False) w15) := hz15.less (fun _ z => z.elim)
                    have HS15 : Hid (Same (fun b => b = E) Wl w15) := HS14.out.trans hE15
                    have g6 : w15.cell? ⟨E, 2, none⟩ = some (.slice (f j).ba (f j).bs.length (f j).bc) := (HE.out.of_block (HS15.out E rfl)).cell (i := 2) (by omega)
                    have hcv2 := conv_any (c := (f j).bc) (HSt.out.bt.below HZ15.out.below)
                    rw [HSL.out.2] at hcv2
                    clear hcv hz15 hE15 HS14 HZ14
                    have e1 : (((t + 1 : Nat) : Int) == (t : Int)) = false := by rw [beq_eq_false_iff_ne]; omega
                    have e2 : (((t : Int) + 1) == (t : Int)) = false := by rw [beq_eq_false_iff_ne]; omega
                    by_cases hq : sx = sl
                    · subst hq
                      go_wp2_with fail
                      go_roundw
                      case rel => exact ⟨j + 1, t + 1, (f j).bs, none, false, by omega, by omega, by go_num, by rw [HSL.out.2], by go_num, rfl, fun q => absurd rfl q, HX.out, by have := HJ.out.2.2.1; omega, HZ15.out⟩
                      case measure => simp [intOf]; omega
                    · have hq2 := toList_ne hq
                      go_wp2_with fail
                      go_roundw
                      case rel => exact ⟨j + 1, t + 1, (f j).bs, none, false, by omega, by omega, by go_num, by rw [HSL.out.2], by go_num, rfl, fun q => absurd rfl q, HX.out, by have := HJ.out.2.2.1; omega, HZ15.out⟩
                      case measure => simp [intOf]; omega
          · by_cases t3 : what = 3
            · obtain rfl := t3
              as_aux_lemma =>
                have g2 : Wl.cell? ⟨E, 2, none⟩ = some (.slice (f j).ba (f j).bs.length (f j).bc) := HE.out.cell (i := 2) (by omega)
                by_cases hbig : 960 < (f j).bs.length
                · go_wp2_with (first | rw [hWl])
                  refine (sw_save_full HO.out HW.out (HSt.out.bt.below HW.out.below) HSt.out.bcap.1 HSt.out.bcap.2.1 hbig).mono ?_
                  rintro e w6 ⟨rfl, hz6, hE6⟩
                  have HZ6 : Hid (SW (on D d n _ l t g) w B (fun b => b = E) w6) := hz6
                  have r6 := HE.out.of_block (hE6 E rfl)
                  have g4 : w6.cell? ⟨E, 2, none⟩ = some (.slice (f j).ba (f j).bs.length (f j).bc) := r6.cell (i := 2) (by omega)
                  have i3 : (960 : Int) < ((f j).bs.length : Nat) := by omega
                  clear hz6 hE6 r6 hbig
                  go_wp2_with fail
                  refine (error_any (n := 3) ⟨Or.inr rfl⟩ (h0.below HZ6.out.below)).mono ?_
                  rintro e w7 ⟨rfl, hb7⟩
                  have hz7 := SW.step (P := on D d n _ l t g) HO.out.on_k HO.out.on_o HZ6.out hb7
                  have HZ7 : Hid (SW (on D d n _ l t g) w B (fun _ => False) w7) := hz7.less (fun _ z => z.elim)
                  clear hb7 hz7
                  go_wp2_with fail
                  go_roundw
                  case rel => exact ⟨j + 1, t, l, g, ar, by omega, by omega, by go_num, rfl, rfl, rfl, HJ.out.1, HJ.out.2.1, by have := HJ.out.2.2.1; omega, HZ7.out⟩
                  case measure => simp [intOf]; omega
                · have i3 : ¬ (960 : Int) < ((f j).bs.length : Nat) := by omega
                  have HX : Hid ((f j).bs.length ≤ 960) := show _ ≤ _ by omega
                  obtain ⟨sl, hsl⟩ : ∃ sl, str l = sl := ⟨_, rfl⟩
                  obtain ⟨sx, hsx⟩ : ∃ sx, str (f j).bs = sx := ⟨_, rfl⟩
                  rw [hsl]
                  have HSL : Hid (str l = sl ∧ str (f j).bs = sx) := ⟨hsl, hsx⟩
                  have HT : Hid (t ≤ 20) := show _ ≤ _ by have := HJ.out; omega
                  clear hsl hsx hbig
                  go_wp2_with (first | rw [hWl])
                  refine (sw_save HO.out HW.out (HSt.out.bt.below HW.out.below) HSt.out.bcap.1 HSt.out.bcap.2.1 HSt.out.bcap.2.2 (bt_apart HSt.out.bt) HX.out HJ.out.2.1 (by have := HT.out; omega)).mono ?_
                  rintro e w6 ⟨hor, hE6⟩
                  have r6 := HE.out.of_block (hE6 E rfl)
                  have g4 : w6.cell? ⟨E, 2, none⟩ = some (.slice (f j).ba (f j).bs.length (f j).bc) := r6.cell (i := 2) (by omega)
                  have c5 : IntKind.i64.wrap ((t : Int) + 1) = ((t + 1 : Nat) : Int) := by rw [IntKind.wrap_i64]; have := HT.out; omega
                  rcases hor with ⟨g6, rfl, hz6, hg6⟩ | ⟨rfl, hne, hz6⟩
                  · have HZ6 : Hid (SW (on D d n _ (f j).bs (t + 1) g6) w B (fun b => b = E) w6) := hz6
                    have HG : Hid (g6 ≠ none → ar = true) := fun q => HJ.out.1 fun z => q (hg6 z)
                    have hcv := conv_any (c := (f j).bc) (HSt.out.bt.below HZ6.out.below)
                    rw [HSL.out.2] at hcv
                    clear hz6 hg6 hE6 r6
                    go_wp2_with fail
                    refine (sw_load HO.out HZ6.out).mono ?_
                    rintro e w7 ⟨a7, c7, rfl, hbt, hz7, -⟩
                    have HZ7 : Hid (SW (on D d n _ (f j).bs (t + 1) g6) w B (fun b => b = E) w7) := hz7
                    have hcv2 := conv_any (c := c7) hbt
                    rw [HSL.out.2] at hcv2
                    clear hcv hz7 hbt
                    go_wp2_with fail
                    refine (sw_turn HO.out HZ7.out).mono ?_
                    rintro e w8 ⟨rfl, hz8, -⟩
                    have HZ8 : Hid (SW (on D d n _ (f j).bs (t + 1) g6) w B (fun _ => False) w8) := hz8.less (fun _ z => z.elim)
                    clear hcv2 hz8
                    go_wp2_with fail
                    go_roundw
                    case rel => exact ⟨j + 1, t + 1, (f j).bs, g6, ar, by omega, by omega, by go_num, by rw [HSL.out.2], by go_num, rfl, HG.out, HX.out, by have := HJ.out.2.2.1; omega, HZ8.out⟩
                    case measure => simp [intOf]; omega
                  · obtain rfl := HJ.out.1 hne
                    have HZ6 : Hid (SW (off D d n _ l t (f j).bs) w B (fun b => b = E) w6) := hz6
                    have HS6 : Hid (Same (fun b => b = E) Wl w6) := hE6
                    clear hz6 hE6 r6 hne
                    go_wp2_with fail
                    refine (error_any (n := 8) ⟨Or.inr rfl⟩ (h0.below HZ6.out.below)).mono ?_
                    rintro e w7 ⟨rfl, hb7⟩
                    have HZ7 : Hid (SW (off D d n _ l t (f j).bs) w B (fun b => b = E) w7) := HZ6.out.step HO.out.off_k HO.out.off_o hb7
                    have HS7 : Hid (Same (fun b => b = E) Wl w7) := HS6.out.trans (HZ6.out.same hb7)
                    clear hb7 HS6 HZ6
                    go_wp2_with fail
                    refine (sw_save_off HO.out HZ7.out).mono ?_
                    rintro e w8 ⟨rfl, hz8, hE8⟩
                    have HZ8 : Hid (SW (off D d n _ l t (f j).bs) w B (fun b => b = E) w8) := hz8
                    have HS8 : Hid (Same (fun b => b = E) Wl w8) := HS7.out.trans hE8
                    clear hz8 hE8 HS7 HZ7
                    go_wp2_with fail
                    refine (error_any (n := 8) ⟨Or.inr rfl⟩ (h0.below HZ8.out.below)).mono ?_
                    rintro e w9 ⟨rfl, hb9⟩
                    have HZ9 : Hid (SW (off D d n _ l t (f j).bs) w B (fun b => b = E) w9) := HZ8.out.step HO.out.off_k HO.out.off_o hb9
                    have HS9 : Hid (Same (fun b => b = E) Wl w9) := HS8.out.trans (HZ8.out.same hb9)
                    clear hb9 HS8 HZ8
                    go_wp2_with fail
                    refine (sw_load_off HO.out HZ9.out).mono ?_
                    rintro e w10 ⟨a10, c10, rfl, hbt, hz10, hE10⟩
                    have HZ10 : Hid (SW (off D d n _ l t (f j).bs) w B (fun b => b = E) w10) := hz10
                    have HS10 : Hid (Same (fun b => b = E) Wl w10) := HS9.out.trans hE10
                    have hcv := conv_any (c := c10) hbt
                    rw [HSL.out.1] at hcv
                    clear hbt hz10 hE10 HS9 HZ9
                    go_wp2_with fail
                    refine (sw_turn_off HO.out HZ10.out).mono ?_
                    rintro e w11 ⟨rfl, hz11, hE11⟩
                    have HZ11 : Hid (SW (off D d n _ l t (f j).bs) w B (fun b => b = E) w11) := hz11
                    have HS11 : Hid (Same (fun b => b = E) Wl w11) := HS10.out.trans hE11
                    have g5 : w11.cell? ⟨E, 3, none⟩ = some (.slice (f j).ka (f j).kl (f j).kc) := (HE.out.of_block (HS11.out E rfl)).cell (i := 3) (by omega)
                    clear hcv hz11 hE11 HS10 HZ10
                    go_wp2_with fail
                    refine (sw_crash_off HO.out HZ11.out (HSt.out.kt.below HZ11.out.below) HSt.out.kcap.1 HSt.out.kcap.2 (num_apart HSt.out.kt)).mono ?_
                    rintro e w12 ⟨rfl, hor, hE12⟩
                    have HS12 : Hid (Same (fun b => b = E) Wl w12) := HS11.out.trans hE12
                    clear hE12 HS11 HZ11 g4 g5
                    have e0 : ((t : Int) == (t : Int)) = true := beq_self_eq_true _
                    rcases hor with hz12 | hz12
                    · have HZ12 : Hid (SW (kept D d n l t) w B (fun b => b = E) w12) := hz12
                      clear hz12
                      go_wp2_with fail
                      refine (sw_open HO.out HZ12.out HJ.out.2.1 (by have := HT.out; omega)).mono ?_
                      rintro e w13 ⟨s13, rfl, hz13, -⟩
                      have HZ13 : Hid (SW (on D d n s13 l t none) w B (fun b => b = E) w13) := hz13
                      clear hz13 HZ12
                      go_wp2_with fail
                      refine (sw_load HO.out HZ13.out).mono ?_
                      rintro e w14 ⟨a14, c14, rfl, hbt, hz14, -⟩
                      have HZ14 : Hid (SW (on D d n s13 l t none) w B (fun b => b = E) w14) := hz14
                      have hcv := conv_any (c := c14) hbt
                      rw [HSL.out.1] at hcv
                      clear hbt hz14 HZ13
                      go_wp2_with fail
                      refine (sw_turn HO.out HZ14.out).mono ?_
                      rintro e w15 ⟨rfl, hz15, -⟩
                      have HZ15 : Hid (SW (on D d n s13 l t none) w B (fun _ => False) w15) := hz15.less (fun _ z => z.elim)
                      clear hcv hz15 HZ14
                      go_wp2_with fail
                      go_roundw
                      case rel => exact ⟨j + 1, t, l, none, false, by omega, by omega, by go_num, by rw [HSL.out.1], rfl, rfl, fun q => absurd rfl q, HJ.out.2.1, by have := HJ.out.2.2.1; omega, HZ15.out⟩
                      case measure => simp [intOf]; omega
                    · have HZ12 : Hid (SW (kept D d n (f j).bs (t + 1)) w B (fun b => b = E) w12) := hz12
                      clear hz12
                      go_wp2_with fail
                      refine (sw_open HO.out HZ12.out HX.out (by have := HT.out; omega)).mono ?_
                      rintro e w13 ⟨s13, rfl, hz13, hE13⟩
                      have HZ13 : Hid (SW (on D d n s13 (f j).bs (t + 1) none) w B (fun b => b = E) w13) := hz13
                      have HS13 : Hid (Same (fun b => b = E) Wl w13) := HS12.out.trans hE13
                      clear hz13 hE13 HS12 HZ12
                      go_wp2_with fail
                      refine (sw_load HO.out HZ13.out).mono ?_
                      rintro e w14 ⟨a14, c14, rfl, hbt, hz14, hE14⟩
                      have HZ14 : Hid (SW (on D d n s13 (f j).bs (t + 1) none) w B (fun b => b = E) w14) := hz14
                      have HS14 : Hid (Same (fun b => b = E) Wl w14) := HS13.out.trans hE14
                      have hcv := conv_any (c := c14) hbt
                      rw [HSL.out.2] at hcv
                      clear hbt hz14 hE14 HS13 HZ13
                      go_wp2_with fail
                      refine (sw_turn HO.out HZ14.out).mono ?_
                      rintro e w15 ⟨rfl, hz15, hE15⟩
                      have HZ15 : Hid (SW (on D d n s13 (f j).bs (t + 1) none) w B (fun _ => False) w15) := hz15.less (fun _ z => z.elim)
                      have HS15 : Hid (Same (fun b => b = E) Wl w15) := HS14.out.trans hE15
                      have g6 : w15.cell? ⟨E, 2, none⟩ = some (.slice (f j).ba (f j).bs.length (f j).bc) := (HE.out.of_block (HS15.out E rfl)).cell (i := 2) (by omega)
                      have hcv2 := conv_any (c := (f j).bc) (HSt.out.bt.below HZ15.out.below)
                      rw [HSL.out.2] at hcv2
                      clear hcv hz15 hE15 HS14 HZ14
                      have e1 : (((t + 1 : Nat) : Int) == (t : Int)) = false := by rw [beq_eq_false_iff_ne]; omega
                      have e2 : (((t : Int) + 1) == (t : Int)) = false := by rw [beq_eq_false_iff_ne]; omega
                      by_cases hq : sx = sl
                      · subst hq
                        go_wp2_with fail
                        go_roundw
                        case rel => exact ⟨j + 1, t + 1, (f j).bs, none, false, by omega, by omega, by go_num, by rw [HSL.out.2], by go_num, rfl, fun q => absurd rfl q, HX.out, by have := HJ.out.2.2.1; omega, HZ15.out⟩
                        case measure => simp [intOf]; omega
                      · have hq2 := toList_ne hq
                        go_wp2_with fail
                        go_roundw
                        case rel => exact ⟨j + 1, t + 1, (f j).bs, none, false, by omega, by omega, by go_num, by rw [HSL.out.2], by go_num, rfl, fun q => absurd rfl q, HX.out, by have := HJ.out.2.2.1; omega, HZ15.out⟩
                        case measure => simp [intOf]; omega
            · by_cases t5 : what = 5
              · obtain rfl := t5
                as_aux_lemma =>
                  have g1 : Wl.cell? ⟨E, 1, none⟩ = some (.int .i64 nm) := HE.out.cell (i := 1) (by omega)
                  have HWd : Hid (-9223372036854775808 ≤ nm ∧ nm ≤ 9223372036854775807) := show _ ∧ _ by rw [← HWN.out.2]; exact HSt.out.wide
                  go_wp2_with (first | rw [hWl])
                  refine (sw_fail HO.out HW.out nm HWd.out).mono ?_
                  rintro e w6 ⟨rfl, hz6, hE6⟩
                  have r6 := HE.out.of_block (hE6 E rfl)
                  have g4 : w6.cell? ⟨E, 1, none⟩ = some (.int .i64 nm) := r6.cell (i := 1) (by omega)
                  have HZ6 : Hid (SW (on D d n _ l t (given nm)) w B (fun _ => False) w6) := hz6.less (fun _ z => z.elim)
                  clear hz6 hE6 r6
                  by_cases hk : 0 ≤ nm
                  · go_wp2_with fail
                    go_roundw
                    case rel => exact ⟨j + 1, t, l, given nm, true, by omega, by omega, by go_num, rfl, rfl, rfl, fun _ => rfl, HJ.out.2.1, by have := HJ.out.2.2.1; omega, HZ6.out⟩
                    case measure => simp [intOf]; omega
                  · go_wp2_with fail
                    go_roundw
                    case rel => exact ⟨j + 1, t, l, given nm, false, by omega, by omega, by go_num, rfl, rfl, by simp; omega, fun q => absurd (show given nm = none by unfold given; rw [if_pos (by omega)]) q, HJ.out.2.1, by have := HJ.out.2.2.1; omega, HZ6.out⟩
                    case measure => simp [intOf]; omega
              · by_cases t6 : what = 6
                · obtain rfl := t6
                  as_aux_lemma =>
                    have g3 : Wl.cell? ⟨E, 3, none⟩ = some (.slice (f j).ka (f j).kl (f j).kc) := HE.out.cell (i := 3) (by omega)
                    obtain ⟨sl, hsl⟩ : ∃ sl, str l = sl := ⟨_, rfl⟩
                    rw [hsl]
                    have HSL : Hid (str l = sl) := hsl
                    clear hsl
                    go_wp2_with (first | rw [hWl])
                    refine (sw_crash HO.out HW.out (HSt.out.kt.below HW.out.below) HSt.out.kcap.1 HSt.out.kcap.2 (num_apart HSt.out.kt)).mono ?_
                    rintro e w6 ⟨rfl, hz6, -⟩
                    have HZ6 : Hid (SW (kept D d n l t) w B (fun _ => False) w6) := hz6.less (fun _ z => z.elim)
                    clear hz6
                    go_wp2_with fail
                    refine (sw_open HO.out HZ6.out HJ.out.2.1 (by have := HJ.out; omega)).mono ?_
                    rintro e w7 ⟨s7, rfl, hz7, -⟩
                    have HZ7 : Hid (SW (on D d n s7 l t none) w B (fun _ => False) w7) := hz7
                    clear hz7
                    go_wp2_with fail
                    refine (sw_load HO.out HZ7.out).mono ?_
                    rintro e w8 ⟨a8, c8, rfl, hbt, hz8, -⟩
                    have HZ8 : Hid (SW (on D d n s7 l t none) w B (fun _ => False) w8) := hz8
                    have hcv := conv_any (c := c8) hbt
                    rw [HSL.out] at hcv
                    clear hbt hz8
                    go_wp2_with fail
                    refine (sw_turn HO.out HZ8.out).mono ?_
                    rintro e w9 ⟨rfl, hz9, -⟩
                    have HZ9 : Hid (SW (on D d n s7 l t none) w B (fun _ => False) w9) := hz9
                    clear hcv hz9
                    go_wp2_with fail
                    go_roundw
                    case rel => exact ⟨j + 1, t, l, none, false, by omega, by omega, by go_num, by rw [HSL.out], rfl, rfl, fun q => absurd rfl q, HJ.out.2.1, by have := HJ.out.2.2.1; omega, HZ9.out⟩
                    case measure => simp [intOf]; omega
                · as_aux_lemma =>
                    have HZ6 : Hid (SW (on D d n _ l t g) w B (fun _ => False) Wl) := HW.out.less (fun _ z => z.elim)
                    go_wp2_with (first | rw [hWl])
                    go_roundw
                    case rel => exact ⟨j + 1, t, l, g, ar, by omega, by omega, by go_num, rfl, rfl, rfl, HJ.out.1, HJ.out.2.1, by have := HJ.out.2.2.1; omega, HZ6.out⟩
                    case measure => simp [intOf]; omega
    · have HB : Hid (Below w.heap.size w wr) := hz.below
      clear hz
      by_cases h1 : j < m
      · have i1 : (j : Int) < (m : Int) := by omega
        have i2 : ¬ (j : Int) < 20 := by omega
        go_wp2_with fail
        go_ret
        exact ⟨rfl, HB.out⟩
      · have i1 : ¬ (j : Int) < (m : Int) := by omega
        go_wp2_with fail
        go_ret
        exact ⟨rfl, HB.out⟩

end Go.Proofs.YtdbebeemhomjkacDoor.Sk
