/-
  StoreKeeps, where there is no such disk, or too small a one, whatever packages store and disk that answer as they are to.
-/
import Derived.Test.YtdbebeemhomjkacDoorEc
namespace Go.Proofs.YtdbebeemhomjkacDoor.Sk
open Go.RowKit Go.Deep Go.Proofs.YtdbebeemhomjkacDoor.Dk
open Go.RowKit (Below)
set_option linter.unusedVariables false

variable {w w' wr : World} {D : Face} {B n t : Nat} {d s : Value} {l x : List UInt8} {g : Option Nat} {X : Nat → Prop}

set_option maxRecDepth 100000 in
set_option maxHeartbeats 8000000 in
theorem keeps_no (O : StoreOk D) (h0 : ErrType w) {a : Option Addr} {m c : Nat} (p : Int) (hp : p < 1 ∨ 80 < p) :
    Calls Tryd.prog 5 #[.int .i64 p, .slice a m c] w fun e w' => e = .returned (.bool true) ∧ Below w.heap.size w w' := by
  have HP : Hid (p < 1 ∨ 80 < p) := hp
  have HO : Hid (StoreOk D) := O
  clear hp O
  go_enter Tryd.func5, Tryd.ntmps5
  go_wp2_with fail
  refine (sw_new (n := 80) HO.out (Below.refl _ w) (by omega) (by omega)).mono ?_
  rintro e w1 ⟨z, rfl, hz⟩
  have HZ1 : Hid (SW (raw D z 80) w w.heap.size (fun _ => False) w1) := hz
  clear hz
  go_wp2_with fail
  refine (sw_format HO.out HZ1.out (by omega)).mono ?_
  rintro e w2 ⟨rfl, hz, -⟩
  have HZ2 : Hid (SW (kept D z 80 [] 0) w w.heap.size (fun _ => False) w2) := hz
  clear hz HZ1
  go_wp2_with fail
  refine (sw_open HO.out HZ2.out (by decide) (by decide)).mono ?_
  rintro e w3 ⟨s3, rfl, hz, -⟩
  have HZ3 : Hid (SW (on D z 80 s3 [] 0 none) w w.heap.size (fun b => False ∨ b = w3.heap.size) (w3.alloc (.cells #[.int .u8 104, .int .u8 105] 5 (2, 3)))) := SW.apart (P := on D z 80 s3 [] 0 none) HO.out.on_k HO.out.on_o hz _
  have hcv : (convert 31 31 (.slice (some ⟨w3.heap.size, 0, none⟩) 2 2)).run Tryd.prog (w3.alloc (.cells #[.int .u8 104, .int .u8 105] 5)) = .ok (.slice (some ⟨w3.heap.size, 0, none⟩) 2 2) (w3.alloc (.cells #[.int .u8 104, .int .u8 105] 5 (2, 3))) := Lib.run_convert_bytes_const w3 31 5 _ 2 2 Tryd.underlying31 Tryd.underlying5
  clear hz HZ2
  go_wp2_with fail
  clear hcv
  refine (sw_save (x := [104, 105]) (c := 2) HO.out HZ3.out (hi_bytes w3) (by decide) (by decide) (fun e => by cases e) (fun _ b o e => Or.inr (Or.inr (by simp at e; exact e.1.symm))) (by decide) (by decide) (by decide)).mono ?_
  rintro e w4 ⟨hor, -⟩
  replace hor := hor.resolve_right fun q => q.2.1 rfl
  obtain ⟨g4, rfl, hz, hg⟩ := hor
  obtain rfl := hg rfl
  have HZ4 : Hid (SW (on D z 80 s3 [104, 105] 1 none) w w.heap.size (fun _ => False) w4) := hz.less fun b q => q.elim
  clear hz hg HZ3
  go_wp2_with fail
  refine (sw_crash (a := none) (m := 0) (c := 0) (f := fun _ => 0) HO.out HZ4.out (fun i hi => absurd hi (Nat.not_lt_zero _)) (Nat.le_refl _) (Nat.zero_le _) (fun q => absurd q (by decide))).mono ?_
  rintro e w5 ⟨rfl, hz, -⟩
  have HZ5 : Hid (SW (kept D z 80 [104, 105] 1) w w.heap.size (fun _ => False) w5) := hz
  clear hz HZ4
  go_wp2_with fail
  refine (sw_open HO.out HZ5.out (by decide) (by decide)).mono ?_
  rintro e w6 ⟨s6, rfl, hz, -⟩
  have HZ6 : Hid (SW (on D z 80 s6 [104, 105] 1 none) w w.heap.size (fun _ => False) w6) := hz
  clear hz HZ5
  go_wp2_with fail
  refine (sw_load HO.out HZ6.out).mono ?_
  rintro e w7 ⟨a7, c7, rfl, hbt, hz, -⟩
  have HZ7 : Hid (SW (on D z 80 s6 [104, 105] 1 none) w w.heap.size (fun _ => False) w7) := hz
  have hcv : (convert 31 9 (.slice a7 2 c7)).run Tryd.prog w7 = .ok (.string ⟨#[104, 105]⟩) w7 := conv_any (l := [104, 105]) hbt
  clear hz HZ6 hbt
  go_wp2_with fail
  clear hcv
  refine (sw_turn HO.out HZ7.out).mono ?_
  rintro e w8 ⟨rfl, hz, -⟩
  have HB8 : Hid (Below w.heap.size w w8) := hz.below
  clear hz HZ7
  go_wp2_with fail
  refine (HO.out.new_no p HP.out).mono ?_
  rintro e w9 ⟨rfl, hb⟩
  have HB9 : Hid (Below w.heap.size w w9) := below_step HB8.out hb
  clear hb HB8
  go_wp2_with fail
  go_ret
  exact ⟨rfl, HB9.out⟩

set_option maxRecDepth 100000 in
set_option maxHeartbeats 8000000 in
theorem keeps_few (O : StoreOk D) (h0 : ErrType w) {a : Option Addr} {m c : Nat} (n : Nat) (hn : 1 ≤ n ∧ n < 62) :
    Calls Tryd.prog 5 #[.int .i64 (n : Nat), .slice a m c] w fun e w' => e = .returned (.bool true) ∧ Below w.heap.size w w' := by
  have HP : Hid (1 ≤ n ∧ n < 62) := hn
  have HO : Hid (StoreOk D) := O
  clear hn O
  go_enter Tryd.func5, Tryd.ntmps5
  go_wp2_with fail
  refine (sw_new (n := 80) HO.out (Below.refl _ w) (by omega) (by omega)).mono ?_
  rintro e w1 ⟨z, rfl, hz⟩
  have HZ1 : Hid (SW (raw D z 80) w w.heap.size (fun _ => False) w1) := hz
  clear hz
  go_wp2_with fail
  refine (sw_format HO.out HZ1.out (by omega)).mono ?_
  rintro e w2 ⟨rfl, hz, -⟩
  have HZ2 : Hid (SW (kept D z 80 [] 0) w w.heap.size (fun _ => False) w2) := hz
  clear hz HZ1
  go_wp2_with fail
  refine (sw_open HO.out HZ2.out (by decide) (by decide)).mono ?_
  rintro e w3 ⟨s3, rfl, hz, -⟩
  have HZ3 : Hid (SW (on D z 80 s3 [] 0 none) w w.heap.size (fun b => False ∨ b = w3.heap.size) (w3.alloc (.cells #[.int .u8 104, .int .u8 105] 5 (2, 3)))) := SW.apart (P := on D z 80 s3 [] 0 none) HO.out.on_k HO.out.on_o hz _
  have hcv : (convert 31 31 (.slice (some ⟨w3.heap.size, 0, none⟩) 2 2)).run Tryd.prog (w3.alloc (.cells #[.int .u8 104, .int .u8 105] 5)) = .ok (.slice (some ⟨w3.heap.size, 0, none⟩) 2 2) (w3.alloc (.cells #[.int .u8 104, .int .u8 105] 5 (2, 3))) := Lib.run_convert_bytes_const w3 31 5 _ 2 2 Tryd.underlying31 Tryd.underlying5
  clear hz HZ2
  go_wp2_with fail
  clear hcv
  refine (sw_save (x := [104, 105]) (c := 2) HO.out HZ3.out (hi_bytes w3) (by decide) (by decide) (fun e => by cases e) (fun _ b o e => Or.inr (Or.inr (by simp at e; exact e.1.symm))) (by decide) (by decide) (by decide)).mono ?_
  rintro e w4 ⟨hor, -⟩
  replace hor := hor.resolve_right fun q => q.2.1 rfl
  obtain ⟨g4, rfl, hz, hg⟩ := hor
  obtain rfl := hg rfl
  have HZ4 : Hid (SW (on D z 80 s3 [104, 105] 1 none) w w.heap.size (fun _ => False) w4) := hz.less fun b q => q.elim
  clear hz hg HZ3
  go_wp2_with fail
  refine (sw_crash (a := none) (m := 0) (c := 0) (f := fun _ => 0) HO.out HZ4.out (fun i hi => absurd hi (Nat.not_lt_zero _)) (Nat.le_refl _) (Nat.zero_le _) (fun q => absurd q (by decide))).mono ?_
  rintro e w5 ⟨rfl, hz, -⟩
  have HZ5 : Hid (SW (kept D z 80 [104, 105] 1) w w.heap.size (fun _ => False) w5) := hz
  clear hz HZ4
  go_wp2_with fail
  refine (sw_open HO.out HZ5.out (by decide) (by decide)).mono ?_
  rintro e w6 ⟨s6, rfl, hz, -⟩
  have HZ6 : Hid (SW (on D z 80 s6 [104, 105] 1 none) w w.heap.size (fun _ => False) w6) := hz
  clear hz HZ5
  go_wp2_with fail
  refine (sw_load HO.out HZ6.out).mono ?_
  rintro e w7 ⟨a7, c7, rfl, hbt, hz, -⟩
  have HZ7 : Hid (SW (on D z 80 s6 [104, 105] 1 none) w w.heap.size (fun _ => False) w7) := hz
  have hcv : (convert 31 9 (.slice a7 2 c7)).run Tryd.prog w7 = .ok (.string ⟨#[104, 105]⟩) w7 := conv_any (l := [104, 105]) hbt
  clear hz HZ6 hbt
  go_wp2_with fail
  clear hcv
  refine (sw_turn HO.out HZ7.out).mono ?_
  rintro e w8 ⟨rfl, hz, -⟩
  have HB8 : Hid (Below w.heap.size w w8) := hz.below
  clear hz HZ7
  go_wp2_with fail
  refine (sw_new HO.out HB8.out HP.out.1 (by have := HP.out.2; omega)).mono ?_
  rintro e w9 ⟨d, rfl, hz⟩
  have HZ9 : Hid (SW (raw D d n) w w8.heap.size (fun _ => False) w9) := hz
  clear hz HB8
  go_wp2_with fail
  refine (sw_open_no HO.out HZ9.out).mono ?_
  rintro e w10 ⟨v10, rfl, hz, -⟩
  have HZ10 : Hid (SW (raw D d n) w w8.heap.size (fun _ => False) w10) := hz
  clear hz HZ9
  go_wp2_with fail
  refine (error_any (n := 5) ⟨Or.inr rfl⟩ (h0.below HZ10.out.below)).mono ?_
  rintro e w11 ⟨rfl, hb⟩
  have HZ11 : Hid (SW (raw D d n) w w8.heap.size (fun _ => False) w11) := HZ10.out.step HO.out.raw_k HO.out.raw_o hb
  clear hb HZ10
  go_wp2_with fail
  refine (sw_format_no HO.out HZ11.out HP.out.2).mono ?_
  rintro e w12 ⟨rfl, hz, -⟩
  have HB12 : Hid (Below w.heap.size w w12) := hz.below
  have hlt : (n : Int) < 62 := by have := HP.out.2; omega
  clear hz HZ11
  go_wp2_with fail
  refine (error_any (n := 3) ⟨Or.inr rfl⟩ (h0.below HB12.out)).mono ?_
  rintro e w13 ⟨rfl, hb⟩
  have HB13 : Hid (Below w.heap.size w w13) := below_step HB12.out hb
  clear hb
  go_wp2_with fail
  go_ret
  exact ⟨rfl, HB13.out⟩

end Go.Proofs.YtdbebeemhomjkacDoor.Sk
