/-
  Parts and Joints of package bridge.
-/
import Derived.Test.YtcfemppdeidjmacGreatBu
namespace Go.Proofs.YtcfemppdeidjmacGreat.Br
open Go.RowKit Go.Deep
open Go.RowKit (Below)
set_option linter.unusedVariables false

variable {w w' : World} {f : Nat → Int × Int}

set_option maxRecDepth 100000 in
set_option maxHeartbeats 1000000 in
theorem parts_no {a : Option Addr} {m c : Nat} (h : EgAt w a m f) (n : Int) (k : Nat) (x : Int) (hF : EFault n m f k x) (hx : x ≠ 0) :
    Calls Tryz.prog 14 #[.int .i64 n, .slice a m c] w fun e w' => e = .returned (.tuple #[.slice none 0 0, .iface 102 (.int .i64 x)]) ∧ Below w.heap.size w w' := by
  have hw := walked_no (c := c) h n k x hF hx
  clear h hF
  go_enter Tryz.func14, Tryz.ntmps14
  go_wp2_with fail
  refine hw.mono ?_
  rintro e w1 ⟨rfl, hb1⟩
  clear hw
  go_wp2_with fail
  go_ret2
  exact ⟨rfl, hb1⟩

set_option maxRecDepth 100000 in
set_option maxHeartbeats 2000000 in
theorem parts_ok {a : Option Addr} {m c n : Nat} {p : Nat → Nat} (h : EgAt w a m f) (hv : Valid (n : Nat) m f) (hp : Rest (edges f m) p) :
    Calls Tryz.prog 14 #[.int .i64 (n : Nat), .slice a m c] w fun e w' => ∃ k c', e = .returned (.tuple #[.slice (some ⟨k, 0, none⟩) n c', .nilIface]) ∧ IntsAt w' (some ⟨k, 0, none⟩) n (parts n p) ∧ Below w.heap.size w w' := by
  have hw := walked_ok (c := c) h hv hp
  have hn60 : n ≤ 60 := by have := hv.1; omega
  have hmk := run_make_row' (P := Tryz.prog) 33 3 (.int .i64 0) 8 Tryz.underlying33 Tryz.infoInt rfl .i64 .i64 n (by omega) (by omega)
  clear h hv hp
  go_enter Tryz.func14, Tryz.ntmps14
  go_wp2_with fail
  refine hw.mono ?_
  rintro e w1 ⟨kw, kn, V, nb, s, rfl, hW, hR, hb1⟩
  have HW : Hid (WAt w1 kw kn n V nb s) := hW
  have HR : Hid (∀ i, i < n → s.least i = p i) := fun i hi => hR.least i (hR.seen i hi)
  have HB1 : Hid (Below w.heap.size w w1) := hb1
  clear hw hW hR hb1
  go_wp2_with fail
  have HM : Hid ((w1.alloc (.cells (madeCells #[.int .i64 0] n) 3)).rowIs w1.heap.size 3 n (fun i => if i < 0 then .int .i64 (p i : Nat) else .int .i64 0)) := (World.rowIs_made w1 (.int .i64 0) n 3).congr fun i _ => by simp
  have HMb : Hid (Below w1.heap.size w1 (w1.alloc (.cells (madeCells #[.int .i64 0] n) 3))) := below_box _ _
  clear hmk
  go_loopw [9, 23] (fun _ i wr => ∃ j : Nat, j ≤ n ∧ i = .int .i64 (j : Nat) ∧ Below w1.heap.size w1 wr ∧ wr.rowIs w1.heap.size 3 n (fun i => if i < j then .int .i64 (p i : Nat) else .int .i64 0)) (fun _ i _ => n - (intOf i).toNat)
  case atStart => exact ⟨0, Nat.zero_le _, rfl, HMb.out, HM.out⟩
  case round =>
    obtain ⟨j, hj, rfl, hb, hrow⟩ := hrel
    by_cases hlt : j < n
    · have c2 := (HW.out.below hb).f2 hlt
      rw [HR.out j hlt] at c2
      have d0 : wr.cell? ⟨w1.heap.size, j, none⟩ = some (.int .i64 0) := by rw [hrow.cell hlt]; simp
      have z0 := hrow.frozen j
      have HX : Hid (Below w1.heap.size w1 (wr.setCell ⟨w1.heap.size, j, none⟩ (.int .i64 (p j : Nat))) ∧ (wr.setCell ⟨w1.heap.size, j, none⟩ (.int .i64 (p j : Nat))).rowIs w1.heap.size 3 n (fun i => if i < j + 1 then .int .i64 (p i : Nat) else .int .i64 0)) := ⟨hb.setCell (Nat.le_refl _) _, (hrow.set j _).congr fun i hi => by
        by_cases e : i = j
        · subst e; simp
        · by_cases q : i < j
          · simp [e, q, show i < j + 1 by omega]
          · simp [e, q, show ¬ i < j + 1 by omega]⟩
      have i0 : (0 : Int) ≤ (j : Int) := by omega
      have i1 : (j : Int) < (n : Int) := by omega
      clear hb hrow
      generalize w1.heap.size = B at *
      go_wp2_with fail
      exact ⟨⟨j + 1, by omega, by go_num, HX.out⟩, by simp [intOf]; omega⟩
    · obtain rfl : j = n := by omega
      have HX : Hid (IntsAt wr (some ⟨w1.heap.size, 0, none⟩) j (parts j p) ∧ Below w.heap.size w wr) := ⟨parts_at fun i hi => by rw [hrow.cell hi]; simp [hi], below_step HB1.out hb⟩
      clear hb hrow
      go_wp2_with fail
      go_ret2
      exact ⟨_, _, rfl, HX.out⟩

end Go.Proofs.YtcfemppdeidjmacGreat.Br
