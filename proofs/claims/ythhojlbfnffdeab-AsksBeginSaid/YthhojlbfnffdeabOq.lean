/-
  AsksBegin: whatever events, place and nodes.
-/
import Derived.Test.YthhojlbfnffdeabOp
namespace Go.Proofs.Ythhojlbfnffdeab.As
open Go.RowKit Go.Deep
open Go.RowKit (Below)
set_option linter.unusedVariables false

variable {w w' : World} {f : Nat → Int × Int × Int}

theorem bools_new (w : World) (b : Bool) : BoolsAt (w.alloc (.cells #[.bool b] 4)) (some ⟨w.heap.size, 0, none⟩) 1 [b] := ⟨rfl, fun i hi => by
  obtain rfl : i = 0 := by omega
  exact ⟨_, 0, rfl, by simp⟩⟩

theorem event_new (w : World) (x y z : Int) : EvAt (w.alloc (.cells #[.int .i64 x, .int .i64 y, .int .i64 z] 29)) (some ⟨w.heap.size, 0, none⟩) 1 (fun _ => (x, y, z)) := fun i hi => by
  obtain rfl : i = 0 := by omega
  exact ⟨_, 0, rfl, by simp, by simp, by simp⟩

set_option maxRecDepth 100000 in
set_option maxHeartbeats 4000000 in
theorem begin_no (H : AnsOk) {a : Option Addr} {m c : Nat} (h : EvAt w a m f) (hfit : Fits f m) (n k x y : Int) (hv : ¬ Valid n m f) :
    Calls Try.prog 3 #[.int .i64 n, .slice a m c, .int .i64 k, .int .i64 x, .int .i64 y] w fun e w' => e = .returned (.bool true) ∧ Below w.heap.size w w' := by
  have HH : Hid (EvAt w a m f) := h
  have HV : Hid (¬ Valid n m f) := hv
  have HFit : Hid (Fits f m) := hfit
  have HA : Hid AnsOk := H
  have hbuild : ∀ (x y z : Int) (W : World), (Instr.build 29 #[(0, .int .i64 x), (1, .int .i64 y), (2, .int .i64 z)]).run Try.prog W = .ok (.agg #[.int .i64 x, .int .i64 y, .int .i64 z]) W := fun x y z W => run_build W 29 _ _ (by kernel_rfl)
  have hbA : Below w.heap.size w (w.alloc (.cells #[.int .i64 3, .int .i64 1, .int .i64 1] 29)) := (Below.refl _ _).alloc (Nat.le_refl _) _
  have HE0 : Hid (EvAt (w.alloc (.cells #[.int .i64 3, .int .i64 1, .int .i64 1] 29)) (some ⟨w.heap.size, 0, none⟩) 1 (fun _ => (3, 1, 1))) := event_new w 3 1 1
  clear h hv H hfit
  go_enter Try.func3, Try.ntmps3
  go_wp2_with fail
  refine (HA.out.ok 2 HE0.out valid_self).mono ?_
  rintro e w1 ⟨v1, l1, rfl, hans, hown, hb1⟩
  obtain rfl := ans_self hans
  obtain ⟨a1, c1, rfl, hbo, -, -⟩ := own_bools (n := 1) hown rfl
  clear hown
  have hs := bools_same (c := c1) (c' := 1) (hbo.below ((Below.refl _ _).alloc (Nat.le_refl _) (.cells #[.bool true] 4))) (bools_new w1 true) (by decide)
  have HB1 : Hid (Below w.heap.size w (w1.alloc (.cells #[.bool true] 4))) := (below_step hbA hb1).alloc (by have := (below_step hbA hb1).size; exact this) _
  clear hans hbo hb1 hbA HE0
  go_wp2_with fail
  refine hs.mono ?_
  rintro e w2 ⟨rfl, hb2⟩
  have HB2 : Hid (Below w.heap.size w w2) := below_step HB1.out hb2
  clear hs hb2 HB1
  go_wp2_with fail
  refine (HA.out.no n (HH.out.below HB2.out) HFit.out HV.out).mono ?_
  rintro e w3 ⟨v3, t3, y3, rfl, hb3⟩
  have HB3 : Hid (Below w.heap.size w w3) := below_step HB2.out hb3
  clear hb3 HB2
  go_wp2_with fail
  go_ret
  exact ⟨rfl, HB3.out⟩

end Go.Proofs.Ythhojlbfnffdeab.As
