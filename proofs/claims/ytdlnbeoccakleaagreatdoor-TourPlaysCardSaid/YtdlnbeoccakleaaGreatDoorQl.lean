/-
  TourPlays: whatever number of nodes and whatever script.
-/
import Derived.Test.YtdlnbeoccakleaaGreatDoorQk
namespace Go.Proofs.YtdlnbeoccakleaaGreatDoor
open Go.RowKit Go.Deep
set_option linter.unusedVariables false

set_option maxRecDepth 1000000 in
set_option maxHeartbeats 4000000 in
theorem tplays_no {a : Option Addr} {la ca : Nat} {w : World} (h0 : ErrType w) (n : Int) (hn : n < 1 ∨ 60 < n) :
    Calls Tryz.prog 3 #[.int .i64 n, .slice a la ca] w fun e w' => e = .returned (.bool true) ∧ Below w.heap.size w w' := by
  have hf := fault_any n w
  rw [if_pos hn] at hf
  have hnew := fnew_no (w := w) n hn
  clear hn
  go_enter Tryz.func3, Tryz.ntmps3
  go_wp2_with fail
  refine hf.mono ?_
  rintro e w1 ⟨rfl, rfl⟩
  go_wp2_with fail
  refine hnew.mono ?_
  rintro e w2 ⟨rfl, rfl⟩
  go_wp2_with fail
  refine (error_any (n := 1) ⟨Or.inr rfl⟩ h0).mono ?_
  rintro e w3 ⟨rfl, hb3⟩
  go_wp2_with fail
  go_ret
  exact ⟨rfl, hb3⟩

set_option maxRecDepth 1000000 in
set_option maxHeartbeats 4000000 in
theorem tplays_yes {a : Option Addr} {la ca : Nat} {w : World} (h0 : ErrType w) (hs : S4 w a la) (n : Nat) (h1 : 1 ≤ n) (h60 : n ≤ 60) :
    Calls Tryz.prog 3 #[.int .i64 (n : Nat), .slice a la ca] w fun e w' => e = .returned (.bool true) ∧ Below w.heap.size w w' := by
  have hf := fault_any (n : Nat) w
  rw [if_neg (by omega)] at hf
  have HS : Hid (S4 w a la) := hs
  clear hs
  go_enter Tryz.func3, Tryz.ntmps3
  go_wp2_with fail
  refine hf.mono ?_
  rintro e w1 ⟨rfl, rfl⟩
  go_wp2_with fail
  refine (fnew_any n h1 h60).mono ?_
  rintro e w2 ⟨L, rfl, hb2, hf2, hLn, hLf⟩
  subst hLn
  go_wp2_with fail
  refine (error_any (n := 0) ⟨Or.inl ⟨rfl, rfl⟩⟩ (h0.below hb2)).mono ?_
  rintro e w3 ⟨rfl, hb3⟩
  have HQ : Hid (QW w1 L [] (fun i => i) none 0 0 w3) := ⟨hf2.below hb3, below_step hb2 hb3, hLf, ⟨fun i hi => absurd hi (by simp)⟩, fun b e => (by cases e), rfl, Nat.le_refl _, Nat.zero_le _⟩
  clear hb2 hf2 hb3 hLf hf
  go_wp2_with fail
  refine tp_loop h0 HS.out HQ.out _ ?_ rfl
  rintro A w4 ⟨U, E, p, a1, N, c, _, hq, rfl⟩
  have HB : Hid (Below w1.heap.size w1 w4) := hq.below
  clear hq
  go_wp2_with fail
  go_ret
  exact ⟨rfl, HB.out⟩

theorem tplays_all {a : Option Addr} {la ca : Nat} {w : World} (h0 : ErrType w) (hs : S4 w a la) (n : Int) :
    Calls Tryz.prog 3 #[.int .i64 n, .slice a la ca] w fun e w' => e = .returned (.bool true) ∧ Below w.heap.size w w' := by
  by_cases h : n < 1 ∨ 60 < n
  · exact tplays_no h0 n h
  · obtain ⟨m, rfl⟩ := Int.eq_ofNat_of_zero_le (show 0 ≤ n by omega)
    exact tplays_yes h0 hs m (by omega) (by omega)

end Go.Proofs.YtdlnbeoccakleaaGreatDoor
