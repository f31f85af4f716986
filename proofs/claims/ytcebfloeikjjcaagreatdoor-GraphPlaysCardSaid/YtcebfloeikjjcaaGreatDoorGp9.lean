/-
  GraphPlays: whatever number of nodes and whatever script.
-/
import Derived.Test.YtcebfloeikjjcaaGreatDoorGp8
namespace Go.Proofs.YtcebfloeikjjcaaGreatDoor.Gr
open Go.RowKit Go.Deep Go.Maps
open Go.RowKit (Below)
set_option linter.unusedVariables false

set_option maxRecDepth 1000000 in
set_option maxHeartbeats 4000000 in
theorem gplays_no {a : Option Addr} {la ca : Nat} {w : World} (h0 : ErrType w) (n : Int) (hn : n < 1 ∨ 60 < n) :
    Calls Tryz.prog 4 #[.int .i64 n, .slice a la ca] w fun e w' => e = .returned (.bool true) ∧ Below w.heap.size w w' := by
  have hf := fault_any n w
  rw [if_pos hn] at hf
  have hnew := gnew_no (w := w) n hn
  clear hn
  go_enter Tryz.func4, Tryz.ntmps4
  go_wp2_with fail
  refine hf.mono ?_
  rintro e w1 ⟨rfl, rfl⟩
  go_wp2_with fail
  refine hnew.mono ?_
  rintro e w2 ⟨rfl, rfl⟩
  go_wp2_with fail
  refine (error_any (n := 1) ⟨Or.inr rfl⟩ h0).mono ?_
  rintro e w3 ⟨rfl, hb3⟩
  go_wp2_with fail
  go_ret
  exact ⟨rfl, hb3⟩

set_option maxRecDepth 1000000 in
set_option maxHeartbeats 4000000 in
theorem gplays_yes {a : Option Addr} {la ca : Nat} {w : World} (h0 : ErrType w) (hs : S4 w a la) (n : Nat) (h1 : 1 ≤ n) (h60 : n ≤ 60) :
    Calls Tryz.prog 4 #[.int .i64 (n : Nat), .slice a la ca] w fun e w' => e = .returned (.bool true) ∧ Below w.heap.size w w' := by
  have hf := fault_any (n : Nat) w
  rw [if_neg (by omega)] at hf
  have HS : Hid (S4 w a la) := hs
  clear hs
  go_enter Tryz.func4, Tryz.ntmps4
  go_wp2_with fail
  refine hf.mono ?_
  rintro e w1 ⟨rfl, rfl⟩
  go_wp2_with fail
  refine (gnew_any n h1 h60).mono ?_
  rintro e w2 ⟨G, rfl, hb2, hg2, hGn, hGf⟩
  subst hGn
  go_wp2_with fail
  refine (error_any (n := 0) ⟨Or.inl ⟨rfl, rfl⟩⟩ (h0.below hb2)).mono ?_
  rintro e w3 ⟨rfl, hb3⟩
  have HQ : Hid (PW w1 G [] (fun _ => 0) (fun _ => false) none 0 0 w3 ∧ 0 ≤ 0) := ⟨⟨⟨hg2.below hb3, below_step hb2 hb3, hGf⟩, ⟨fun i hi => absurd hi (by simp)⟩, fun b e => (by cases e), rfl, Nat.le_refl _, Nat.zero_le _⟩, Nat.le_refl _⟩
  clear hb2 hg2 hb3 hGf hf
  go_wp2_with fail
  refine gp_loop h0 HS.out HQ.out _ ?_ rfl
  rintro A w4 ⟨U, AE, lv, tr, a1, N, c, _, hq, rfl⟩
  have HB : Hid (Below w1.heap.size w1 w4) := hq.1.gw.below
  clear hq
  go_wp2_with fail
  go_ret
  exact ⟨rfl, HB.out⟩

theorem gplays_all {a : Option Addr} {la ca : Nat} {w : World} (h0 : ErrType w) (hs : S4 w a la) (n : Int) :
    Calls Tryz.prog 4 #[.int .i64 n, .slice a la ca] w fun e w' => e = .returned (.bool true) ∧ Below w.heap.size w w' := by
  by_cases h : n < 1 ∨ 60 < n
  · exact gplays_no h0 n h
  · obtain ⟨m, rfl⟩ := Int.eq_ofNat_of_zero_le (show 0 ≤ n by omega)
    exact gplays_yes h0 hs m (by omega) (by omega)

end Go.Proofs.YtcebfloeikjjcaaGreatDoor.Gr
